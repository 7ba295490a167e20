/- The document's own answer: whether a tree may be. -/
import Derived.Test.YtkioolbjmcpjpaaGreatDoorFormT
import Derived.Test.YtkioolbjmcpjpaaGreatDoorZe1
import Derived.Test.YtkioolbjmcpjpaaGreatDoorRefT
import Derived.Test.YtkioolbjmcpjpaaGreatDoorFormA
import Derived.Test.YtkioolbjmcpjpaaGreatDoorRefO
import Derived.Test.YtkioolbjmcpjpaaGreatDoorMakerC0
import Derived.Test.YtkioolbjmcpjpaaGreatDoorMakerC4
import Derived.Test.YtkioolbjmcpjpaaGreatDoorMakerC5
import Derived.Test.YtkioolbjmcpjpaaGreatDoorMakerC6
import Derived.Test.YtkioolbjmcpjpaaGreatDoorTermSize
import Derived.Test.YtkioolbjmcpjpaaGreatDoorObsT2
import Derived.Test.YtkioolbjmcpjpaaGreatDoorTermWalk
import Derived.Test.YtkioolbjmcpjpaaGreatDoorBase
import Derived.Test.YtkioolbjmcpjpaaGreatDoorSize
namespace Go.Proofs.YtkioolbjmcpjpaaGreatDoor
open Go.RowKit
set_option linter.unusedVariables false

theorem addAll_len : ∀ (l acc : List ByteArray), (addAll acc l).length < acc.length + l.length ↔ ¬ (l.Nodup ∧ ∀ s ∈ l, s ∉ acc) := by
  intro l
  induction l with
  | nil => intro acc; simp [addAll]
  | cons s l ih =>
    intro acc
    show (addAll (addN acc s) l).length < _ ↔ _
    by_cases hs : s ∈ acc
    · rw [addN_twice acc s hs]
      have h := addAll_length l acc
      constructor
      · intro _ hn
        exact hn.2 s (by simp) hs
      · intro _
        simp only [List.length_cons]
        omega
    · have e : addN acc s = acc ++ [s] := by
        unfold addN
        rw [if_neg (fun e => hs ((inN_iff acc s).1 e))]
      have h := ih (acc ++ [s])
      rw [e]
      have hl : (acc ++ [s]).length + l.length = acc.length + (s :: l).length := by simp; omega
      rw [hl] at h
      rw [h]
      constructor
      · intro hn hc
        apply hn
        refine ⟨(List.nodup_cons.1 hc.1).2, fun x hx => ?_⟩
        simp only [List.mem_append, List.mem_singleton, not_or]
        exact ⟨hc.2 x (by simp [hx]), fun ex => (List.nodup_cons.1 hc.1).1 (ex ▸ hx)⟩
      · intro hn hc
        apply hn
        refine ⟨List.nodup_cons.2 ⟨fun hx => ?_, hc.1⟩, fun x hx => ?_⟩
        · have := hc.2 s hx
          simp at this
        · simp only [List.mem_cons] at hx
          rcases hx with rfl | hx
          · exact hs
          · have := hc.2 x hx
            simp only [List.mem_append, List.mem_singleton, not_or] at this
            exact this.1
theorem twice_iff (l : List ByteArray) : twice l = true ↔ ¬ l.Nodup := by
  have h := addAll_len l []
  simp only [List.length_nil, Nat.zero_add, List.not_mem_nil, not_false_eq_true, implies_true, and_true] at h
  unfold twice
  rw [decide_eq_true_iff]
  exact h
/-- What the document's Check answers. -/
def chkT (t : T) (nb : Bool) : Int := if formT t nb = true then (if 60 < t.nodes ∨ 12 < t.depth then 5 else if twice t.labs = true then 4 else 0) else 2
theorem nodup_take {l : List ByteArray} {i : Nat} {s : ByteArray} (h : (l.take i).Nodup) (hs : l[i]? = some s) (hn : ∀ b, b < i → l[b]? ≠ some s) : (l.take (i + 1)).Nodup := by
  rw [take_more _ _ _ hs, List.nodup_append]
  refine ⟨h, by simp, fun x hx y hy => ?_⟩
  simp at hy
  subst hy
  intro e
  subst e
  obtain ⟨b, hb, he⟩ := List.mem_iff_getElem.1 hx
  rw [List.length_take] at hb
  refine hn b (by omega) ?_
  rw [← he, List.getElem_take]
  exact List.getElem?_eq_getElem (by omega)
theorem nodup_get {l : List ByteArray} (h : l.Nodup) {i j : Nat} {s : ByteArray} (hi : l[i]? = some s) (hj : l[j]? = some s) : i = j := by
  obtain ⟨h1, e1⟩ := List.getElem?_eq_some_iff.1 hi
  obtain ⟨h2, e2⟩ := List.getElem?_eq_some_iff.1 hj
  exact (List.getElem_inj h).1 (e1.trans e2.symm)

set_option maxHeartbeats 4000000 in
set_option maxRecDepth 100000 in
theorem refCheck_any (t : T) (hsz : t.Sized) (hcnt : t.cnt ≤ 999990) (hnd : t.nodes ≤ 1000000) (nb : Bool) (w : World) (v : Value) (hv : TIn w 0 t v) : Calls Tryz.prog 50 #[v, .bool nb] w fun e w' => e = .returned (.int .i64 (chkT t nb)) ∧ Below w.heap.size w w' := by
  have HV := hidIn hv
  have hdn := T_depth_nodes t
  obtain ⟨a, cap, rfl, hc1, hc2, hK⟩ := hv
  have HSZ := hidIn hsz
  have HLN := hidIn (labs_cnt t)
  have HCN := hidIn hcnt
  obtain ⟨W, hW⟩ : ∃ W, W = w.alloc (.cells #[.int .i64 t.kind, .string t.s, .int .i64 t.n, .slice a t.k.length cap] 33) := ⟨_, rfl⟩
  have HB : Hid (Below w.heap.size w W) := by rw [hW]; exact below_alloc (Below.refl _ _) _
  have HBK : Hid (W.heap[w.heap.size]? = some (.cells #[.int .i64 t.kind, .string t.s, .int .i64 t.n, .slice a t.k.length cap] 33 (0, 0))) := by rw [hW]; exact heap_alloc_new _ _
  have HF : Hid (∀ X, Below W.heap.size W X → (X.cell? ⟨w.heap.size, 0, none⟩ = some (.int .i64 t.kind) ∧ X.cell? ⟨w.heap.size, 1, none⟩ = some (.string t.s) ∧ X.cell? ⟨w.heap.size, 2, none⟩ = some (.int .i64 t.n) ∧ X.cell? ⟨w.heap.size, 3, none⟩ = some (.slice a t.k.length cap)) ∧ TIn X 0 t (.agg #[.int .i64 t.kind, .string t.s, .int .i64 t.n, .slice a t.k.length cap])) := fun X hX => by
    have h := (hX.block _ (Array.getElem?_eq_some_iff.1 HBK.out).1).trans HBK.out
    exact ⟨⟨(cell_of_row _ _ _ _ _ _ h).trans rfl, (cell_of_row _ _ _ _ _ _ h).trans rfl, (cell_of_row _ _ _ _ _ _ h).trans rfl, (cell_of_row _ _ _ _ _ _ h).trans rfl⟩, (HV.out.below HB.out).below hX⟩
  clear hK hsz hcnt
  go_enter Tryz.func50, Tryz.ntmps50
  go_wp2_with fail
  rw [← hW]
  clear hW HBK HV
  refine (form_any t HSZ.out nb W _ (HF.out W (Below.refl _ _)).2).mono ?_
  rintro e w1 ⟨rfl, hb1⟩
  obtain ⟨⟨c0, c1, c2, c3⟩, t1⟩ := HF.out w1 hb1
  have HT1 := hidIn t1
  have HB1 := hidIn hb1
  clear t1 hb1
  cases hf : formT t nb
  · go_wp2_with fail
    go_ret
    exact ⟨by unfold chkT; rw [if_neg (by rw [hf]; simp)]; rfl, HB.out.trans (HB1.out.mono HB.out.size)⟩
  · have HC : Hid (chkT t nb = if 60 < t.nodes ∨ 12 < t.depth then 5 else if twice t.labs = true then 4 else 0) := by unfold Hid chkT; rw [if_pos hf]
    go_wp2_with fail
    refine (refSize_any t w1 _ HT1.out hnd).mono ?_
    rintro e w2 ⟨rfl, hb2⟩
    have hx2 := HB1.out.trans (hb2.mono HB1.out.size)
    have HX2 := hidIn hx2
    obtain ⟨⟨d0, d1, d2, d3⟩, t2⟩ := HF.out w2 hx2
    have HT2 := hidIn t2
    have HB2 := hidIn (HB.out.trans (hx2.mono HB.out.size))
    clear t2 hb2 hx2 c0 c1 c2 c3
    by_cases h1 : 60 < t.nodes
    · have h1' : (60 : Int) < (t.nodes : Int) := by omega
      go_wp2_with fail
      go_ret
      exact ⟨by rw [HC.out, if_pos (.inl h1)]; rfl, HB2.out⟩
    · have h1' : ¬ (60 : Int) < (t.nodes : Int) := by omega
      have h1d : decide ((60 : Int) < (t.nodes : Int)) = false := by simpa using h1'
      by_cases h2 : 12 < t.depth
      · have h2' : (12 : Int) < (t.depth : Int) := by omega
        go_wp2_with fail
        go_ret
        exact ⟨by rw [HC.out, if_pos (.inr h2)]; rfl, HB2.out⟩
      · have h2' : ¬ (12 : Int) < (t.depth : Int) := by omega
        have HC2 : Hid (chkT t nb = if twice t.labs = true then 4 else 0) := by unfold Hid; rw [HC.out, if_neg (by omega)]
        go_wp2_with fail
        refine (refLabels_any t HCN.out w2 _ HT2.out).mono ?_
        rintro e w3 ⟨v3, rfl, hrow3, hb3⟩
        have HB3 := hidIn (HB2.out.trans (hb3.mono HB2.out.size))
        obtain ⟨ao, lc, rfl, htx, hll, _⟩ := own_txt hrow3
        have HTX := hidIn htx
        have hlen : t.labs.length ≤ 1000000 := by have := HLN.out; have := HCN.out; omega
        clear hrow3 hb3 htx d0 d1 d2 d3 HC HT1 HT2 HX2 HB2
        generalize t.labs = l at *
        go_wp2_with fail
        go_loopw [29] (fun s29 wr => ∃ i : Nat, i ≤ l.length ∧ s29 = .int .i64 i ∧ Hid ((l.take i).Nodup) ∧ Below w3.heap.size w3 wr) (fun s29 _ => l.length - (intOf s29).toNat)
        case atStart => exact ⟨0, by omega, rfl, by unfold Hid; simp, Below.refl _ _⟩
        case round =>
          obtain ⟨i, hi, rfl, HN, hbr⟩ := hrel
          obtain ⟨wA, hwA⟩ : ∃ y, y = wr := ⟨_, rfl⟩
          subst hwA
          have HBA := hidIn hbr
          clear hbr
          by_cases hlt : i < l.length
          · have hlt' : (i : Int) < (l.length : Int) := by omega
            obtain ⟨s, hs⟩ : ∃ s, l[i]? = some s := ⟨_, List.getElem?_eq_getElem hlt⟩
            have HS := hidIn hs
            clear hs
            go_wp2_with fail
            go_loopw [9] (fun s9 wr => ∃ j : Nat, j ≤ i ∧ s9 = .int .i64 j ∧ Hid (∀ b, b < j → l[b]? ≠ some s) ∧ Below w3.heap.size w3 wr) (fun s9 _ => i - (intOf s9).toNat)
            case atStart => exact ⟨0, by omega, rfl, by intro b hb; omega, HBA.out⟩
            case round =>
              obtain ⟨j, hj, rfl, HJ, hbr⟩ := hrel
              by_cases hjl : j < i
              · have hjl' : (j : Int) < (i : Int) := by omega
                have hjl2 : (j : Int) < (l.length : Int) := by omega
                obtain ⟨y, hy⟩ : ∃ y, l[j]? = some y := ⟨_, List.getElem?_eq_getElem (by omega)⟩
                obtain ⟨g, rfl, k0⟩ := (HTX.out.below hbr) i s HS.out
                obtain ⟨g', eg, k1⟩ := (HTX.out.below hbr) j y hy
                have hgg : g' = g := by injection eg with eg; injection eg with eg; exact eg.symm
                subst hgg
                have HY := hidIn hy
                clear hy eg
                by_cases he : s = y
                · subst he
                  have HTW : Hid (twice l = true) := (twice_iff l).2 (fun hn => by have := nodup_get hn HS.out HY.out; omega)
                  go_wp2_with fail
                  go_quiet (fail)
                  go_wp2_with fail
                  go_ret
                  exact ⟨by rw [HC2.out, HTW.out]; rfl, HB3.out.trans ((below_drewN hbr _).mono HB3.out.size)⟩
                · have he' : ¬ s.toList = y.toList := fun e => he (toList_inj e)
                  have heb : (s.toList == y.toList) = false := by rw [beq_eq_false_iff_ne]; exact he'
                  go_wp2_with fail
                  go_quiet (fail)
                  go_wp2_with fail
                  go_roundw
                  case rel =>
                    refine ⟨j + 1, by omega, by go_num, fun b hb => ?_, below_drewN hbr _⟩
                    by_cases hbj : b = j
                    · subst hbj
                      rw [HY.out]
                      intro e
                      injection e with e
                      exact he e.symm
                    · exact HJ.out b (by omega)
                  case measure => simp [intOf]; omega
              · have hji : j = i := by omega
                subst hji
                have HN2 : Hid ((l.take (j + 1)).Nodup) := nodup_take HN.out HS.out HJ.out
                clear HJ HN hjl
                go_wp2_with fail
                go_roundw
                case rel => exact ⟨j + 1, by omega, by go_num, HN2, hbr⟩
                case measure => simp [intOf]; omega
          · have hle : i = l.length := by omega
            subst hle
            have HTW : Hid (twice l = false) := by
              have h := HN.out
              rw [List.take_length] at h
              show twice l = false
              cases ht : twice l
              · rfl
              · exact absurd h ((twice_iff l).1 ht)
            clear HN hlt
            go_wp2_with fail
            go_ret
            exact ⟨by rw [HC2.out, HTW.out]; rfl, HB3.out.trans (HBA.out.mono HB3.out.size)⟩

end Go.Proofs.YtkioolbjmcpjpaaGreatDoor
namespace Go.Proofs.YtkioolbjmcpjpaaGreatDoor
open Go.RowKit
set_option linter.unusedVariables false

/-- The word of a kind. -/
def wordB (k : Int) : ByteArray := ([⟨#[]⟩, ⟨#[122, 101, 114, 111]⟩, ⟨#[111, 110, 101]⟩, ⟨#[103, 105, 118, 101]⟩, ⟨#[97, 110, 100]⟩, ⟨#[111, 114]⟩, ⟨#[115, 99, 97, 108, 101]⟩, ⟨#[119, 104, 101, 110]⟩, ⟨#[105, 102]⟩, ⟨#[]⟩, ⟨#[]⟩, ⟨#[]⟩, ⟨#[102, 105, 120]⟩, ⟨#[97, 100, 100]⟩, ⟨#[110, 101, 103]⟩, ⟨#[109, 117, 108]⟩, ⟨#[109, 97, 120]⟩] : List ByteArray).getD k.toNat ⟨#[]⟩
theorem wordB_size : ∀ k : Nat, k < 17 → (wordB k).size ≤ 5 := by decide +kernel

set_option maxHeartbeats 1000000 in
set_option maxRecDepth 100000 in
theorem word_0 (w : World) : Calls Tryz.prog 118 #[.int .i64 0] w fun e w' => e = .returned (.string (wordB 0)) ∧ Below w.heap.size w w' := by
  go_enter Tryz.func118, Tryz.ntmps118
  go_wp2_with fail
  go_ret
  exact ⟨rfl, below_alloc (Below.refl _ _) _⟩
set_option maxHeartbeats 1000000 in
set_option maxRecDepth 100000 in
theorem word_1 (w : World) : Calls Tryz.prog 118 #[.int .i64 1] w fun e w' => e = .returned (.string (wordB 1)) ∧ Below w.heap.size w w' := by
  go_enter Tryz.func118, Tryz.ntmps118
  go_wp2_with fail
  go_ret
  exact ⟨rfl, below_alloc (Below.refl _ _) _⟩
set_option maxHeartbeats 1000000 in
set_option maxRecDepth 100000 in
theorem word_2 (w : World) : Calls Tryz.prog 118 #[.int .i64 2] w fun e w' => e = .returned (.string (wordB 2)) ∧ Below w.heap.size w w' := by
  go_enter Tryz.func118, Tryz.ntmps118
  go_wp2_with fail
  go_ret
  exact ⟨rfl, below_alloc (Below.refl _ _) _⟩
set_option maxHeartbeats 1000000 in
set_option maxRecDepth 100000 in
theorem word_3 (w : World) : Calls Tryz.prog 118 #[.int .i64 3] w fun e w' => e = .returned (.string (wordB 3)) ∧ Below w.heap.size w w' := by
  go_enter Tryz.func118, Tryz.ntmps118
  go_wp2_with fail
  go_ret
  exact ⟨rfl, below_alloc (Below.refl _ _) _⟩
set_option maxHeartbeats 1000000 in
set_option maxRecDepth 100000 in
theorem word_4 (w : World) : Calls Tryz.prog 118 #[.int .i64 4] w fun e w' => e = .returned (.string (wordB 4)) ∧ Below w.heap.size w w' := by
  go_enter Tryz.func118, Tryz.ntmps118
  go_wp2_with fail
  go_ret
  exact ⟨rfl, below_alloc (Below.refl _ _) _⟩
set_option maxHeartbeats 1000000 in
set_option maxRecDepth 100000 in
theorem word_5 (w : World) : Calls Tryz.prog 118 #[.int .i64 5] w fun e w' => e = .returned (.string (wordB 5)) ∧ Below w.heap.size w w' := by
  go_enter Tryz.func118, Tryz.ntmps118
  go_wp2_with fail
  go_ret
  exact ⟨rfl, below_alloc (Below.refl _ _) _⟩
set_option maxHeartbeats 1000000 in
set_option maxRecDepth 100000 in
theorem word_6 (w : World) : Calls Tryz.prog 118 #[.int .i64 6] w fun e w' => e = .returned (.string (wordB 6)) ∧ Below w.heap.size w w' := by
  go_enter Tryz.func118, Tryz.ntmps118
  go_wp2_with fail
  go_ret
  exact ⟨rfl, below_alloc (Below.refl _ _) _⟩
set_option maxHeartbeats 1000000 in
set_option maxRecDepth 100000 in
theorem word_7 (w : World) : Calls Tryz.prog 118 #[.int .i64 7] w fun e w' => e = .returned (.string (wordB 7)) ∧ Below w.heap.size w w' := by
  go_enter Tryz.func118, Tryz.ntmps118
  go_wp2_with fail
  go_ret
  exact ⟨rfl, below_alloc (Below.refl _ _) _⟩
set_option maxHeartbeats 1000000 in
set_option maxRecDepth 100000 in
theorem word_8 (w : World) : Calls Tryz.prog 118 #[.int .i64 8] w fun e w' => e = .returned (.string (wordB 8)) ∧ Below w.heap.size w w' := by
  go_enter Tryz.func118, Tryz.ntmps118
  go_wp2_with fail
  go_ret
  exact ⟨rfl, below_alloc (Below.refl _ _) _⟩
set_option maxHeartbeats 1000000 in
set_option maxRecDepth 100000 in
theorem word_9 (w : World) : Calls Tryz.prog 118 #[.int .i64 9] w fun e w' => e = .returned (.string (wordB 9)) ∧ Below w.heap.size w w' := by
  go_enter Tryz.func118, Tryz.ntmps118
  go_wp2_with fail
  go_ret
  exact ⟨rfl, below_alloc (Below.refl _ _) _⟩
set_option maxHeartbeats 1000000 in
set_option maxRecDepth 100000 in
theorem word_10 (w : World) : Calls Tryz.prog 118 #[.int .i64 10] w fun e w' => e = .returned (.string (wordB 10)) ∧ Below w.heap.size w w' := by
  go_enter Tryz.func118, Tryz.ntmps118
  go_wp2_with fail
  go_ret
  exact ⟨rfl, below_alloc (Below.refl _ _) _⟩
set_option maxHeartbeats 1000000 in
set_option maxRecDepth 100000 in
theorem word_11 (w : World) : Calls Tryz.prog 118 #[.int .i64 11] w fun e w' => e = .returned (.string (wordB 11)) ∧ Below w.heap.size w w' := by
  go_enter Tryz.func118, Tryz.ntmps118
  go_wp2_with fail
  go_ret
  exact ⟨rfl, below_alloc (Below.refl _ _) _⟩
set_option maxHeartbeats 1000000 in
set_option maxRecDepth 100000 in
theorem word_12 (w : World) : Calls Tryz.prog 118 #[.int .i64 12] w fun e w' => e = .returned (.string (wordB 12)) ∧ Below w.heap.size w w' := by
  go_enter Tryz.func118, Tryz.ntmps118
  go_wp2_with fail
  go_ret
  exact ⟨rfl, below_alloc (Below.refl _ _) _⟩
set_option maxHeartbeats 1000000 in
set_option maxRecDepth 100000 in
theorem word_13 (w : World) : Calls Tryz.prog 118 #[.int .i64 13] w fun e w' => e = .returned (.string (wordB 13)) ∧ Below w.heap.size w w' := by
  go_enter Tryz.func118, Tryz.ntmps118
  go_wp2_with fail
  go_ret
  exact ⟨rfl, below_alloc (Below.refl _ _) _⟩
set_option maxHeartbeats 1000000 in
set_option maxRecDepth 100000 in
theorem word_14 (w : World) : Calls Tryz.prog 118 #[.int .i64 14] w fun e w' => e = .returned (.string (wordB 14)) ∧ Below w.heap.size w w' := by
  go_enter Tryz.func118, Tryz.ntmps118
  go_wp2_with fail
  go_ret
  exact ⟨rfl, below_alloc (Below.refl _ _) _⟩
set_option maxHeartbeats 1000000 in
set_option maxRecDepth 100000 in
theorem word_15 (w : World) : Calls Tryz.prog 118 #[.int .i64 15] w fun e w' => e = .returned (.string (wordB 15)) ∧ Below w.heap.size w w' := by
  go_enter Tryz.func118, Tryz.ntmps118
  go_wp2_with fail
  go_ret
  exact ⟨rfl, below_alloc (Below.refl _ _) _⟩
set_option maxHeartbeats 1000000 in
set_option maxRecDepth 100000 in
theorem word_16 (w : World) : Calls Tryz.prog 118 #[.int .i64 16] w fun e w' => e = .returned (.string (wordB 16)) ∧ Below w.heap.size w w' := by
  go_enter Tryz.func118, Tryz.ntmps118
  go_wp2_with fail
  go_ret
  exact ⟨rfl, below_alloc (Below.refl _ _) _⟩
theorem word_any (k : Int) (h0 : 0 ≤ k) (hk : k ≤ 16) (w : World) : Calls Tryz.prog 118 #[.int .i64 k] w fun e w' => e = .returned (.string (wordB k)) ∧ Below w.heap.size w w' := by
  have h : k = 0 ∨ k = 1 ∨ k = 2 ∨ k = 3 ∨ k = 4 ∨ k = 5 ∨ k = 6 ∨ k = 7 ∨ k = 8 ∨ k = 9 ∨ k = 10 ∨ k = 11 ∨ k = 12 ∨ k = 13 ∨ k = 14 ∨ k = 15 ∨ k = 16 := by omega
  rcases h with rfl | rfl | rfl | rfl | rfl | rfl | rfl | rfl | rfl | rfl | rfl | rfl | rfl | rfl | rfl | rfl | rfl
  · exact word_0 w
  · exact word_1 w
  · exact word_2 w
  · exact word_3 w
  · exact word_4 w
  · exact word_5 w
  · exact word_6 w
  · exact word_7 w
  · exact word_8 w
  · exact word_9 w
  · exact word_10 w
  · exact word_11 w
  · exact word_12 w
  · exact word_13 w
  · exact word_14 w
  · exact word_15 w
  · exact word_16 w

/-- What stands in a tree's text ahead of its parts. -/
def headP (kind : Int) (s : ByteArray) (n : Int) : List ByteArray := if kind = 2 ∨ kind = 5 ∨ kind = 12 then [s] else if kind = 7 then [numT n] else []
mutual
/-- A tree's text. -/
def textT : T → ByteArray
  | .mk kind s n k => if kind = 11 then numT n else if kind = 1 then ⟨#[122, 101, 114, 111]⟩ else joinT (wordB kind) (headP kind s n ++ textTL k)
def textTL : List T → List ByteArray
  | [] => []
  | t :: l => textT t :: textTL l
end
mutual
/-- A tree whose kinds are some, whose numbers have 64 bits. -/
def T.wk : T → Prop
  | .mk kind s n k => (0 ≤ kind ∧ kind ≤ 16) ∧ (-9223372036854775808 ≤ n ∧ n ≤ 9223372036854775807) ∧ wkL k
def wkL : List T → Prop
  | [] => True
  | t :: l => t.wk ∧ wkL l
end
theorem wkL_mem : ∀ {l : List T}, wkL l → ∀ t ∈ l, t.wk := by
  intro l
  induction l with
  | nil => intro _ t h; cases h
  | cons a l ih =>
    intro h t ht
    unfold wkL at h
    rcases List.mem_cons.1 ht with rfl | ht
    · exact h.1
    · exact ih h.2 t ht
theorem textTL_map (l : List T) : textTL l = l.map textT := by
  induction l with
  | nil => simp [textTL]
  | cons a l ih => simp [textTL, ih]
/-- The parts put together, from the word on. -/
def putT (word : ByteArray) (xs : List ByteArray) : ByteArray := word ++ ⟨#[40]⟩ ++ ⟨(Lib.join (xs.map (·.data.toList)) [44]).toArray⟩
def sepT (xs : List ByteArray) : ByteArray := if xs = [] then ⟨#[]⟩ else ⟨#[44]⟩
theorem joinTail_snoc (sep : List UInt8) (r : List (List UInt8)) (x : List UInt8) : Lib.joinTail sep (r ++ [x]) = Lib.joinTail sep r ++ (sep ++ x) := by
  simp [Lib.joinTail]
theorem ba_ext {a b : ByteArray} (h : a.data.toList = b.data.toList) : a = b := by
  cases a with | mk a => cases b with | mk b => simp only [ByteArray.mk.injEq]; exact Array.toList_inj.1 h
theorem ba_app (a b : ByteArray) : (a ++ b).data.toList = a.data.toList ++ b.data.toList := by simp
theorem putT_snoc (word : ByteArray) (xs : List ByteArray) (x : ByteArray) : putT word (xs ++ [x]) = putT word xs ++ sepT xs ++ x := by
  apply ba_ext
  unfold putT
  simp only [ba_app]
  cases xs with
  | nil => simp [sepT, Lib.join_one, Lib.join_nil]
  | cons a r =>
    rw [sepT, if_neg (by simp)]
    simp only [List.cons_append, List.map_cons, List.map_append, List.map_nil, Lib.join_cons, joinTail_snoc, List.append_assoc]
theorem sepT_snoc (xs : List ByteArray) (x : ByteArray) : sepT (xs ++ [x]) = ⟨#[44]⟩ := by rw [sepT, if_neg (by simp)]
theorem putT_size (word : ByteArray) (xs : List ByteArray) : (putT word xs).size = word.size + 1 + (Lib.join (xs.map (·.data.toList)) [44]).length := by
  have e1 : (ByteArray.mk #[40]).size = 1 := rfl
  have e3 : (ByteArray.mk (Lib.join (xs.map (·.data.toList)) [44]).toArray).size = (Lib.join (xs.map (·.data.toList)) [44]).length := by simp [ByteArray.size]
  unfold putT
  rw [ByteArray.size_append, ByteArray.size_append, e1, e3]
theorem putT_join (word : ByteArray) (xs : List ByteArray) : putT word xs ++ ⟨#[41]⟩ = joinT word xs := rfl
theorem putT_mono (word : ByteArray) (xs ys : List ByteArray) : (putT word xs).size ≤ (putT word (xs ++ ys)).size := by
  induction ys generalizing xs with
  | nil => simp
  | cons y ys ih =>
    have h := ih (xs ++ [y])
    rw [List.append_assoc] at h
    have h2 : (putT word (xs ++ [y])).size = (putT word xs).size + (sepT xs).size + y.size := by rw [putT_snoc, ByteArray.size_append, ByteArray.size_append]
    have h3 : xs ++ ([y] ++ ys) = xs ++ y :: ys := by simp
    rw [h3] at h
    omega

set_option maxHeartbeats 4000000 in
set_option maxRecDepth 100000 in
theorem refText_any (t : T) : t.wk → (textT t).size ≤ 70368744177664 → ∀ (w : World) (v : Value), TIn w 0 t v → Calls Tryz.prog 82 #[v] w fun e w' => e = .returned (.string (textT t)) ∧ Below w.heap.size w w' := by
  induction t using T.ind with
  | _ kind s n k ih =>
  intro hwk hsz w v hv
  have hkl := len_cap hv
  obtain ⟨a, cap, rfl, hc1, hc2, hK⟩ := hv
  simp only [T.kind, T.s, T.n, T.k] at hc1 hK hkl ⊢
  have hwk' := hwk
  unfold T.wk at hwk'
  obtain ⟨⟨hk0, hk16⟩, ⟨hn0, hn1⟩, hwl⟩ := hwk'
  have HNB : Hid (-9223372036854775808 ≤ n ∧ n ≤ 9223372036854775807) := ⟨hn0, hn1⟩
  have HTT : Hid (textT (.mk kind s n k) = if kind = 11 then numT n else if kind = 1 then ⟨#[122, 101, 114, 111]⟩ else joinT (wordB kind) (headP kind s n ++ textTL k)) := by show _ = _; rw [textT]
  have HIH0 : Hid (∀ t ∈ k, (textT t).size ≤ 70368744177664 → ∀ (w : World) (v : Value), TIn w 0 t v → Calls Tryz.prog 82 #[v] w fun e w' => e = .returned (.string (textT t)) ∧ Below w.heap.size w w') := fun t ht => ih t ht (wkL_mem hwl t ht)
  have HK := hidIn hK
  have HSZ := hidIn hsz
  clear ih hK hwk hwl hn0 hn1 hsz
  go_enter Tryz.func82, Tryz.ntmps82
  by_cases h11 : kind = 11
  · have HE : Hid (textT (.mk kind s n k) = numT n) := by show _ = _; rw [HTT.out, if_pos h11]
    subst h11
    go_wp2_with fail
    refine (digAny n HNB.out.1 HNB.out.2 _).mono ?_
    rintro e w1 ⟨rfl, hb1⟩
    go_wp2_with fail
    go_ret
    exact ⟨by rw [HE.out]; rfl, (below_alloc (Below.refl _ _) _).trans (hb1.mono (by simp))⟩
  by_cases h1 : kind = 1
  · have HE : Hid (textT (.mk kind s n k) = ⟨#[122, 101, 114, 111]⟩) := by show _ = _; rw [HTT.out, if_neg h11, if_pos h1]
    subst h1
    go_wp2_with fail
    go_ret
    exact ⟨by rw [HE.out]; rfl, below_alloc (Below.refl _ _) _⟩
  have HE : Hid (textT (.mk kind s n k) = joinT (wordB kind) (headP kind s n ++ textTL k)) := by show _ = _; rw [HTT.out, if_neg h11, if_neg h1]
  have HW : Hid ((wordB kind).size ≤ 5) := by have := wordB_size kind.toNat (by omega); rw [Int.toNat_of_nonneg hk0] at this; exact this
  have HSZ2 : Hid ((putT (wordB kind) (headP kind s n ++ textTL k)).size ≤ 70368744177664) := by
    have h := HSZ.out
    rw [HE.out, ← putT_join, ByteArray.size_append] at h
    show _ ≤ _
    omega
  have HWD := hidIn (word_any kind hk0 hk16)
  clear HTT HSZ
  have h11' : (kind == 11) = false := by simp [h11]
  have h1' : (kind == 1) = false := by simp [h1]
  go_wp2_with fail
  obtain ⟨W, hW⟩ : ∃ W, W = w.alloc (.cells #[.int .i64 kind, .string s, .int .i64 n, .slice a k.length cap] 33) := ⟨_, rfl⟩
  have HB : Hid (Below w.heap.size w W) := by rw [hW]; exact below_alloc (Below.refl _ _) _
  have HBK : Hid (W.heap[w.heap.size]? = some (.cells #[.int .i64 kind, .string s, .int .i64 n, .slice a k.length cap] 33 (0, 0))) := by rw [hW]; exact heap_alloc_new _ _
  rw [← hW]
  clear hW
  refine (HWD.out _).mono ?_
  rintro e w1 ⟨rfl, hb1⟩
  have HB1 := hidIn hb1
  have HG0 : Hid (∀ X, Below W.heap.size W X → X.cell? ⟨w.heap.size, 0, none⟩ = some (.int .i64 kind)) := fun X hX => (cell_of_row _ _ _ _ _ _ ((hX.block _ (Array.getElem?_eq_some_iff.1 HBK.out).1).trans HBK.out)).trans rfl
  have HG1 : Hid (∀ X, Below W.heap.size W X → X.cell? ⟨w.heap.size, 1, none⟩ = some (.string s)) := fun X hX => (cell_of_row _ _ _ _ _ _ ((hX.block _ (Array.getElem?_eq_some_iff.1 HBK.out).1).trans HBK.out)).trans rfl
  have HG2 : Hid (∀ X, Below W.heap.size W X → X.cell? ⟨w.heap.size, 2, none⟩ = some (.int .i64 n)) := fun X hX => (cell_of_row _ _ _ _ _ _ ((hX.block _ (Array.getElem?_eq_some_iff.1 HBK.out).1).trans HBK.out)).trans rfl
  have HG3 : Hid (∀ X, Below W.heap.size W X → X.cell? ⟨w.heap.size, 3, none⟩ = some (.slice a k.length cap)) := fun X hX => (cell_of_row _ _ _ _ _ _ ((hX.block _ (Array.getElem?_eq_some_iff.1 HBK.out).1).trans HBK.out)).trans rfl
  have HKW : Hid (KAt W 0 k a 0) := HK.out.below HB.out
  clear HBK HK hb1
  obtain ⟨wd, hwd⟩ : ∃ wd, wordB kind = wd := ⟨_, rfl⟩
  rw [hwd] at HW HSZ2 HE
  rw [hwd]
  clear hwd HWD
  have hw5 := HW.out
  have g0 := HG0.out w1 HB1.out
  have g1 := HG1.out w1 HB1.out
  have g2 := HG2.out w1 HB1.out
  have hws : (wd ++ (⟨#[40]⟩ : ByteArray)).size = wd.size + 1 := by rw [ByteArray.size_append]; rfl
  have HHS : Hid ((putT wd (headP kind s n)).size ≤ 70368744177664) := Nat.le_trans (putT_mono wd (headP kind s n) (textTL k)) HSZ2.out
  have HP0 : Hid (wd ++ ⟨#[40]⟩ = putT wd []) := by apply ba_ext; unfold putT; simp [Lib.join_nil]
  by_cases h2 : kind = 2
  · have HH : Hid (headP kind s n = [s]) := by show _ = _; unfold headP; rw [if_pos (by omega)]
    rw [HH.out] at HSZ2 HE HHS
    have hhs := HHS.out
    rw [show putT wd [s] = wd ++ ⟨#[40]⟩ ++ s from by rw [show [s] = [] ++ [s] from rfl, putT_snoc, ← HP0.out]; apply ba_ext; simp [sepT]] at hhs
    have hs3 := hhs
    rw [ByteArray.size_append] at hs3
    have HS0 : Hid (wd ++ ⟨#[40]⟩ ++ s = putT wd [s]) := by show _ = _; rw [show [s] = [] ++ [s] from rfl, putT_snoc, ← HP0.out]; apply ba_ext; simp [sepT]
    have HSP0 : Hid ((⟨#[44]⟩ : ByteArray) = sepT [s]) := rfl
    have HBX := HB1
    subst h2
    have g3 := HG3.out w1 HBX.out
    go_wp2_with fail
    clear g3
    rw [HS0.out, HSP0.out]
    go_loopw [47, 3, 4] (fun s47 s3 s4 wr => ∃ i : Nat, i ≤ k.length ∧ s47 = .int .i64 i ∧ s3 = .string (putT wd ([s] ++ textTL (k.take i))) ∧ s4 = .string (sepT ([s] ++ textTL (k.take i))) ∧ Below W.heap.size W wr) (fun s47 _ _ _ => k.length - (intOf s47).toNat)
    case atStart => exact ⟨0, by omega, rfl, by simp [textTL], by simp [textTL], HBX.out⟩
    case round =>
      clear HBX HS0 HSP0
      obtain ⟨i, hi, rfl, rfl, rfl, hbr⟩ := hrel
      have HBR := hidIn hbr
      by_cases hlt : i < k.length
      · have hlt' : (i : Int) < (k.length : Int) := by omega
        obtain ⟨t, hti⟩ : ∃ t, k[i]? = some t := ⟨_, List.getElem?_eq_getElem hlt⟩
        obtain ⟨b, o, ka, ca, rfl, c0, c1, c2, c3, ht⟩ := (HKW.out.below hbr).cells hti
        have g3 := HG3.out wr hbr
        have HM : Hid (t ∈ k) := List.mem_of_getElem? hti
        have HTI := hidIn ht
        have htk := take_more _ _ _ hti
        have HT3 : Hid ([s] ++ textTL (k.take (i + 1)) = ([s] ++ textTL (k.take i)) ++ [textT t]) := by show _ = _; rw [htk, textTL_map, textTL_map, List.map_append, List.append_assoc]; rfl
        have HLEN : Hid ((putT wd (([s] ++ textTL (k.take i)) ++ [textT t])).size ≤ 70368744177664) := by
          rw [← HT3.out]
          refine Nat.le_trans ?_ HSZ2.out
          have h2 : [s] ++ textTL k = ([s] ++ textTL (k.take (i + 1))) ++ textTL (k.drop (i + 1)) := by
            rw [textTL_map, textTL_map, textTL_map, List.append_assoc, ← List.map_append, List.take_append_drop]
          rw [h2]
          exact putT_mono _ _ _
        clear hti htk ht hbr
        have hsz : (putT wd ([s] ++ textTL (k.take i)) ++ sepT ([s] ++ textTL (k.take i)) ++ textT t).size ≤ 70368744177664 := by rw [← putT_snoc]; exact HLEN.out
        have hsn := putT_snoc wd ([s] ++ textTL (k.take i)) (textT t)
        have HSN : Hid (putT wd ([s] ++ textTL (k.take (i + 1))) = putT wd ([s] ++ textTL (k.take i)) ++ sepT ([s] ++ textTL (k.take i)) ++ textT t) := by show _ = _; rw [HT3.out, putT_snoc]
        have HSP : Hid (sepT ([s] ++ textTL (k.take (i + 1))) = ⟨#[44]⟩) := by show _ = _; rw [HT3.out, sepT_snoc]
        clear hsn HT3 HLEN
        obtain ⟨A, hA⟩ : ∃ A, putT wd ([s] ++ textTL (k.take i)) = A := ⟨_, rfl⟩
        obtain ⟨B, hB⟩ : ∃ B, sepT ([s] ++ textTL (k.take i)) = B := ⟨_, rfl⟩
        obtain ⟨X, hX⟩ : ∃ X, textT t = X := ⟨_, rfl⟩
        rw [hA, hB, hX] at hsz HSN
        rw [hA, hB]
        have HCX : Hid (∀ (w : World) (v : Value), TIn w 0 t v → Calls Tryz.prog 82 #[v] w fun e w' => e = .returned (.string X) ∧ Below w.heap.size w w') := by
          show ∀ _, _
          have h := HIH0.out t HM.out (by rw [hX]; rw [ByteArray.size_append] at hsz; omega)
          rw [hX] at h
          exact h
        clear hA hB hX
        rw [ByteArray.size_append] at hsz
        have hs1 : (A ++ B).size ≤ 70368744177664 := by omega
        have hs2 := hs1
        rw [ByteArray.size_append] at hs2
        go_wp2_with fail
        refine (HCX.out wr _ HTI.out).mono ?_
        rintro e w4 ⟨rfl, hb4⟩
        have HB4 := hidIn (HBR.out.trans (hb4.mono HBR.out.size))
        clear hb4 c0 c1 c2 c3 g3 HTI
        go_wp2_with fail
        go_roundw
        case rel => exact ⟨i + 1, by omega, by go_num, by rw [HSN.out], by first | (rw [HSP.out]; done) | (rw [HSP.out]; rfl), HB4.out⟩
        case measure => simp [intOf]; omega
      · have hle : i = k.length := by omega
        subst hle
        rw [List.take_length]
        have hsz := HSZ2.out
        have HPJ := hidIn (putT_join wd ([s] ++ textTL k))
        obtain ⟨A, hA⟩ : ∃ A, putT wd ([s] ++ textTL k) = A := ⟨_, rfl⟩
        rw [hA] at hsz HPJ
        rw [hA]
        clear hA
        go_wp2_with fail
        go_ret
        exact ⟨by rw [HE.out, ← HPJ.out]; rfl, HB.out.trans (HBR.out.mono HB.out.size)⟩
  by_cases h5 : kind = 5
  · have HH : Hid (headP kind s n = [s]) := by show _ = _; unfold headP; rw [if_pos (by omega)]
    rw [HH.out] at HSZ2 HE HHS
    have hhs := HHS.out
    rw [show putT wd [s] = wd ++ ⟨#[40]⟩ ++ s from by rw [show [s] = [] ++ [s] from rfl, putT_snoc, ← HP0.out]; apply ba_ext; simp [sepT]] at hhs
    have hs3 := hhs
    rw [ByteArray.size_append] at hs3
    have HS0 : Hid (wd ++ ⟨#[40]⟩ ++ s = putT wd [s]) := by show _ = _; rw [show [s] = [] ++ [s] from rfl, putT_snoc, ← HP0.out]; apply ba_ext; simp [sepT]
    have HSP0 : Hid ((⟨#[44]⟩ : ByteArray) = sepT [s]) := rfl
    have HBX := HB1
    subst h5
    have g3 := HG3.out w1 HBX.out
    go_wp2_with fail
    clear g3
    rw [HS0.out, HSP0.out]
    go_loopw [47, 3, 4] (fun s47 s3 s4 wr => ∃ i : Nat, i ≤ k.length ∧ s47 = .int .i64 i ∧ s3 = .string (putT wd ([s] ++ textTL (k.take i))) ∧ s4 = .string (sepT ([s] ++ textTL (k.take i))) ∧ Below W.heap.size W wr) (fun s47 _ _ _ => k.length - (intOf s47).toNat)
    case atStart => exact ⟨0, by omega, rfl, by simp [textTL], by simp [textTL], HBX.out⟩
    case round =>
      clear HBX HS0 HSP0
      obtain ⟨i, hi, rfl, rfl, rfl, hbr⟩ := hrel
      have HBR := hidIn hbr
      by_cases hlt : i < k.length
      · have hlt' : (i : Int) < (k.length : Int) := by omega
        obtain ⟨t, hti⟩ : ∃ t, k[i]? = some t := ⟨_, List.getElem?_eq_getElem hlt⟩
        obtain ⟨b, o, ka, ca, rfl, c0, c1, c2, c3, ht⟩ := (HKW.out.below hbr).cells hti
        have g3 := HG3.out wr hbr
        have HM : Hid (t ∈ k) := List.mem_of_getElem? hti
        have HTI := hidIn ht
        have htk := take_more _ _ _ hti
        have HT3 : Hid ([s] ++ textTL (k.take (i + 1)) = ([s] ++ textTL (k.take i)) ++ [textT t]) := by show _ = _; rw [htk, textTL_map, textTL_map, List.map_append, List.append_assoc]; rfl
        have HLEN : Hid ((putT wd (([s] ++ textTL (k.take i)) ++ [textT t])).size ≤ 70368744177664) := by
          rw [← HT3.out]
          refine Nat.le_trans ?_ HSZ2.out
          have h2 : [s] ++ textTL k = ([s] ++ textTL (k.take (i + 1))) ++ textTL (k.drop (i + 1)) := by
            rw [textTL_map, textTL_map, textTL_map, List.append_assoc, ← List.map_append, List.take_append_drop]
          rw [h2]
          exact putT_mono _ _ _
        clear hti htk ht hbr
        have hsz : (putT wd ([s] ++ textTL (k.take i)) ++ sepT ([s] ++ textTL (k.take i)) ++ textT t).size ≤ 70368744177664 := by rw [← putT_snoc]; exact HLEN.out
        have hsn := putT_snoc wd ([s] ++ textTL (k.take i)) (textT t)
        have HSN : Hid (putT wd ([s] ++ textTL (k.take (i + 1))) = putT wd ([s] ++ textTL (k.take i)) ++ sepT ([s] ++ textTL (k.take i)) ++ textT t) := by show _ = _; rw [HT3.out, putT_snoc]
        have HSP : Hid (sepT ([s] ++ textTL (k.take (i + 1))) = ⟨#[44]⟩) := by show _ = _; rw [HT3.out, sepT_snoc]
        clear hsn HT3 HLEN
        obtain ⟨A, hA⟩ : ∃ A, putT wd ([s] ++ textTL (k.take i)) = A := ⟨_, rfl⟩
        obtain ⟨B, hB⟩ : ∃ B, sepT ([s] ++ textTL (k.take i)) = B := ⟨_, rfl⟩
        obtain ⟨X, hX⟩ : ∃ X, textT t = X := ⟨_, rfl⟩
        rw [hA, hB, hX] at hsz HSN
        rw [hA, hB]
        have HCX : Hid (∀ (w : World) (v : Value), TIn w 0 t v → Calls Tryz.prog 82 #[v] w fun e w' => e = .returned (.string X) ∧ Below w.heap.size w w') := by
          show ∀ _, _
          have h := HIH0.out t HM.out (by rw [hX]; rw [ByteArray.size_append] at hsz; omega)
          rw [hX] at h
          exact h
        clear hA hB hX
        rw [ByteArray.size_append] at hsz
        have hs1 : (A ++ B).size ≤ 70368744177664 := by omega
        have hs2 := hs1
        rw [ByteArray.size_append] at hs2
        go_wp2_with fail
        refine (HCX.out wr _ HTI.out).mono ?_
        rintro e w4 ⟨rfl, hb4⟩
        have HB4 := hidIn (HBR.out.trans (hb4.mono HBR.out.size))
        clear hb4 c0 c1 c2 c3 g3 HTI
        go_wp2_with fail
        go_roundw
        case rel => exact ⟨i + 1, by omega, by go_num, by rw [HSN.out], by first | (rw [HSP.out]; done) | (rw [HSP.out]; rfl), HB4.out⟩
        case measure => simp [intOf]; omega
      · have hle : i = k.length := by omega
        subst hle
        rw [List.take_length]
        have hsz := HSZ2.out
        have HPJ := hidIn (putT_join wd ([s] ++ textTL k))
        obtain ⟨A, hA⟩ : ∃ A, putT wd ([s] ++ textTL k) = A := ⟨_, rfl⟩
        rw [hA] at hsz HPJ
        rw [hA]
        clear hA
        go_wp2_with fail
        go_ret
        exact ⟨by rw [HE.out, ← HPJ.out]; rfl, HB.out.trans (HBR.out.mono HB.out.size)⟩
  by_cases h12 : kind = 12
  · have HH : Hid (headP kind s n = [s]) := by show _ = _; unfold headP; rw [if_pos (by omega)]
    rw [HH.out] at HSZ2 HE HHS
    have hhs := HHS.out
    rw [show putT wd [s] = wd ++ ⟨#[40]⟩ ++ s from by rw [show [s] = [] ++ [s] from rfl, putT_snoc, ← HP0.out]; apply ba_ext; simp [sepT]] at hhs
    have hs3 := hhs
    rw [ByteArray.size_append] at hs3
    have HS0 : Hid (wd ++ ⟨#[40]⟩ ++ s = putT wd [s]) := by show _ = _; rw [show [s] = [] ++ [s] from rfl, putT_snoc, ← HP0.out]; apply ba_ext; simp [sepT]
    have HSP0 : Hid ((⟨#[44]⟩ : ByteArray) = sepT [s]) := rfl
    have HBX := HB1
    subst h12
    have g3 := HG3.out w1 HBX.out
    go_wp2_with fail
    clear g3
    rw [HS0.out, HSP0.out]
    go_loopw [47, 3, 4] (fun s47 s3 s4 wr => ∃ i : Nat, i ≤ k.length ∧ s47 = .int .i64 i ∧ s3 = .string (putT wd ([s] ++ textTL (k.take i))) ∧ s4 = .string (sepT ([s] ++ textTL (k.take i))) ∧ Below W.heap.size W wr) (fun s47 _ _ _ => k.length - (intOf s47).toNat)
    case atStart => exact ⟨0, by omega, rfl, by simp [textTL], by simp [textTL], HBX.out⟩
    case round =>
      clear HBX HS0 HSP0
      obtain ⟨i, hi, rfl, rfl, rfl, hbr⟩ := hrel
      have HBR := hidIn hbr
      by_cases hlt : i < k.length
      · have hlt' : (i : Int) < (k.length : Int) := by omega
        obtain ⟨t, hti⟩ : ∃ t, k[i]? = some t := ⟨_, List.getElem?_eq_getElem hlt⟩
        obtain ⟨b, o, ka, ca, rfl, c0, c1, c2, c3, ht⟩ := (HKW.out.below hbr).cells hti
        have g3 := HG3.out wr hbr
        have HM : Hid (t ∈ k) := List.mem_of_getElem? hti
        have HTI := hidIn ht
        have htk := take_more _ _ _ hti
        have HT3 : Hid ([s] ++ textTL (k.take (i + 1)) = ([s] ++ textTL (k.take i)) ++ [textT t]) := by show _ = _; rw [htk, textTL_map, textTL_map, List.map_append, List.append_assoc]; rfl
        have HLEN : Hid ((putT wd (([s] ++ textTL (k.take i)) ++ [textT t])).size ≤ 70368744177664) := by
          rw [← HT3.out]
          refine Nat.le_trans ?_ HSZ2.out
          have h2 : [s] ++ textTL k = ([s] ++ textTL (k.take (i + 1))) ++ textTL (k.drop (i + 1)) := by
            rw [textTL_map, textTL_map, textTL_map, List.append_assoc, ← List.map_append, List.take_append_drop]
          rw [h2]
          exact putT_mono _ _ _
        clear hti htk ht hbr
        have hsz : (putT wd ([s] ++ textTL (k.take i)) ++ sepT ([s] ++ textTL (k.take i)) ++ textT t).size ≤ 70368744177664 := by rw [← putT_snoc]; exact HLEN.out
        have hsn := putT_snoc wd ([s] ++ textTL (k.take i)) (textT t)
        have HSN : Hid (putT wd ([s] ++ textTL (k.take (i + 1))) = putT wd ([s] ++ textTL (k.take i)) ++ sepT ([s] ++ textTL (k.take i)) ++ textT t) := by show _ = _; rw [HT3.out, putT_snoc]
        have HSP : Hid (sepT ([s] ++ textTL (k.take (i + 1))) = ⟨#[44]⟩) := by show _ = _; rw [HT3.out, sepT_snoc]
        clear hsn HT3 HLEN
        obtain ⟨A, hA⟩ : ∃ A, putT wd ([s] ++ textTL (k.take i)) = A := ⟨_, rfl⟩
        obtain ⟨B, hB⟩ : ∃ B, sepT ([s] ++ textTL (k.take i)) = B := ⟨_, rfl⟩
        obtain ⟨X, hX⟩ : ∃ X, textT t = X := ⟨_, rfl⟩
        rw [hA, hB, hX] at hsz HSN
        rw [hA, hB]
        have HCX : Hid (∀ (w : World) (v : Value), TIn w 0 t v → Calls Tryz.prog 82 #[v] w fun e w' => e = .returned (.string X) ∧ Below w.heap.size w w') := by
          show ∀ _, _
          have h := HIH0.out t HM.out (by rw [hX]; rw [ByteArray.size_append] at hsz; omega)
          rw [hX] at h
          exact h
        clear hA hB hX
        rw [ByteArray.size_append] at hsz
        have hs1 : (A ++ B).size ≤ 70368744177664 := by omega
        have hs2 := hs1
        rw [ByteArray.size_append] at hs2
        go_wp2_with fail
        refine (HCX.out wr _ HTI.out).mono ?_
        rintro e w4 ⟨rfl, hb4⟩
        have HB4 := hidIn (HBR.out.trans (hb4.mono HBR.out.size))
        clear hb4 c0 c1 c2 c3 g3 HTI
        go_wp2_with fail
        go_roundw
        case rel => exact ⟨i + 1, by omega, by go_num, by rw [HSN.out], by first | (rw [HSP.out]; done) | (rw [HSP.out]; rfl), HB4.out⟩
        case measure => simp [intOf]; omega
      · have hle : i = k.length := by omega
        subst hle
        rw [List.take_length]
        have hsz := HSZ2.out
        have HPJ := hidIn (putT_join wd ([s] ++ textTL k))
        obtain ⟨A, hA⟩ : ∃ A, putT wd ([s] ++ textTL k) = A := ⟨_, rfl⟩
        rw [hA] at hsz HPJ
        rw [hA]
        clear hA
        go_wp2_with fail
        go_ret
        exact ⟨by rw [HE.out, ← HPJ.out]; rfl, HB.out.trans (HBR.out.mono HB.out.size)⟩
  by_cases h7 : kind = 7
  · have HH : Hid (headP kind s n = [numT n]) := by show _ = _; unfold headP; rw [if_neg (by omega), if_pos h7]
    rw [HH.out] at HSZ2 HE HHS
    have hhs := HHS.out
    have HS0 : Hid (wd ++ ⟨#[40]⟩ ++ numT n = putT wd [numT n]) := by show _ = _; rw [show [numT n] = [] ++ [numT n] from rfl, putT_snoc, ← HP0.out]; apply ba_ext; simp [sepT]
    have HSP0 : Hid ((⟨#[44]⟩ : ByteArray) = sepT [numT n]) := rfl
    rw [← HS0.out] at hhs
    have hs3 := hhs
    rw [ByteArray.size_append] at hs3
    subst h7
    go_wp2_with fail
    refine (digAny n HNB.out.1 HNB.out.2 _).mono ?_
    rintro e w2 ⟨rfl, hb2⟩
    have HBX := hidIn (HB1.out.trans (hb2.mono HB1.out.size))
    clear hb2 g0 g1 g2
    have g3 := HG3.out w2 HBX.out
    go_wp2_with fail
    clear g3
    rw [HS0.out, HSP0.out]
    go_loopw [47, 3, 4] (fun s47 s3 s4 wr => ∃ i : Nat, i ≤ k.length ∧ s47 = .int .i64 i ∧ s3 = .string (putT wd ([numT n] ++ textTL (k.take i))) ∧ s4 = .string (sepT ([numT n] ++ textTL (k.take i))) ∧ Below W.heap.size W wr) (fun s47 _ _ _ => k.length - (intOf s47).toNat)
    case atStart => exact ⟨0, by omega, rfl, by simp [textTL], by simp [textTL], HBX.out⟩
    case round =>
      clear HBX HS0 HSP0
      obtain ⟨i, hi, rfl, rfl, rfl, hbr⟩ := hrel
      have HBR := hidIn hbr
      by_cases hlt : i < k.length
      · have hlt' : (i : Int) < (k.length : Int) := by omega
        obtain ⟨t, hti⟩ : ∃ t, k[i]? = some t := ⟨_, List.getElem?_eq_getElem hlt⟩
        obtain ⟨b, o, ka, ca, rfl, c0, c1, c2, c3, ht⟩ := (HKW.out.below hbr).cells hti
        have g3 := HG3.out wr hbr
        have HM : Hid (t ∈ k) := List.mem_of_getElem? hti
        have HTI := hidIn ht
        have htk := take_more _ _ _ hti
        have HT3 : Hid ([numT n] ++ textTL (k.take (i + 1)) = ([numT n] ++ textTL (k.take i)) ++ [textT t]) := by show _ = _; rw [htk, textTL_map, textTL_map, List.map_append, List.append_assoc]; rfl
        have HLEN : Hid ((putT wd (([numT n] ++ textTL (k.take i)) ++ [textT t])).size ≤ 70368744177664) := by
          rw [← HT3.out]
          refine Nat.le_trans ?_ HSZ2.out
          have h2 : [numT n] ++ textTL k = ([numT n] ++ textTL (k.take (i + 1))) ++ textTL (k.drop (i + 1)) := by
            rw [textTL_map, textTL_map, textTL_map, List.append_assoc, ← List.map_append, List.take_append_drop]
          rw [h2]
          exact putT_mono _ _ _
        clear hti htk ht hbr
        have hsz : (putT wd ([numT n] ++ textTL (k.take i)) ++ sepT ([numT n] ++ textTL (k.take i)) ++ textT t).size ≤ 70368744177664 := by rw [← putT_snoc]; exact HLEN.out
        have hsn := putT_snoc wd ([numT n] ++ textTL (k.take i)) (textT t)
        have HSN : Hid (putT wd ([numT n] ++ textTL (k.take (i + 1))) = putT wd ([numT n] ++ textTL (k.take i)) ++ sepT ([numT n] ++ textTL (k.take i)) ++ textT t) := by show _ = _; rw [HT3.out, putT_snoc]
        have HSP : Hid (sepT ([numT n] ++ textTL (k.take (i + 1))) = ⟨#[44]⟩) := by show _ = _; rw [HT3.out, sepT_snoc]
        clear hsn HT3 HLEN
        obtain ⟨A, hA⟩ : ∃ A, putT wd ([numT n] ++ textTL (k.take i)) = A := ⟨_, rfl⟩
        obtain ⟨B, hB⟩ : ∃ B, sepT ([numT n] ++ textTL (k.take i)) = B := ⟨_, rfl⟩
        obtain ⟨X, hX⟩ : ∃ X, textT t = X := ⟨_, rfl⟩
        rw [hA, hB, hX] at hsz HSN
        rw [hA, hB]
        have HCX : Hid (∀ (w : World) (v : Value), TIn w 0 t v → Calls Tryz.prog 82 #[v] w fun e w' => e = .returned (.string X) ∧ Below w.heap.size w w') := by
          show ∀ _, _
          have h := HIH0.out t HM.out (by rw [hX]; rw [ByteArray.size_append] at hsz; omega)
          rw [hX] at h
          exact h
        clear hA hB hX
        rw [ByteArray.size_append] at hsz
        have hs1 : (A ++ B).size ≤ 70368744177664 := by omega
        have hs2 := hs1
        rw [ByteArray.size_append] at hs2
        go_wp2_with fail
        refine (HCX.out wr _ HTI.out).mono ?_
        rintro e w4 ⟨rfl, hb4⟩
        have HB4 := hidIn (HBR.out.trans (hb4.mono HBR.out.size))
        clear hb4 c0 c1 c2 c3 g3 HTI
        go_wp2_with fail
        go_roundw
        case rel => exact ⟨i + 1, by omega, by go_num, by rw [HSN.out], by first | (rw [HSP.out]; done) | (rw [HSP.out]; rfl), HB4.out⟩
        case measure => simp [intOf]; omega
      · have hle : i = k.length := by omega
        subst hle
        rw [List.take_length]
        have hsz := HSZ2.out
        have HPJ := hidIn (putT_join wd ([numT n] ++ textTL k))
        obtain ⟨A, hA⟩ : ∃ A, putT wd ([numT n] ++ textTL k) = A := ⟨_, rfl⟩
        rw [hA] at hsz HPJ
        rw [hA]
        clear hA
        go_wp2_with fail
        go_ret
        exact ⟨by rw [HE.out, ← HPJ.out]; rfl, HB.out.trans (HBR.out.mono HB.out.size)⟩
  have HH : Hid (headP kind s n = []) := by show _ = _; unfold headP; rw [if_neg (by omega), if_neg h7]
  rw [HH.out] at HSZ2 HE HHS
  have HS0 : Hid (wd ++ ⟨#[40]⟩ = putT wd []) := HP0.out
  have HSP0 : Hid ((⟨#[]⟩ : ByteArray) = sepT []) := rfl
  have HBX := HB1
  have q2 : (kind == 2) = false := by simp [h2]
  have q5 : (kind == 5) = false := by simp [h5]
  have q12 : (kind == 12) = false := by simp [h12]
  have q7 : (kind == 7) = false := by simp [h7]
  have g3 := HG3.out w1 HBX.out
  go_wp2_with fail
  clear g3
  rw [HS0.out, HSP0.out]
  go_loopw [47, 3, 4] (fun s47 s3 s4 wr => ∃ i : Nat, i ≤ k.length ∧ s47 = .int .i64 i ∧ s3 = .string (putT wd (([] : List ByteArray) ++ textTL (k.take i))) ∧ s4 = .string (sepT (([] : List ByteArray) ++ textTL (k.take i))) ∧ Below W.heap.size W wr) (fun s47 _ _ _ => k.length - (intOf s47).toNat)
  case atStart => exact ⟨0, by omega, rfl, by simp [textTL], by simp [textTL], HBX.out⟩
  case round =>
    clear HBX HS0 HSP0
    obtain ⟨i, hi, rfl, rfl, rfl, hbr⟩ := hrel
    have HBR := hidIn hbr
    by_cases hlt : i < k.length
    · have hlt' : (i : Int) < (k.length : Int) := by omega
      obtain ⟨t, hti⟩ : ∃ t, k[i]? = some t := ⟨_, List.getElem?_eq_getElem hlt⟩
      obtain ⟨b, o, ka, ca, rfl, c0, c1, c2, c3, ht⟩ := (HKW.out.below hbr).cells hti
      have g3 := HG3.out wr hbr
      have HM : Hid (t ∈ k) := List.mem_of_getElem? hti
      have HTI := hidIn ht
      have htk := take_more _ _ _ hti
      have HT3 : Hid (([] : List ByteArray) ++ textTL (k.take (i + 1)) = (([] : List ByteArray) ++ textTL (k.take i)) ++ [textT t]) := by show _ = _; rw [htk, textTL_map, textTL_map, List.map_append, List.append_assoc]; rfl
      have HLEN : Hid ((putT wd ((([] : List ByteArray) ++ textTL (k.take i)) ++ [textT t])).size ≤ 70368744177664) := by
        rw [← HT3.out]
        refine Nat.le_trans ?_ HSZ2.out
        have h2 : ([] : List ByteArray) ++ textTL k = (([] : List ByteArray) ++ textTL (k.take (i + 1))) ++ textTL (k.drop (i + 1)) := by
          rw [textTL_map, textTL_map, textTL_map, List.append_assoc, ← List.map_append, List.take_append_drop]
        rw [h2]
        exact putT_mono _ _ _
      clear hti htk ht hbr
      have hsz : (putT wd (([] : List ByteArray) ++ textTL (k.take i)) ++ sepT (([] : List ByteArray) ++ textTL (k.take i)) ++ textT t).size ≤ 70368744177664 := by rw [← putT_snoc]; exact HLEN.out
      have hsn := putT_snoc wd (([] : List ByteArray) ++ textTL (k.take i)) (textT t)
      have HSN : Hid (putT wd (([] : List ByteArray) ++ textTL (k.take (i + 1))) = putT wd (([] : List ByteArray) ++ textTL (k.take i)) ++ sepT (([] : List ByteArray) ++ textTL (k.take i)) ++ textT t) := by show _ = _; rw [HT3.out, putT_snoc]
      have HSP : Hid (sepT (([] : List ByteArray) ++ textTL (k.take (i + 1))) = ⟨#[44]⟩) := by show _ = _; rw [HT3.out, sepT_snoc]
      clear hsn HT3 HLEN
      obtain ⟨A, hA⟩ : ∃ A, putT wd (([] : List ByteArray) ++ textTL (k.take i)) = A := ⟨_, rfl⟩
      obtain ⟨B, hB⟩ : ∃ B, sepT (([] : List ByteArray) ++ textTL (k.take i)) = B := ⟨_, rfl⟩
      obtain ⟨X, hX⟩ : ∃ X, textT t = X := ⟨_, rfl⟩
      rw [hA, hB, hX] at hsz HSN
      rw [hA, hB]
      have HCX : Hid (∀ (w : World) (v : Value), TIn w 0 t v → Calls Tryz.prog 82 #[v] w fun e w' => e = .returned (.string X) ∧ Below w.heap.size w w') := by
        show ∀ _, _
        have h := HIH0.out t HM.out (by rw [hX]; rw [ByteArray.size_append] at hsz; omega)
        rw [hX] at h
        exact h
      clear hA hB hX
      rw [ByteArray.size_append] at hsz
      have hs1 : (A ++ B).size ≤ 70368744177664 := by omega
      have hs2 := hs1
      rw [ByteArray.size_append] at hs2
      go_wp2_with fail
      refine (HCX.out wr _ HTI.out).mono ?_
      rintro e w4 ⟨rfl, hb4⟩
      have HB4 := hidIn (HBR.out.trans (hb4.mono HBR.out.size))
      clear hb4 c0 c1 c2 c3 g3 HTI
      go_wp2_with fail
      go_roundw
      case rel => exact ⟨i + 1, by omega, by go_num, by rw [HSN.out], by first | (rw [HSP.out]; done) | (rw [HSP.out]; rfl), HB4.out⟩
      case measure => simp [intOf]; omega
    · have hle : i = k.length := by omega
      subst hle
      rw [List.take_length]
      have hsz := HSZ2.out
      have HPJ := hidIn (putT_join wd (([] : List ByteArray) ++ textTL k))
      obtain ⟨A, hA⟩ : ∃ A, putT wd (([] : List ByteArray) ++ textTL k) = A := ⟨_, rfl⟩
      rw [hA] at hsz HPJ
      rw [hA]
      clear hA
      go_wp2_with fail
      go_ret
      exact ⟨by rw [HE.out, ← HPJ.out]; rfl, HB.out.trans (HBR.out.mono HB.out.size)⟩


end Go.Proofs.YtkioolbjmcpjpaaGreatDoor
namespace Go.Proofs.YtkioolbjmcpjpaaGreatDoor
open Go.RowKit
set_option linter.unusedVariables false

mutual
/-- Two trees are the same, and none of them is, or has, nothing. -/
def sameTr : T → T → Bool
  | .mk kind s n k, u => decide (kind ≠ 0) && (decide (kind = u.kind) && (decide (s = u.s) && (decide (n = u.n) && (decide (k.length = u.k.length) && sameTL k u.k))))
def sameTL : List T → List T → Bool
  | a :: l, m => match m with
    | b :: m => sameTr a b && sameTL l m
    | [] => true
  | [], _ => true
end
theorem sameTL_take (l m : List T) (i : Nat) (a b : T) (h1 : l[i]? = some a) (h2 : m[i]? = some b) : sameTL (l.take (i + 1)) (m.take (i + 1)) = (sameTL (l.take i) (m.take i) && sameTr a b) := by
  induction l generalizing m i with
  | nil => simp at h1
  | cons x l ih =>
    cases m with
    | nil => simp at h2
    | cons y m =>
      cases i with
      | zero => simp at h1 h2; subst h1 h2; simp [sameTL]
      | succ i =>
        simp at h1 h2
        simp only [List.take_succ_cons, sameTL]
        rw [ih m i h1 h2, Bool.and_assoc]
theorem sameTL_false (l m : List T) (i : Nat) (a b : T) (h1 : l[i]? = some a) (h2 : m[i]? = some b) (h : sameTr a b = false) : sameTL l m = false := by
  induction l generalizing m i with
  | nil => simp at h1
  | cons x l ih =>
    cases m with
    | nil => simp at h2
    | cons y m =>
      cases i with
      | zero => simp at h1 h2; subst h1 h2; simp [sameTL, h]
      | succ i =>
        simp at h1 h2
        simp only [sameTL]
        rw [ih m i h1 h2, Bool.and_false]

set_option maxHeartbeats 2000000 in
set_option maxRecDepth 100000 in
theorem refSame_any (t : T) : ∀ (u : T) (w : World) (v x : Value), TIn w 0 t v → TIn w 0 u x → Calls Tryz.prog 47 #[v, x] w fun e w' => e = .returned (.bool (sameTr t u)) ∧ Below w.heap.size w w' := by
  induction t using T.ind with
  | _ kind s n k ih =>
  rintro ⟨kind2, s2, n2, k2⟩ w v x hv hx
  have hkl := len_cap hv
  have hul := len_cap hx
  obtain ⟨a, cap, rfl, hc1, hc2, hK⟩ := hv
  obtain ⟨ua, ucap, rfl, uc1, uc2, uK⟩ := hx
  simp only [T.kind, T.s, T.n, T.k] at hc1 hK hkl uc1 uK hul ⊢
  have HIH : Hid (∀ t ∈ k, ∀ (u : T) (w : World) (v x : Value), TIn w 0 t v → TIn w 0 u x → Calls Tryz.prog 47 #[v, x] w fun e w' => e = .returned (.bool (sameTr t u)) ∧ Below w.heap.size w w') := ih
  have HK := hidIn hK
  have HU := hidIn uK
  clear ih hK uK
  by_cases h0 : kind = 0
  · have HS : Hid (sameTr (.mk kind s n k) (.mk kind2 s2 n2 k2) = false) := by unfold Hid sameTr; simp [T.kind, T.s, T.n, T.k, h0]
    subst h0
    go_enter Tryz.func47, Tryz.ntmps47
    go_wp2_with fail
    go_ret
    exact ⟨by rw [HS.out]; rfl, below_alloc (below_alloc (Below.refl _ _) _) _⟩
  have h0' : (kind == 0) = false := by rw [beq_eq_false_iff_ne]; exact h0
  by_cases h1 : kind = kind2
  case neg =>
    have HS : Hid (sameTr (.mk kind s n k) (.mk kind2 s2 n2 k2) = false) := by unfold Hid sameTr; simp [T.kind, T.s, T.n, T.k, h1]
    have h1' : (kind == kind2) = false := by rw [beq_eq_false_iff_ne]; exact h1
    go_enter Tryz.func47, Tryz.ntmps47
    go_wp2_with fail
    go_ret
    exact ⟨by rw [HS.out]; rfl, below_alloc (below_alloc (Below.refl _ _) _) _⟩
  by_cases h2 : s = s2
  case neg =>
    have HS : Hid (sameTr (.mk kind s n k) (.mk kind2 s2 n2 k2) = false) := by unfold Hid sameTr; simp [T.kind, T.s, T.n, T.k, h2]
    have h2' : ¬ s.toList = s2.toList := fun e => h2 (toList_inj e)
    have h2'' : (s.toList == s2.toList) = false := by rw [beq_eq_false_iff_ne]; exact h2'
    go_enter Tryz.func47, Tryz.ntmps47
    go_wp2_with fail
    go_ret
    exact ⟨by rw [HS.out]; rfl, below_alloc (below_alloc (Below.refl _ _) _) _⟩
  by_cases h3 : n = n2
  case neg =>
    have HS : Hid (sameTr (.mk kind s n k) (.mk kind2 s2 n2 k2) = false) := by unfold Hid sameTr; simp [T.kind, T.s, T.n, T.k, h3]
    have h3' : (n == n2) = false := by rw [beq_eq_false_iff_ne]; exact h3
    go_enter Tryz.func47, Tryz.ntmps47
    go_wp2_with fail
    go_ret
    exact ⟨by rw [HS.out]; rfl, below_alloc (below_alloc (Below.refl _ _) _) _⟩
  by_cases h4 : k.length = k2.length
  case neg =>
    have HS : Hid (sameTr (.mk kind s n k) (.mk kind2 s2 n2 k2) = false) := by unfold Hid sameTr; simp [T.kind, T.s, T.n, T.k, h4]
    have h4' : ((k.length : Int) == (k2.length : Int)) = false := by rw [beq_eq_false_iff_ne]; omega
    have h4'' : ¬ (k.length : Int) = (k2.length : Int) := by omega
    have h4b : ((k.length : Int) != (k2.length : Int)) = true := by rw [bne, h4']; rfl
    go_enter Tryz.func47, Tryz.ntmps47
    go_wp2_with fail
    go_ret
    exact ⟨by rw [HS.out]; rfl, below_alloc (below_alloc (Below.refl _ _) _) _⟩
  have HS : Hid (sameTr (.mk kind s n k) (.mk kind s n k2) = sameTL k k2) := by unfold Hid sameTr; simp [T.kind, T.s, T.n, T.k, h0, h4]
  rw [← h1, ← h2, ← h3, ← h4]
  rw [← h4] at uc1 hul
  have H4 := hidIn h4
  clear h1 h2 h3 h4
  go_enter Tryz.func47, Tryz.ntmps47
  go_wp2_with fail
  obtain ⟨W, hW⟩ : ∃ W, W = (w.alloc (.cells #[.int .i64 kind, .string s, .int .i64 n, .slice a k.length cap] 33)).alloc (.cells #[.int .i64 kind, .string s, .int .i64 n, .slice ua k.length ucap] 33) := ⟨_, rfl⟩
  have HB : Hid (Below w.heap.size w W) := by rw [hW]; exact below_alloc (below_alloc (Below.refl _ _) _) _
  have HG : Hid (W.cell? ⟨w.heap.size, 3, none⟩ = some (.slice a k.length cap)) := by rw [hW]; exact (below_alloc (Below.refl _ _) _).cell (p := ⟨w.heap.size, 3, none⟩) (by simp) |>.trans ((cell_of_row _ _ _ _ _ _ (heap_alloc_new _ _)).trans rfl)
  have HG2 : Hid (W.cell? ⟨w.heap.size + 1, 3, none⟩ = some (.slice ua k.length ucap)) := by
    rw [hW]
    have := heap_alloc_new (w.alloc (.cells #[.int .i64 kind, .string s, .int .i64 n, .slice a k.length cap] 33)) (.cells #[.int .i64 kind, .string s, .int .i64 n, .slice ua k.length ucap] 33)
    rw [World.size_alloc] at this
    exact (cell_of_row _ _ _ _ _ _ this).trans rfl
  rw [← hW]
  clear hW
  have HKW : Hid (KAt W 0 k a 0) := HK.out.below HB.out
  have HUW : Hid (KAt W 0 k2 ua 0) := HU.out.below HB.out
  clear HK HU
  go_loopw [42] (fun s42 wr => ∃ i : Nat, i ≤ k.length ∧ s42 = .int .i64 i ∧ sameTL (k.take i) (k2.take i) = true ∧ Below W.heap.size W wr) (fun s42 _ => k.length - (intOf s42).toNat)
  case atStart => exact ⟨0, by omega, rfl, by simp [sameTL], Below.refl _ _⟩
  case round =>
    obtain ⟨i, hi, rfl, hso, hbr⟩ := hrel
    have HSO := hidIn hso
    have HBR := hidIn hbr
    clear hso
    by_cases hlt : i < k.length
    · have hlt' : (i : Int) < (k.length : Int) := by omega
      obtain ⟨t, hti⟩ : ∃ t, k[i]? = some t := ⟨_, List.getElem?_eq_getElem hlt⟩
      obtain ⟨u, hui⟩ : ∃ u, k2[i]? = some u := ⟨_, List.getElem?_eq_getElem (by have := H4.out; omega)⟩
      obtain ⟨b, o, ka, ca, rfl, c0, c1, c2, c3, ht⟩ := (HKW.out.below hbr).cells hti
      obtain ⟨b2, o2, kb, cb, rfl, d0, d1, d2, d3, hu⟩ := (HUW.out.below hbr).cells hui
      have g3 : wr.cell? ⟨w.heap.size, 3, none⟩ = some (.slice (some ⟨b, o, none⟩) k.length cap) := (hbr.cell (p := ⟨w.heap.size, 3, none⟩) (World.block_lt_of_cell? _ _ HG.out)).trans HG.out
      have g4 : wr.cell? ⟨w.heap.size + 1, 3, none⟩ = some (.slice (some ⟨b2, o2, none⟩) k.length ucap) := (hbr.cell (p := ⟨w.heap.size + 1, 3, none⟩) (World.block_lt_of_cell? _ _ HG2.out)).trans HG2.out
      have HM : Hid (t ∈ k) := List.mem_of_getElem? hti
      have HTI := hidIn ht
      have HUI := hidIn hu
      have HNX := hidIn (sameTL_take k k2 i t u hti hui)
      have HFL : Hid (sameTr t u = false → sameTL k k2 = false) := fun h => sameTL_false k k2 i t u hti hui h
      have HLT := World.block_lt_of_cell? _ _ c0
      have HLU := World.block_lt_of_cell? _ _ d0
      have HL3 := World.block_lt_of_cell? _ _ g3
      have HL4 := World.block_lt_of_cell? _ _ g4
      have HF : Hid (∀ w', Below wr.heap.size wr w' → w'.cell? ⟨w.heap.size, 3, none⟩ = some (.slice (some ⟨b, o, none⟩) k.length cap) ∧ w'.cell? ⟨w.heap.size + 1, 3, none⟩ = some (.slice (some ⟨b2, o2, none⟩) k.length ucap) ∧ (w'.cell? ⟨b, o + i * 4, none⟩ = some (.int .i64 t.kind) ∧ w'.cell? ⟨b, o + i * 4 + 1, none⟩ = some (.string t.s) ∧ w'.cell? ⟨b, o + i * 4 + 2, none⟩ = some (.int .i64 t.n) ∧ w'.cell? ⟨b, o + i * 4 + 3, none⟩ = some (.slice ka t.k.length ca)) ∧ (w'.cell? ⟨b2, o2 + i * 4, none⟩ = some (.int .i64 u.kind) ∧ w'.cell? ⟨b2, o2 + i * 4 + 1, none⟩ = some (.string u.s) ∧ w'.cell? ⟨b2, o2 + i * 4 + 2, none⟩ = some (.int .i64 u.n) ∧ w'.cell? ⟨b2, o2 + i * 4 + 3, none⟩ = some (.slice kb u.k.length cb))) := fun w' h =>
        ⟨(h.cell (p := ⟨w.heap.size, 3, none⟩) HL3).trans g3, (h.cell (p := ⟨w.heap.size + 1, 3, none⟩) HL4).trans g4, ⟨(h.cell (p := ⟨b, o + i * 4, none⟩) HLT).trans c0, (h.cell (p := ⟨b, o + i * 4 + 1, none⟩) HLT).trans c1, (h.cell (p := ⟨b, o + i * 4 + 2, none⟩) HLT).trans c2, (h.cell (p := ⟨b, o + i * 4 + 3, none⟩) HLT).trans c3⟩, ⟨(h.cell (p := ⟨b2, o2 + i * 4, none⟩) HLU).trans d0, (h.cell (p := ⟨b2, o2 + i * 4 + 1, none⟩) HLU).trans d1, (h.cell (p := ⟨b2, o2 + i * 4 + 2, none⟩) HLU).trans d2, (h.cell (p := ⟨b2, o2 + i * 4 + 3, none⟩) HLU).trans d3⟩⟩
      clear hti hui ht hu c0 c1 c2 c3 d0 d1 d2 d3 g3 g4 hbr HLT HLU HL3 HL4
      go_wp2_with fail
      refine wp_region_class (fun w' => Below wr.heap.size wr w') (by kernel_rfl) (by kernel_rfl) (below_drew (Below.refl _ _)) ?_
      generalize hops : (#[_, _, _, _, _, _, _, _, _, _, _, _] : Array Oper) = ops
      refine quiet_runs (.pointer (some ⟨w.heap.size, 3, none⟩)) rfl (fun w' hw' => ?_) ?_
      · go_simp
      simp only [Act.put, List.setIfInBounds_toArray, List.set_cons_zero, List.set_cons_succ]
      refine quiet_runs (.slice (some ⟨b, o, none⟩) k.length cap) rfl (fun w' hw' => ?_) ?_
      · obtain ⟨f0, f1, ⟨f2, f3, f4, f5⟩, f6, f7, f8, f9⟩ := HF.out w' hw'
        go_simp
      simp only [Act.put, List.setIfInBounds_toArray, List.set_cons_zero, List.set_cons_succ]
      refine quiet_runs (.int .i64 i) rfl (fun w' hw' => ?_) ?_
      · go_simp
      simp only [Act.put, List.setIfInBounds_toArray, List.set_cons_zero, List.set_cons_succ]
      refine quiet_runs (.pointer (some ⟨b, o + i * 4, none⟩)) rfl (fun w' hw' => ?_) ?_
      · go_simp
      simp only [Act.put, List.setIfInBounds_toArray, List.set_cons_zero, List.set_cons_succ]
      refine quiet_runs (.agg #[.int .i64 t.kind, .string t.s, .int .i64 t.n, .slice ka t.k.length ca]) rfl (fun w' hw' => ?_) ?_
      · obtain ⟨f0, f1, ⟨f2, f3, f4, f5⟩, f6, f7, f8, f9⟩ := HF.out w' hw'
        go_simp
      simp only [Act.put, List.setIfInBounds_toArray, List.set_cons_zero, List.set_cons_succ]
      refine quiet_runs (.pointer (some ⟨w.heap.size + 1, 3, none⟩)) rfl (fun w' hw' => ?_) ?_
      · go_simp
      simp only [Act.put, List.setIfInBounds_toArray, List.set_cons_zero, List.set_cons_succ]
      refine quiet_runs (.slice (some ⟨b2, o2, none⟩) k.length ucap) rfl (fun w' hw' => ?_) ?_
      · obtain ⟨f0, f1, ⟨f2, f3, f4, f5⟩, f6, f7, f8, f9⟩ := HF.out w' hw'
        go_simp
      simp only [Act.put, List.setIfInBounds_toArray, List.set_cons_zero, List.set_cons_succ]
      refine quiet_runs (.int .i64 i) rfl (fun w' hw' => ?_) ?_
      · go_simp
      simp only [Act.put, List.setIfInBounds_toArray, List.set_cons_zero, List.set_cons_succ]
      refine quiet_runs (.pointer (some ⟨b2, o2 + i * 4, none⟩)) rfl (fun w' hw' => ?_) ?_
      · go_simp
      simp only [Act.put, List.setIfInBounds_toArray, List.set_cons_zero, List.set_cons_succ]
      refine quiet_runs (.agg #[.int .i64 u.kind, .string u.s, .int .i64 u.n, .slice kb u.k.length cb]) rfl (fun w' hw' => ?_) ?_
      · obtain ⟨f0, f1, ⟨f2, f3, f4, f5⟩, f6, f7, f8, f9⟩ := HF.out w' hw'
        go_simp
      simp only [Act.put, List.setIfInBounds_toArray, List.set_cons_zero, List.set_cons_succ]
      refine quiet_calls 47 #[.agg #[.int .i64 t.kind, .string t.s, .int .i64 t.n, .slice ka t.k.length ca], .agg #[.int .i64 u.kind, .string u.s, .int .i64 u.n, .slice kb u.k.length cb]] (.bool (sameTr t u)) rfl (fun w' hw' => ?_) (fun w' hw' => ?_) ?_
      · go_simp
      · refine (HIH.out t HM.out u w' _ _ (HTI.out.below hw') (HUI.out.below hw')).mono ?_
        rintro e w3 ⟨rfl, hb3⟩
        exact ⟨rfl, hw'.trans (hb3.mono hw'.size)⟩
      simp only [Act.put, List.setIfInBounds_toArray, List.set_cons_zero, List.set_cons_succ]
      refine quiet_runs (.bool (!sameTr t u)) rfl (fun w' hw' => ?_) ?_
      · go_simp
      simp only [Act.put, List.setIfInBounds_toArray, List.set_cons_zero, List.set_cons_succ]
      refine wpQuiet_nil ?_
      intro w4 hw4
      have HB4 := hidIn (HBR.out.trans (hw4.mono HBR.out.size))
      clear hw4
      cases hst : sameTr t u with
      | true =>
        rw [hst] at HNX
        go_wp2_with fail
        go_roundw
        case rel => exact ⟨i + 1, by omega, by go_num, by rw [HNX.out, HSO.out]; rfl, HB4.out⟩
        case measure => simp [intOf]; omega
      | false =>
        have HFA := hidIn (HFL.out hst)
        go_wp2_with fail
        go_ret
        exact ⟨by rw [HS.out, HFA.out]; rfl, HB.out.trans (HB4.out.mono HB.out.size)⟩
    · have hle : i = k.length := by omega
      subst hle
      have HE : Hid (sameTL k k2 = true) := by
        have h := HSO.out
        rw [List.take_length] at h
        rw [show k.length = k2.length from H4.out, List.take_length] at h
        exact h
      go_wp2_with fail
      go_ret
      exact ⟨by rw [HS.out, HE.out]; rfl, HB.out.trans (HBR.out.mono HB.out.size)⟩

end Go.Proofs.YtkioolbjmcpjpaaGreatDoor
namespace Go.Proofs.YtkioolbjmcpjpaaGreatDoor
open Go.RowKit
set_option linter.unusedVariables false

mutual
/-- The names of a tree's Fixes, in order. -/
def T.nams : T → List ByteArray
  | .mk kind s _ k => if kind = 12 then [s] else namsL k
def namsL : List T → List ByteArray
  | [] => []
  | t :: l => t.nams ++ namsL l
end
theorem namsL_snoc (l : List T) (k : T) : namsL (l ++ [k]) = namsL l ++ k.nams := by
  induction l with
  | nil => simp [namsL]
  | cons a l ih => simp [namsL, ih]
theorem nams_cnt : ∀ t : T, t.nams.length ≤ t.cnt := by
  intro t
  induction t using T.ind with
  | _ kind s n k ih =>
    have h : (namsL k).length ≤ cntL k := by
      induction k with
      | nil => simp [namsL]
      | cons a l ihl =>
        have h1 := ih a (by simp)
        have h2 := ihl (fun t ht => ih t (by simp [ht]))
        simp only [namsL, cntL, List.length_append]
        omega
    unfold T.nams T.cnt
    split
    · simp
    · omega
theorem namsL_cnt (l : List T) : (namsL l).length ≤ cntL l := by
  induction l with
  | nil => simp [namsL]
  | cons a l ih => have := nams_cnt a; simp only [namsL, cntL, List.length_append]; omega
/-- A new list of one text is a row of the call's own. -/
theorem own_one (w : World) (s : ByteArray) : (w.alloc (.cells #[.string s] 9)).ownsRow w.heap.size 9 1 (.slice (some ⟨w.heap.size, 0, none⟩) 1 1) [s].length (strCells [s]) := by
  refine ⟨by simp [strCells], .inr ⟨w.heap.size, 1, #[.string s], rfl, Nat.le_refl _, heap_alloc_new _ _, by simp, by unfold maxLen; omega, by simp, by simp [strCells]⟩⟩

set_option maxHeartbeats 4000000 in
set_option maxRecDepth 100000 in
theorem refNames0_any (t : T) : t.cnt ≤ 999990 → ∀ (w : World) (v : Value), TIn w 0 t v → Calls Tryz.prog 188 #[v] w fun e w' => ∃ v', e = .returned v' ∧ w'.ownsRow w.heap.size 9 1 v' t.nams.length (strCells t.nams) ∧ Below w.heap.size w w' := by
  induction t using T.ind with
  | _ kind s n k ih =>
  intro hcnt w v hv
  have hkl := len_cap hv
  obtain ⟨a, cap, rfl, hc1, hc2, hK⟩ := hv
  simp only [T.kind, T.s, T.n, T.k] at hc1 hK hkl ⊢
  have hct : (T.mk kind s n k).cnt = cntL k + 1 := by rw [T.cnt]
  rw [hct] at hcnt
  have HIH : Hid (∀ t ∈ k, ∀ (w : World) (v : Value), TIn w 0 t v → Calls Tryz.prog 188 #[v] w fun e w' => ∃ v', e = .returned v' ∧ w'.ownsRow w.heap.size 9 1 v' t.nams.length (strCells t.nams) ∧ Below w.heap.size w w') := fun t ht => ih t ht (by have := cntL_mem k t ht; omega)
  have HK := hidIn hK
  have HCN := hidIn hcnt
  clear ih hK hct
  by_cases h12 : kind = 12
  · have HL : Hid ((T.mk kind s n k).nams = [s]) := by unfold Hid; rw [T.nams, if_pos h12]
    subst h12
    go_enter Tryz.func188, Tryz.ntmps188
    go_wp2_with fail
    go_ret
    refine ⟨_, rfl, ?_, below_alloc (below_alloc (Below.refl _ _) _) _⟩
    rw [HL.out]
    have h := own_one (w.alloc (.cells #[.int .i64 12, .string s, .int .i64 n, .slice a k.length cap] 33)) s
    rw [World.size_alloc] at h
    exact ownsRow_base h (by omega)
  · have HL : Hid ((T.mk kind s n k).nams = namsL k) := by unfold Hid; rw [T.nams, if_neg h12]
    have h12' : (kind == 12) = false := by rw [beq_eq_false_iff_ne]; exact h12
    clear h12
    go_enter Tryz.func188, Tryz.ntmps188
    go_wp2_with fail
    obtain ⟨W, hW⟩ : ∃ W, W = w.alloc (.cells #[.int .i64 kind, .string s, .int .i64 n, .slice a k.length cap] 33) := ⟨_, rfl⟩
    have HB : Hid (Below w.heap.size w W) := by rw [hW]; exact below_alloc (Below.refl _ _) _
    have HBK : Hid (W.heap[w.heap.size]? = some (.cells #[.int .i64 kind, .string s, .int .i64 n, .slice a k.length cap] 33 (0, 0))) := by rw [hW]; exact heap_alloc_new _ _
    rw [← hW]
    clear hW
    have HG : Hid (∀ X, Below W.heap.size W X → X.cell? ⟨w.heap.size, 3, none⟩ = some (.slice a k.length cap)) := fun X hX => (cell_of_row _ _ _ _ _ _ ((hX.block _ (Array.getElem?_eq_some_iff.1 HBK.out).1).trans HBK.out)).trans rfl
    have HKW : Hid (KAt W 0 k a 0) := HK.out.below HB.out
    clear HBK HK
    go_loopw [14, 3] (fun s14 s3 wr => ∃ i : Nat, i ≤ k.length ∧ s14 = .int .i64 i ∧ wr.ownsRow W.heap.size 9 1 s3 (namsL (k.take i)).length (strCells (namsL (k.take i))) ∧ Below W.heap.size W wr) (fun s14 _ _ => k.length - (intOf s14).toNat)
    case atStart => exact ⟨0, by omega, rfl, by simp only [List.take_zero, namsL]; exact World.ownsRow_nil _ _ _ _, Below.refl _ _⟩
    case round =>
      obtain ⟨i, hi, rfl, hrow, hbr⟩ := hrel
      have HROW := hidIn hrow
      have HBR := hidIn hbr
      by_cases hlt : i < k.length
      · have hlt' : (i : Int) < (k.length : Int) := by omega
        obtain ⟨t, hti⟩ : ∃ t, k[i]? = some t := ⟨_, List.getElem?_eq_getElem hlt⟩
        obtain ⟨b, o, ka, ca, rfl, c0, c1, c2, c3, ht⟩ := (HKW.out.below hbr).cells hti
        have g3 := HG.out wr hbr
        have HM : Hid (t ∈ k) := List.mem_of_getElem? hti
        have HTI := hidIn ht
        have htk := take_more _ _ _ hti
        have HT3 : Hid (namsL (k.take (i + 1)) = namsL (k.take i) ++ t.nams) := by unfold Hid; rw [htk, namsL_snoc]
        have HLEN : Hid ((namsL (k.take i)).length + t.nams.length ≤ 1000000) := by
          have h1 := nams_cnt t
          have h2 := namsL_cnt (k.take i)
          have h3 := cntL_take k (i + 1)
          rw [htk, cntL_snoc] at h3
          have := HCN.out
          show _ ≤ _
          omega
        clear hti htk ht hrow hbr
        generalize namsL (k.take i) = L at *
        go_wp2_with fail
        refine (HIH.out t HM.out wr _ HTI.out).mono ?_
        rintro e w4 ⟨v4, rfl, hrow4, hb4⟩
        have HB4 := hidIn (HBR.out.trans (hb4.mono HBR.out.size))
        have HROW4 := hidIn (ownsRow_below HROW.out hb4)
        have HNEW := hidIn hrow4
        clear hb4 hrow4 c0 c1 c2 c3 g3 HTI
        go_wp2_with (first
          | (at_builtin; refine wpList_append_rows _ rfl _ _ rfl W.heap.size _ L rfl HROW4.out wr.heap.size _ t.nams rfl HNEW.out HLEN.out HB4.out.size ?_; intro v5 w5 hown5 hgrow5 hloc5)
          | go_in)
        have HB5 : Hid (Below W.heap.size W w5) := HB4.out.grown hgrow5 HB4.out.size (fun j hj => (HROW4.out.lt j hj).1)
        have HOWN5 := hidIn hown5
        clear hown5 hgrow5 hloc5
        go_wp2_with fail
        go_roundw
        case rel => exact ⟨i + 1, by omega, by go_num, by rw [HT3.out]; exact HOWN5.out, HB5.out⟩
        case measure => simp [intOf]; omega
      · have hle : i = k.length := by omega
        subst hle
        have HE : Hid (wr.ownsRow W.heap.size 9 1 u3 (namsL k).length (strCells (namsL k))) := by have h := HROW.out; rw [List.take_length] at h; exact h
        clear hrow HROW hbr
        go_wp2_with fail
        go_ret
        refine ⟨_, rfl, ?_, HB.out.trans (HBR.out.mono HB.out.size)⟩
        rw [HL.out]
        exact ownsRow_base HE.out HB.out.size

end Go.Proofs.YtkioolbjmcpjpaaGreatDoor
namespace Go.Proofs.YtkioolbjmcpjpaaGreatDoor
open Go.RowKit
set_option linter.unusedVariables false

/-- A text is among the first of a list. -/
def inFirst (L : List ByteArray) (s : ByteArray) (j : Nat) : Bool := (L.take j).any (fun x => decide (x = s))
theorem inFirst_next (L : List ByteArray) (s : ByteArray) (j : Nat) (x : ByteArray) (h : L[j]? = some x) : inFirst L s (j + 1) = (inFirst L s j || decide (x = s)) := by
  unfold inFirst
  rw [take_more _ _ _ h, List.any_append]
  simp

theorem addAll_le (acc l : List ByteArray) : (addAll acc l).length ≤ acc.length + l.length := by
  induction l generalizing acc with
  | nil => simp [addAll]
  | cons x l ih =>
    have h1 := ih (addN acc x)
    have h2 := addN_length acc x
    have e : addAll acc (x :: l) = addAll (addN acc x) l := rfl
    rw [e]
    simp only [List.length_cons]
    omega

set_option maxHeartbeats 4000000 in
set_option maxRecDepth 100000 in
theorem refNames_any (t : T) (hcnt : t.cnt ≤ 999990) (w : World) (v : Value) (hv : TIn w 0 t v) : Calls Tryz.prog 173 #[v] w fun e w' => ∃ v', e = .returned v' ∧ w'.ownsRow w.heap.size 9 1 v' (addAll [] t.nams).length (strCells (addAll [] t.nams)) ∧ Below w.heap.size w w' := by
  have HV := hidIn hv
  obtain ⟨a, cap, rfl, hc1, hc2, hK⟩ := hv
  have HLEN : Hid (t.nams.length ≤ 999990) := by have := nams_cnt t; show _ ≤ _; omega
  clear hK
  go_enter Tryz.func173, Tryz.ntmps173
  go_wp2_with fail
  obtain ⟨W, hW⟩ : ∃ W, W = w.alloc (.cells #[.int .i64 t.kind, .string t.s, .int .i64 t.n, .slice a t.k.length cap] 33) := ⟨_, rfl⟩
  have HB : Hid (Below w.heap.size w W) := by rw [hW]; exact below_alloc (Below.refl _ _) _
  have HVW := hidIn (HV.out.below HB.out)
  rw [← hW]
  clear hW HV
  refine (refNames0_any t hcnt W _ HVW.out).mono ?_
  rintro e w1 ⟨v1, rfl, hown1, hb1⟩
  have HB1 := hidIn hb1
  have HO1 := hidIn hown1
  clear hb1
  obtain ⟨L, HL⟩ : ∃ L, Hid (t.nams = L) := ⟨_, rfl⟩
  rw [HL.out] at hown1 HLEN HO1
  obtain ⟨sa, sc, rfl, htx, hll, _⟩ := own_txt hown1
  obtain ⟨i0, gi, gz0, gz1, gz2⟩ := info_parts infoStr
  have HTX := hidIn htx
  clear hown1 hcnt htx
  have hLl := HLEN.out
  go_wp2_with fail
  go_loopw [11, 3] (fun s11 s3 wr => ∃ i : Nat, i ≤ L.length ∧ s11 = .int .i64 i ∧ wr.ownsRow w1.heap.size 9 1 s3 (addAll [] (L.take i)).length (strCells (addAll [] (L.take i))) ∧ Below w1.heap.size w1 wr) (fun s11 _ _ => L.length - (intOf s11).toNat)
  case atStart => exact ⟨0, by omega, rfl, by simp only [List.take_zero]; exact World.ownsRow_nil _ _ _ _, Below.refl _ _⟩
  case round =>
    obtain ⟨i, hi, rfl, hrow, hbr⟩ := hrel
    obtain ⟨wA, hwA⟩ : ∃ y, y = wr := ⟨_, rfl⟩
    subst hwA
    have HROW := hidIn hrow
    have HBA := hidIn hbr
    clear hrow
    by_cases hlt : i < L.length
    · have hlt' : (i : Int) < (L.length : Int) := by omega
      obtain ⟨s, hs⟩ : ∃ s, L[i]? = some s := ⟨_, List.getElem?_eq_getElem hlt⟩
      obtain ⟨g, rfl, k0⟩ := (HTX.out.below hbr) i s hs
      have HNX : Hid (addAll [] (L.take (i + 1)) = addN (addAll [] (L.take i)) s) := by unfold Hid; rw [take_more _ _ _ hs, addAll_append]; rfl
      have haln : (addAll [] (L.take i)).length ≤ i := by have := addAll_le [] (L.take i); simp at this; omega
      clear hs hbr
      generalize addAll [] (L.take i) = acc at *
      obtain ⟨ao, ac, rfl, hatx, hal, _⟩ := own_txt HROW.out
      have HATX := hidIn hatx
      clear hatx
      go_wp2_with fail
      go_loopw [17, 6] (fun s17 s6 wr => ∃ j : Nat, j ≤ acc.length ∧ s17 = .int .i64 j ∧ s6 = .bool (inFirst acc s j) ∧ wr = wA) (fun s17 _ _ => acc.length - (intOf s17).toNat)
      case atStart => exact ⟨0, by omega, rfl, by simp [inFirst], rfl⟩
      case round =>
        obtain ⟨j, hj, rfl, rfl, hwr⟩ := hrel
        subst hwr
        by_cases hjl : j < acc.length
        · have hjl' : (j : Int) < (acc.length : Int) := by omega
          obtain ⟨y, hy⟩ : ∃ y, acc[j]? = some y := ⟨_, List.getElem?_eq_getElem hjl⟩
          obtain ⟨g2, rfl, k1⟩ := HATX.out j y hy
          have HJ := hidIn (inFirst_next acc s j y hy)
          clear hy
          cases hin : inFirst acc s j with
          | true =>
            rw [hin] at HJ
            go_wp2_with fail
            go_roundw
            case rel => exact ⟨j + 1, by omega, by go_num, by rw [HJ.out]; rfl, trivial⟩
            case measure => simp [intOf]; omega
          | false =>
            rw [hin] at HJ
            by_cases hys : y = s
            · subst hys
              go_wp2_with fail
              go_roundw
              case rel => exact ⟨j + 1, by omega, by go_num, by rw [HJ.out]; simp, trivial⟩
              case measure => simp [intOf]; omega
            · have hys' : ¬ y.toList = s.toList := fun e => hys (toList_inj e)
              have hys2 : (y.toList == s.toList) = false := by rw [beq_eq_false_iff_ne]; exact hys'
              go_wp2_with fail
              go_roundw
              case rel => exact ⟨j + 1, by omega, by go_num, by rw [HJ.out]; simp [hys], trivial⟩
              case measure => simp [intOf]; omega
        · have hje : j = acc.length := by omega
          subst hje
          have HIN : Hid (inFirst acc s acc.length = inN acc s) := by unfold Hid inFirst inN; rw [List.take_length]
          rw [HIN.out]
          cases hin : inN acc s with
          | true =>
            have HAD : Hid (addN acc s = acc) := by unfold Hid addN; rw [if_pos hin]
            go_wp2_with fail
            go_roundw
            case rel => exact ⟨i + 1, by omega, by go_num, by rw [HNX.out, HAD.out]; exact HROW.out, HBA.out⟩
            case measure => simp [intOf]; omega
          | false =>
            have HAD : Hid (addN acc s = acc ++ [s]) := by unfold Hid addN; rw [if_neg (by rw [hin]; simp)]
            go_wp2_with (first
              | (at_builtin; refine wpList_append_own _ rfl _ _ 23 rfl w1.heap.size 9 i0 (.string ByteArray.empty) 1 16 Tryz.underlying23 gi gz0 gz1 gz2 rfl (by decide) _ _ _ rfl (HROW.out.alloc _) ⟨_, 0, none⟩ 1 1 [.string s] rfl rfl (cell_one_in rfl _ _) (by intro u hu; simp at hu; subst hu; rfl) (by unfold maxLen; omega) (by omega) (by have := HBA.out.size; simp; omega) ?_; intro v2 w2 hown2 hgrow2 _)
              | go_in)
            go_roundw
            case rel => exact ⟨i + 1, by omega, by go_num, by rw [HNX.out, HAD.out]; simpa [strCells] using hown2, ((HBA.out.alloc HBA.out.size _).grown hgrow2 (by have := HBA.out.size; simp; omega) (fun j hj => (HROW.out.lt j hj).1))⟩
            case measure => simp [intOf]; omega
    · have hle : i = L.length := by omega
      subst hle
      have HE : Hid (wA.ownsRow w1.heap.size 9 1 u3 (addAll [] L).length (strCells (addAll [] L))) := by have h := HROW.out; rw [List.take_length] at h; exact h
      go_wp2_with fail
      go_ret
      rw [HL.out]
      exact ⟨_, rfl, ownsRow_base HE.out (Nat.le_trans HB.out.size HB1.out.size), HB.out.trans ((HB1.out.trans (HBA.out.mono HB1.out.size)).mono HB.out.size)⟩

end Go.Proofs.YtkioolbjmcpjpaaGreatDoor
namespace Go.Proofs.YtkioolbjmcpjpaaGreatDoor
open Go.RowKit
set_option linter.unusedVariables false

theorem plain_labs (o : O) : (plain o).labs = [] := by
  induction o <;> simp_all [plain, T.labs, labsL]
theorem plain_cnt (o : O) : (plain o).cnt ≤ 2 * o.nodes + 1 := by
  induction o <;> simp only [plain, T.cnt, cntL, O.nodes] at * <;> omega
theorem plain_sized (o : O) (h : o.Ok) : (plain o).Sized := by
  have he : (⟨#[]⟩ : ByteArray).size ≤ 2147483648 := by decide
  induction o with
  | const n => simp only [plain, T.Sized, SizedL]; exact ⟨he, trivial⟩
  | fix s => simp only [plain, T.Sized, SizedL]; exact ⟨h, trivial⟩
  | odd v => simp only [plain, T.Sized, SizedL]; exact ⟨he, trivial⟩
  | neg o h1 => simp only [plain, T.Sized, SizedL]; exact ⟨he, h1 h, trivial⟩
  | add l r h1 h2 => simp only [plain, T.Sized, SizedL]; exact ⟨he, h1 h.1, h2 h.2, trivial⟩
  | mul l r h1 h2 => simp only [plain, T.Sized, SizedL]; exact ⟨he, h1 h.1, h2 h.2, trivial⟩
  | max l r h1 h2 => simp only [plain, T.Sized, SizedL]; exact ⟨he, h1 h.1, h2 h.2, trivial⟩
theorem plain_form (o : O) : formT (plain o) true = formB o := by
  induction o <;> simp_all [plain, formT, formTL, headOk, partB, formB]

end Go.Proofs.YtkioolbjmcpjpaaGreatDoor
namespace Go.Proofs.YtkioolbjmcpjpaaGreatDoor
open Go.RowKit
set_option linter.unusedVariables false

theorem sameTr_mk (kind : Int) (s : ByteArray) (n : Int) (k : List T) (u : T) : sameTr (.mk kind s n k) u = (decide (kind ≠ 0) && (decide (kind = u.kind) && (decide (s = u.s) && (decide (n = u.n) && (decide (k.length = u.k.length) && sameTL k u.k))))) := by rw [sameTr]
theorem plain_same (a : O) : ∀ b, sameTr (plain a) (plain b) = sameO a b := by
  induction a with
  | const n => intro b; cases b <;> simp [plain, sameTr_mk, sameTL, sameO, T.kind, T.s, T.n, T.k] <;> (first | rfl | congr)
  | fix s => intro b; cases b <;> simp [plain, sameTr_mk, sameTL, sameO, T.kind, T.s, T.n, T.k] <;> (first | rfl | congr)
  | odd v => intro b; cases b <;> simp [plain, sameTr_mk, sameTL, sameO, T.kind, T.s, T.n, T.k]
  | neg o ih => intro b; cases b <;> simp [plain, sameTr_mk, sameTL, sameO, T.kind, T.s, T.n, T.k, ih]
  | add l r h1 h2 => intro b; cases b <;> simp [plain, sameTr_mk, sameTL, sameO, T.kind, T.s, T.n, T.k, h1, h2]
  | mul l r h1 h2 => intro b; cases b <;> simp [plain, sameTr_mk, sameTL, sameO, T.kind, T.s, T.n, T.k, h1, h2]
  | max l r h1 h2 => intro b; cases b <;> simp [plain, sameTr_mk, sameTL, sameO, T.kind, T.s, T.n, T.k, h1, h2]
theorem sameO_comm (a : O) : ∀ b, sameO a b = sameO b a := by
  induction a with
  | const n => intro b; cases b <;> simp [sameO, eq_comm]
  | fix s => intro b; cases b <;> simp [sameO, eq_comm]
  | odd v => intro b; cases b <;> simp [sameO]
  | neg o ih => intro b; cases b <;> simp [sameO, ih]
  | add l r h1 h2 => intro b; cases b <;> simp [sameO, h1, h2]
  | mul l r h1 h2 => intro b; cases b <;> simp [sameO, h1, h2]
  | max l r h1 h2 => intro b; cases b <;> simp [sameO, h1, h2]
theorem plain_nams (o : O) : (plain o).nams = o.all := by
  induction o <;> simp_all [plain, T.nams, namsL, O.all]
theorem plain_names (o : O) : addAll [] (plain o).nams = o.names := by rw [plain_nams]; rfl
theorem plain_chk (o : O) : chkT (plain o) true = chk o := by
  unfold chkT chk
  rw [plain_form, plain_nodes, plain_depth, plain_labs]
  simp [twice]
theorem plain_back (o : O) : plain (obsOf (plain o)) = plain o := by
  induction o with
  | const n => rfl
  | fix s => rfl
  | odd v => rfl
  | neg o ih => simp [plain, obsOf, obsL, ih]
  | add l r h1 h2 => simp [plain, obsOf, obsL, h1, h2]
  | mul l r h1 h2 => simp [plain, obsOf, obsL, h1, h2]
  | max l r h1 h2 => simp [plain, obsOf, obsL, h1, h2]

end Go.Proofs.YtkioolbjmcpjpaaGreatDoor
namespace Go.Proofs.YtkioolbjmcpjpaaGreatDoor
open Go.RowKit
set_option linter.unusedVariables false

theorem near_fold (w : World) (R : Nat) (a b c d : Value) (o o' : Obj) : Near R w.heap.size (w.alloc o) (((((w.setCell ⟨R, 0, none⟩ a).setCell ⟨R, 1, none⟩ b).setCell ⟨R, 2, none⟩ c).setCell ⟨R, 3, none⟩ d).alloc o') := by
  refine ⟨rfl, rfl, rfl, by simp, fun k hk h1 h2 => ?_⟩
  rw [World.size_alloc] at hk
  have hk2 : k < w.heap.size := by omega
  rw [Below.heap_alloc _ _ _ (by simpa using hk2), Below.heap_alloc _ _ _ hk2, heap_setCell_other _ ⟨R, 3, none⟩ k _ h1, heap_setCell_other _ ⟨R, 2, none⟩ k _ h1, heap_setCell_other _ ⟨R, 1, none⟩ k _ h1, heap_setCell_other _ ⟨R, 0, none⟩ k _ h1]

set_option maxHeartbeats 2000000 in
set_option maxRecDepth 100000 in
theorem mterm_leaf (w0 w : World) (M : Nat) (p : Pl) (d i : Nat) (left : Int) (label : Nat) (h : MIn w0 w M p i left label) (hi : i + 20 ≤ 800000) (hl1 : -800000 + 20 ≤ left) (hl2 : left ≤ 800000) (hd : d ≤ 1000) (hk : kT p d i left ≤ 2)
    (res : CR) (hres : res = if kT p d i left ≤ 1 then (.one (curOf p (i + 1)), i + 2, left - 1, label) else (.zero, i + 1, left - 1, label)) :
    Calls Tryz.prog 83 #[.pointer (some ⟨M, 0, none⟩), .int .i64 d] w (MPostC w0 w M p res) := by
  obtain ⟨q, hq⟩ : ∃ q : Nat, nth p i % 13 = q := ⟨(nth p i % 13).toNat, by omega⟩
  have hq13 : q < 13 := by omega
  obtain ⟨K, hK⟩ : ∃ K, kT p d i left = K := ⟨_, rfl⟩
  have hkq : K = if d = 0 ∨ left - 1 ≤ 0 then q % 3 else q := by rw [← hK]; unfold kT; rw [hq]; simp
  rw [hK] at hk hres
  have HKQ := hidIn hkq
  have HQ : Hid (nth p i % (13 : Nat) = (q : Int)) := hq
  have HRES0 : Hid (res = if K ≤ 1 then (.one (curOf p (i + 1)), i + 2, left - 1, label) else (.zero, i + 1, left - 1, label)) := hres
  obtain ⟨g0, g1, g2, g3, gf⟩ := h.cells
  have hMw := h.blk.lt
  have hMne : ¬ M = w.heap.size := by omega
  have h3 : ∀ o, (w.alloc o).cell? ⟨M, 3, none⟩ = some (.int .i64 left) := fun o => (Below.cell (below_alloc (Below.refl _ _) _) (p := ⟨M, 3, none⟩) hMw).trans g3
  have hf3 : ∀ o, (w.alloc o).frozen? ⟨M, 3, none⟩ = false := fun o => (Below.frozen (below_alloc (Below.refl _ _) _) (p := ⟨M, 3, none⟩) hMw).trans (gf 3)
  have HMA : Hid (MIn w0 ((w.setCell ⟨M, 3, none⟩ (.int .i64 (left - 1))).alloc (.cells zeroT 33)) M p i (left - 1) label) := (h.setLeft _).alloc _
  have HZ : Hid (Blk ((w.setCell ⟨M, 3, none⟩ (.int .i64 (left - 1))).alloc (.cells zeroT 33)) w.heap.size 33 zeroT) := blk_new (by simp)
  have HGA : Hid (Grew M none w ((w.setCell ⟨M, 3, none⟩ (.int .i64 (left - 1))).alloc (.cells zeroT 33))) := ((Grew.refl _ _ _).set _ _).alloc _
  have HO : Hid (w0.heap.size ≤ w.heap.size) := by have := h.old; show _ ≤ _; omega
  have HMW := hidIn hMw
  clear h g0 g1 g2 g3 gf hq hres hK hkq
  go_enter Tryz.func83, Tryz.ntmps83
  go_wp2_with fail
  refine (mn_any w0 _ M p i (left - 1) label 13 HMA.out (by omega) (by omega) (by omega)).mono ?_
  rintro e w2 ⟨rfl, hm2, hg2⟩
  rw [HQ.out]
  obtain ⟨g0, g1, g2, g3, gf⟩ := hm2.cells
  obtain ⟨w3, hw3⟩ : ∃ w3, w3 = w2.alloc (.cells zeroT 33) := ⟨_, rfl⟩
  have HP3 : Hid (Pre w0 w w3 M p (i + 1) (left - 1) label w2.heap.size) := by
    rw [hw3]
    have hz2 := HZ.out.grew hg2 (fun e => hMne e.symm)
    exact ⟨hm2.alloc _, (HGA.out.trans hg2 (.inl rfl)).alloc _, (Below.heap_alloc _ _ _ hz2.lt).trans hz2, blk_new rfl, hz2.lt, HMW.out, HO.out⟩
  have HS3 : Hid (w2.heap.size < w3.heap.size) := by rw [hw3]; show _ < _; simp
  have HZ2 := hidIn (HZ.out.grew hg2 (fun e => hMne e.symm))
  have HS4 : Hid (w2.heap.size + 1 = w3.heap.size) := by rw [hw3]; show _ = _; simp
  unfold zeroT at hw3
  clear g0 g1 g2 gf hm2 hg2 h3 hf3 HGA HZ HMA HQ hMw
  obtain ⟨b0, hb0⟩ : ∃ b0 : Bool, (b0 = true ∧ (d = 0 ∨ (¬ d = 0 ∧ left - 1 ≤ 0))) ∨ (b0 = false ∧ ¬ d = 0 ∧ ¬ left - 1 ≤ 0) := by
    by_cases hc : d = 0 ∨ left - 1 ≤ 0
    · exact ⟨true, .inl ⟨rfl, by omega⟩⟩
    · exact ⟨false, .inr ⟨rfl, by omega, by omega⟩⟩
  go_upto_region 3 with fail
  go_cut [31] (fun s31 wx => s31 = .bool b0 ∧ w2 = wx)
  case first =>
    rcases hb0 with ⟨rfl, hd0 | ⟨hd0, hl0⟩⟩ | ⟨rfl, hd0, hl0⟩
    · have hd' : (d : Int) ≤ 0 := by omega
      have hdd : decide ((d : Int) ≤ 0) = true := decide_eq_true hd'
      go_wp2_with fail
      go_meet
      case rel => exact ⟨rfl, rfl⟩
    · have hd' : ¬ (d : Int) ≤ 0 := by omega
      have hdd : decide ((d : Int) ≤ 0) = false := decide_eq_false hd'
      go_wp2_with fail
      go_meet
      case rel => exact ⟨by first | rfl | exact congrArg Value.bool (decide_eq_true (by omega)), rfl⟩
    · have hd' : ¬ (d : Int) ≤ 0 := by omega
      have hdd : decide ((d : Int) ≤ 0) = false := decide_eq_false hd'
      go_wp2_with fail
      go_meet
      case rel => exact ⟨by first | rfl | exact congrArg Value.bool (decide_eq_false (by omega)), rfl⟩
  case rest =>
   obtain ⟨rfl, rfl⟩ := hcut
   go_upto_if 31 with fail
   go_cut [5] (fun s5 wx => s5 = .int .i64 K ∧ w2 = wx)
   case first =>
    have hkq := HKQ.out
    rcases hb0 with ⟨rfl, hc⟩ | ⟨rfl, hd0, hl0⟩
    · have hmod1 : Int.tmod (q : Int) 3 = (K : Int) := by rw [hkq, if_pos (by omega)]; rfl
      have hmod2 : (q : Int) % 3 = (K : Int) := by rw [hkq, if_pos (by omega)]; rfl
      clear hkq
      go_wp2_with fail
      go_meet
      case rel => exact ⟨rfl, rfl⟩
    · have hqK : (q : Int) = (K : Int) := by rw [hkq, if_neg (by omega)]
      clear hkq
      go_wp2_with fail
      go_meet
      case rel => exact ⟨by rw [hqK], rfl⟩
   case rest =>
    obtain ⟨rfl, rfl⟩ := hcut
    have hk3 : K = 0 ∨ K = 1 ∨ K = 2 := by omega
    have hRT : ¬ w.heap.size = w2.heap.size := by have := HP3.out.lo; omega
    have hTR : ¬ w2.heap.size = w.heap.size := fun e => hRT e.symm
    rcases hk3 with rfl | rfl | rfl
    · have HRES : Hid (res = (.one (curOf p (i + 1)), i + 2, left - 1, label)) := by unfold Hid; rw [HRES0.out, if_pos (by omega)]
      go_wp2_with fail
      rw [← hw3]
      refine (mcur_any w0 (w3.alloc (.cells cur3 9)) M (w2.heap.size + 1) p (i + 1) (left - 1) label (HP3.out.min.alloc _) (by omega) (blk_new (cs := cur3) HS4.out) (by have := HP3.out.min.blk.lt; have := HS4.out; omega)).mono ?_
      rintro e w4 ⟨rfl, hm4, hg4⟩
      have HP4 := hidIn ((HP3.out.next ((Grew.refl _ _ _).alloc _) (HP3.out.min.alloc _)).next hg4 hm4)
      clear hm4 hg4 hw3
      generalize curOf p (i + 1) = S at *
      obtain ⟨⟨z0, z1, z2, z3⟩, f0, f1, f2, f3⟩ := blk_zero HP4.out.res
      obtain ⟨⟨y0, y1, y2, y3⟩, e0, e1, e2, e3⟩ := blk_zero HP4.out.tmp
      have hRlt : w.heap.size < w4.heap.size := HP4.out.res.lt
      have hTlt : w2.heap.size < w4.heap.size := HP4.out.tmp.lt
      have hfa : ∀ (X : World) (o : Obj) (k : Nat), w.heap.size < X.heap.size → (X.alloc o).frozen? ⟨w.heap.size, k, none⟩ = X.frozen? ⟨w.heap.size, k, none⟩ := fun X o k hX => (below_alloc (Below.refl _ _) o).frozen (p := ⟨w.heap.size, k, none⟩) hX
      have hfb : ∀ (X : World) (o : Obj) (k : Nat), w2.heap.size < X.heap.size → (X.alloc o).frozen? ⟨w2.heap.size, k, none⟩ = X.frozen? ⟨w2.heap.size, k, none⟩ := fun X o k hX => (below_alloc (Below.refl _ _) o).frozen (p := ⟨w2.heap.size, k, none⟩) hX
      go_wp2_with fail
      refine bodyPost_ret (results_cell_row rfl _ _ w.heap.size 33 #[.int .i64 2, .string S, .int .i64 0, .slice none 0 0] (0, 0) _ rfl ?blk Tryz.underlying33 rfl infoT) rfl ?post
      case blk =>
        change Blk _ _ _ _
        first | (with_reducible refine blk_set4 ?_ _ _ _ _ _) | (with_reducible refine blk_set4' ?_ _ _ _ _)
        (repeat (first | (with_reducible exact HP4.out.res) | (with_reducible refine blk_other ?_ hRT _ _) | (with_reducible refine blk_keep ?_ _) | (with_reducible refine blk_drew ?_)))
      case post =>
        rw [HRES.out]
        refine HP4.out.fin0 ?_ (.one S) rfl
        all_goals first | ((repeat (first | (with_reducible exact Near.refl _ _ _) | (with_reducible refine Near.setR ?_ _ _) | (with_reducible refine Near.setT ?_ _ _) | (with_reducible refine Near.alloc ?_ _) | (with_reducible refine Near.drew ?_))); done) | exact blk_new (by simp)
    · have HRES : Hid (res = (.one (curOf p (i + 1)), i + 2, left - 1, label)) := by unfold Hid; rw [HRES0.out, if_pos (by omega)]
      go_wp2_with fail
      rw [← hw3]
      refine (mcur_any w0 (w3.alloc (.cells cur3 9)) M (w2.heap.size + 1) p (i + 1) (left - 1) label (HP3.out.min.alloc _) (by omega) (blk_new (cs := cur3) HS4.out) (by have := HP3.out.min.blk.lt; have := HS4.out; omega)).mono ?_
      rintro e w4 ⟨rfl, hm4, hg4⟩
      have HP4 := hidIn ((HP3.out.next ((Grew.refl _ _ _).alloc _) (HP3.out.min.alloc _)).next hg4 hm4)
      clear hm4 hg4 hw3
      generalize curOf p (i + 1) = S at *
      obtain ⟨⟨z0, z1, z2, z3⟩, f0, f1, f2, f3⟩ := blk_zero HP4.out.res
      obtain ⟨⟨y0, y1, y2, y3⟩, e0, e1, e2, e3⟩ := blk_zero HP4.out.tmp
      have hRlt : w.heap.size < w4.heap.size := HP4.out.res.lt
      have hTlt : w2.heap.size < w4.heap.size := HP4.out.tmp.lt
      have hfa : ∀ (X : World) (o : Obj) (k : Nat), w.heap.size < X.heap.size → (X.alloc o).frozen? ⟨w.heap.size, k, none⟩ = X.frozen? ⟨w.heap.size, k, none⟩ := fun X o k hX => (below_alloc (Below.refl _ _) o).frozen (p := ⟨w.heap.size, k, none⟩) hX
      have hfb : ∀ (X : World) (o : Obj) (k : Nat), w2.heap.size < X.heap.size → (X.alloc o).frozen? ⟨w2.heap.size, k, none⟩ = X.frozen? ⟨w2.heap.size, k, none⟩ := fun X o k hX => (below_alloc (Below.refl _ _) o).frozen (p := ⟨w2.heap.size, k, none⟩) hX
      go_wp2_with fail
      refine bodyPost_ret (results_cell_row rfl _ _ w.heap.size 33 #[.int .i64 2, .string S, .int .i64 0, .slice none 0 0] (0, 0) _ rfl ?blk Tryz.underlying33 rfl infoT) rfl ?post
      case blk =>
        change Blk _ _ _ _
        first | (with_reducible refine blk_set4 ?_ _ _ _ _ _) | (with_reducible refine blk_set4' ?_ _ _ _ _)
        (repeat (first | (with_reducible exact HP4.out.res) | (with_reducible refine blk_other ?_ hRT _ _) | (with_reducible refine blk_keep ?_ _) | (with_reducible refine blk_drew ?_)))
      case post =>
        rw [HRES.out]
        refine HP4.out.fin0 ?_ (.one S) rfl
        all_goals first | ((repeat (first | (with_reducible exact Near.refl _ _ _) | (with_reducible refine Near.setR ?_ _ _) | (with_reducible refine Near.setT ?_ _ _) | (with_reducible refine Near.alloc ?_ _) | (with_reducible refine Near.drew ?_))); done) | exact blk_new (by simp)
    · have HRES : Hid (res = (.zero, i + 1, left - 1, label)) := by unfold Hid; rw [HRES0.out, if_neg (by omega)]
      obtain ⟨⟨z0, z1, z2, z3⟩, f0, f1, f2, f3⟩ := blk_zero HZ2.out
      have hR2 : w.heap.size < w2.heap.size := HZ2.out.lt
      have hfa : ∀ (X : World) (o : Obj) (k : Nat), w.heap.size < X.heap.size → (X.alloc o).frozen? ⟨w.heap.size, k, none⟩ = X.frozen? ⟨w.heap.size, k, none⟩ := fun X o k hX => (below_alloc (Below.refl _ _) o).frozen (p := ⟨w.heap.size, k, none⟩) hX
      go_wp2_with fail
      refine bodyPost_ret (results_cell_row rfl _ _ w.heap.size 33 #[.int .i64 1, .string ⟨#[]⟩, .int .i64 0, .slice none 0 0] (0, 0) _ rfl ?blk Tryz.underlying33 rfl infoT) rfl ?post
      case blk =>
        change Blk _ _ _ _
        with_reducible refine blk_set4 ?_ _ _ _ _ _
        exact HZ2.out
      case post =>
        rw [HRES.out]
        have hp := HP3.out
        rw [hw3] at hp
        refine hp.fin0 ?_ .zero rfl
        exact near_fold _ _ _ _ _ _ _ _

end Go.Proofs.YtkioolbjmcpjpaaGreatDoor
namespace Go.Proofs.YtkioolbjmcpjpaaGreatDoor
open Go.RowKit
set_option linter.unusedVariables false

set_option maxHeartbeats 1000000 in
set_option maxRecDepth 100000 in
theorem mterm_give (w0 w : World) (M : Nat) (p : Pl) (d i : Nat) (left : Int) (label : Nat) (N : Nat) (ih : LessC w0 M p d N) (h : MIn w0 w M p i left label) (hN : N ≤ 100000) (hi : i + 20 + 3 * N ≤ 800000) (hl1 : -800000 + 3 * (N : Int) + 20 ≤ left) (hl2 : left ≤ 800000) (hlb : label + 20 + 3 * N ≤ 800000) (hd : d ≤ 1000) (hb1 : ∀ i left label, (conO p d i left label).2.1 ≤ i + N ∧ left - N ≤ (conO p d i left label).2.2.1 ∧ (conO p d i left label).2.2.1 ≤ left ∧ (conO p d i left label).2.2.2 ≤ label + N) (hk : kT p (d + 1) i left = 3 ∨ kT p (d + 1) i left = 4)
    (res : CR) (hres : res = conO p (d + 1) i left label) :
    Calls Tryz.prog 83 #[.pointer (some ⟨M, 0, none⟩), .int .i64 ((d : Int) + 1)] w (MPostC w0 w M p res) := by
  have hkk := kT_deep p (d + 1) i left (by omega)
  obtain ⟨_, hl0, hq⟩ := hkk
  obtain ⟨K, hK⟩ : ∃ K, kT p (d + 1) i left = K := ⟨_, rfl⟩
  rw [hK] at hq hk
  have HQ : Hid (nth p i % (13 : Nat) = (K : Int)) := hq
  have HRES0 : Hid (res = conO p (d + 1) i left label) := hres
  have HKT := hidIn hK
  have HIH : Hid (LessC w0 M p d N) := ih
  obtain ⟨g0, g1, g2, g3, gf⟩ := h.cells
  have hMw := h.blk.lt
  have hMne : ¬ M = w.heap.size := by omega
  have h3 : ∀ o, (w.alloc o).cell? ⟨M, 3, none⟩ = some (.int .i64 left) := fun o => (Below.cell (below_alloc (Below.refl _ _) _) (p := ⟨M, 3, none⟩) hMw).trans g3
  have hf3 : ∀ o, (w.alloc o).frozen? ⟨M, 3, none⟩ = false := fun o => (Below.frozen (below_alloc (Below.refl _ _) _) (p := ⟨M, 3, none⟩) hMw).trans (gf 3)
  have HMA : Hid (MIn w0 ((w.setCell ⟨M, 3, none⟩ (.int .i64 (left - 1))).alloc (.cells zeroT 33)) M p i (left - 1) label) := (h.setLeft _).alloc _
  have HZ : Hid (Blk ((w.setCell ⟨M, 3, none⟩ (.int .i64 (left - 1))).alloc (.cells zeroT 33)) w.heap.size 33 zeroT) := blk_new (by simp)
  have HGA : Hid (Grew M none w ((w.setCell ⟨M, 3, none⟩ (.int .i64 (left - 1))).alloc (.cells zeroT 33))) := ((Grew.refl _ _ _).set _ _).alloc _
  have HO : Hid (w0.heap.size ≤ w.heap.size) := by have := h.old; show _ ≤ _; omega
  have HMW := hidIn hMw
  have hl0' : ¬ left - 1 ≤ 0 := by omega
  have hd' : ¬ (d : Int) + 1 ≤ 0 := by omega
  have hdd : decide ((d : Int) + 1 ≤ 0) = false := decide_eq_false hd'
  clear h g0 g1 g2 g3 gf hq hres ih hK
  go_enter Tryz.func83, Tryz.ntmps83
  go_wp2_with fail
  refine (mn_any w0 _ M p i (left - 1) label 13 HMA.out (by omega) (by omega) (by omega)).mono ?_
  rintro e w2 ⟨rfl, hm2, hg2⟩
  rw [HQ.out]
  obtain ⟨g0, g1, g2, g3, gf⟩ := hm2.cells
  obtain ⟨w3, hw3⟩ : ∃ w3, w3 = w2.alloc (.cells zeroT 33) := ⟨_, rfl⟩
  have HP3 : Hid (Pre w0 w w3 M p (i + 1) (left - 1) label w2.heap.size) := by
    rw [hw3]
    have hz2 := HZ.out.grew hg2 (fun e => hMne e.symm)
    exact ⟨hm2.alloc _, (HGA.out.trans hg2 (.inl rfl)).alloc _, (Below.heap_alloc _ _ _ hz2.lt).trans hz2, blk_new rfl, hz2.lt, HMW.out, HO.out⟩
  have HS3 : Hid (w2.heap.size < w3.heap.size) := by rw [hw3]; show _ < _; simp
  unfold zeroT at hw3
  clear g0 g1 g2 gf hm2 hg2 h3 hf3 HGA HZ HMA HQ hMw
  have HRES : Hid (res = (.give (conO p d (i + 1) (left - 1) label).1, (conO p d (i + 1) (left - 1) label).2)) := by
    have h0 := HKT.out
    unfold Hid
    rw [HRES0.out, conO, if_neg (by omega), if_neg (by omega), if_pos (by omega)]
  clear HRES0 HKT
  rcases hk with rfl | rfl
  all_goals
    go_wp2_with fail
    rw [← hw3]
    have HC := HIH.out w3 (i + 1) (left - 1) label HP3.out.min (by omega) (by omega) (by omega) (by omega)
    refine HC.mono ?_
    rintro e w4 ⟨v, rfl, ht4, hm4, hg4⟩
    clear HC
    have HP4 := hidIn (HP3.out.next hg4 hm4)
    generalize conO p d (i + 1) (left - 1) label = sub at *
    obtain ⟨c1, i1, l1, b1⟩ := sub
    simp only at ht4 hm4 HP4 HRES
    have ht4' := ht4
    obtain ⟨ka, kc, rfl, _, _, _⟩ := ht4'
    have HT4 : Hid (TIn w4 w3.heap.size (plainC c1) (.agg (four (plainC c1) ka kc))) := ht4
    clear ht4 hm4 hg4 hw3
    obtain ⟨⟨z0, z1, z2, z3⟩, f0, f1, f2, f3⟩ := blk_zero HP4.out.res
    obtain ⟨⟨y0, y1, y2, y3⟩, e0, e1, e2, e3⟩ := blk_zero HP4.out.tmp
    have hRlt : w.heap.size < w4.heap.size := HP4.out.res.lt
    have hTlt : w2.heap.size < w4.heap.size := HP4.out.tmp.lt
    have hRT : ¬ w.heap.size = w2.heap.size := by have := HP4.out.lo; omega
    have hTR : ¬ w2.heap.size = w.heap.size := fun e => hRT e.symm
    have hfa : ∀ (X : World) (o : Obj) (k : Nat), w.heap.size < X.heap.size → (X.alloc o).frozen? ⟨w.heap.size, k, none⟩ = X.frozen? ⟨w.heap.size, k, none⟩ := fun X o k hX => (below_alloc (Below.refl _ _) o).frozen (p := ⟨w.heap.size, k, none⟩) hX
    have hfb : ∀ (X : World) (o : Obj) (k : Nat), w2.heap.size < X.heap.size → (X.alloc o).frozen? ⟨w2.heap.size, k, none⟩ = X.frozen? ⟨w2.heap.size, k, none⟩ := fun X o k hX => (below_alloc (Below.refl _ _) o).frozen (p := ⟨w2.heap.size, k, none⟩) hX
    go_wp2_with fail
    refine bodyPost_ret (results_cell_row rfl _ _ w.heap.size 33 #[.int .i64 3, .string ⟨#[]⟩, .int .i64 0, .slice (some ⟨w4.heap.size, 0, none⟩) 1 1] (0, 0) _ rfl ?blk Tryz.underlying33 rfl infoT) rfl ?post
    case blk =>
      change Blk _ _ _ _
      first | (with_reducible refine blk_set4 ?_ _ _ _ _ _) | (with_reducible refine blk_set4' ?_ _ _ _ _)
      (repeat (first | (with_reducible exact HP4.out.res) | (with_reducible refine blk_other ?_ hRT _ _) | (with_reducible refine blk_keep ?_ _) | (with_reducible refine blk_drew ?_)))
    case post =>
      rw [HRES.out]
      refine HP4.out.fin1 ?_ (.give c1) rfl HT4.out HS3.out (Nat.le_of_lt hRlt) ?_
      all_goals first | ((repeat (first | (with_reducible exact Near.refl _ _ _) | (with_reducible refine Near.setR ?_ _ _) | (with_reducible refine Near.setT ?_ _ _) | (with_reducible refine Near.alloc ?_ _) | (with_reducible refine Near.drew ?_))); done) | exact blk_new (by simp)
set_option maxHeartbeats 1000000 in
set_option maxRecDepth 100000 in
theorem mterm_when (w0 w : World) (M : Nat) (p : Pl) (d i : Nat) (left : Int) (label : Nat) (N : Nat) (ih : LessC w0 M p d N) (h : MIn w0 w M p i left label) (hN : N ≤ 100000) (hi : i + 20 + 3 * N ≤ 800000) (hl1 : -800000 + 3 * (N : Int) + 20 ≤ left) (hl2 : left ≤ 800000) (hlb : label + 20 + 3 * N ≤ 800000) (hd : d ≤ 1000) (hb1 : ∀ i left label, (conO p d i left label).2.1 ≤ i + N ∧ left - N ≤ (conO p d i left label).2.2.1 ∧ (conO p d i left label).2.2.1 ≤ left ∧ (conO p d i left label).2.2.2 ≤ label + N) (hk : kT p (d + 1) i left = 11)
    (res : CR) (hres : res = conO p (d + 1) i left label) :
    Calls Tryz.prog 83 #[.pointer (some ⟨M, 0, none⟩), .int .i64 ((d : Int) + 1)] w (MPostC w0 w M p res) := by
  have hkk := kT_deep p (d + 1) i left (by omega)
  obtain ⟨_, hl0, hq⟩ := hkk
  obtain ⟨K, hK⟩ : ∃ K, kT p (d + 1) i left = K := ⟨_, rfl⟩
  rw [hK] at hq hk
  have HQ : Hid (nth p i % (13 : Nat) = (K : Int)) := hq
  have HRES0 : Hid (res = conO p (d + 1) i left label) := hres
  have HKT := hidIn hK
  have HIH : Hid (LessC w0 M p d N) := ih
  obtain ⟨g0, g1, g2, g3, gf⟩ := h.cells
  have hMw := h.blk.lt
  have hMne : ¬ M = w.heap.size := by omega
  have h3 : ∀ o, (w.alloc o).cell? ⟨M, 3, none⟩ = some (.int .i64 left) := fun o => (Below.cell (below_alloc (Below.refl _ _) _) (p := ⟨M, 3, none⟩) hMw).trans g3
  have hf3 : ∀ o, (w.alloc o).frozen? ⟨M, 3, none⟩ = false := fun o => (Below.frozen (below_alloc (Below.refl _ _) _) (p := ⟨M, 3, none⟩) hMw).trans (gf 3)
  have HMA : Hid (MIn w0 ((w.setCell ⟨M, 3, none⟩ (.int .i64 (left - 1))).alloc (.cells zeroT 33)) M p i (left - 1) label) := (h.setLeft _).alloc _
  have HZ : Hid (Blk ((w.setCell ⟨M, 3, none⟩ (.int .i64 (left - 1))).alloc (.cells zeroT 33)) w.heap.size 33 zeroT) := blk_new (by simp)
  have HGA : Hid (Grew M none w ((w.setCell ⟨M, 3, none⟩ (.int .i64 (left - 1))).alloc (.cells zeroT 33))) := ((Grew.refl _ _ _).set _ _).alloc _
  have HO : Hid (w0.heap.size ≤ w.heap.size) := by have := h.old; show _ ≤ _; omega
  have HMW := hidIn hMw
  have hl0' : ¬ left - 1 ≤ 0 := by omega
  have hd' : ¬ (d : Int) + 1 ≤ 0 := by omega
  have hdd : decide ((d : Int) + 1 ≤ 0) = false := decide_eq_false hd'
  clear h g0 g1 g2 g3 gf hq hres ih hK
  go_enter Tryz.func83, Tryz.ntmps83
  go_wp2_with fail
  refine (mn_any w0 _ M p i (left - 1) label 13 HMA.out (by omega) (by omega) (by omega)).mono ?_
  rintro e w2 ⟨rfl, hm2, hg2⟩
  rw [HQ.out]
  obtain ⟨g0, g1, g2, g3, gf⟩ := hm2.cells
  obtain ⟨w3, hw3⟩ : ∃ w3, w3 = w2.alloc (.cells zeroT 33) := ⟨_, rfl⟩
  have HP3 : Hid (Pre w0 w w3 M p (i + 1) (left - 1) label w2.heap.size) := by
    rw [hw3]
    have hz2 := HZ.out.grew hg2 (fun e => hMne e.symm)
    exact ⟨hm2.alloc _, (HGA.out.trans hg2 (.inl rfl)).alloc _, (Below.heap_alloc _ _ _ hz2.lt).trans hz2, blk_new rfl, hz2.lt, HMW.out, HO.out⟩
  have HS3 : Hid (w2.heap.size < w3.heap.size) := by rw [hw3]; show _ < _; simp
  unfold zeroT at hw3
  clear g0 g1 g2 gf hm2 hg2 h3 hf3 HGA HZ HMA HQ hMw
  have HRES : Hid (res = (.when (nth p (i + 1) % 8) (conO p d (i + 2) (left - 1) label).1, (conO p d (i + 2) (left - 1) label).2)) := by
    have h0 := HKT.out
    unfold Hid
    rw [HRES0.out, conO, if_neg (by omega), if_neg (by omega), if_neg (by omega), if_neg (by omega), if_neg (by omega), if_neg (by omega), if_pos (by omega)]
  obtain ⟨x, hx⟩ : ∃ x : Int, nth p (i + 1) % (8 : Nat) = x := ⟨_, rfl⟩
  have HX : Hid (nth p (i + 1) % (8 : Nat) = x) := hx
  have HX8 : Hid (nth p (i + 1) % 8 = x) := hx
  clear HRES0 HKT hx
  subst hk
  go_wp2_with fail
  rw [← hw3]
  refine (mn_any w0 _ M p (i + 1) (left - 1) label 8 HP3.out.min (by omega) (by omega) (by omega)).mono ?_
  rintro e w4 ⟨rfl, hm4, hg4⟩
  rw [HX.out]
  have HP4 := hidIn (HP3.out.next hg4 hm4)
  have HS4 : Hid (w2.heap.size < w4.heap.size) := Nat.lt_of_lt_of_le HS3.out hg4.size
  clear hm4 hg4 hw3
  go_wp2_with fail
  have HC := HIH.out w4 (i + 2) (left - 1) label HP4.out.min (by omega) (by omega) (by omega) (by omega)
  refine HC.mono ?_
  rintro e w5 ⟨v, rfl, ht5, hm5, hg5⟩
  clear HC
  have HP5 := hidIn (HP4.out.next hg5 hm5)
  generalize conO p d (i + 2) (left - 1) label = sub at *
  obtain ⟨c1, i1, l1, b1⟩ := sub
  simp only at ht5 hm5 HP5 HRES
  have ht5' := ht5
  obtain ⟨ka, kc, rfl, _, _, _⟩ := ht5'
  have HT5 : Hid (TIn w5 w4.heap.size (plainC c1) (.agg (four (plainC c1) ka kc))) := ht5
  clear ht5 hm5 hg5
  obtain ⟨⟨z0, z1, z2, z3⟩, f0, f1, f2, f3⟩ := blk_zero HP5.out.res
  obtain ⟨⟨y0, y1, y2, y3⟩, e0, e1, e2, e3⟩ := blk_zero HP5.out.tmp
  have hRlt : w.heap.size < w5.heap.size := HP5.out.res.lt
  have hTlt : w2.heap.size < w5.heap.size := HP5.out.tmp.lt
  have hRT : ¬ w.heap.size = w2.heap.size := by have := HP5.out.lo; omega
  have hTR : ¬ w2.heap.size = w.heap.size := fun e => hRT e.symm
  have hfa : ∀ (X : World) (o : Obj) (k : Nat), w.heap.size < X.heap.size → (X.alloc o).frozen? ⟨w.heap.size, k, none⟩ = X.frozen? ⟨w.heap.size, k, none⟩ := fun X o k hX => (below_alloc (Below.refl _ _) o).frozen (p := ⟨w.heap.size, k, none⟩) hX
  have hfb : ∀ (X : World) (o : Obj) (k : Nat), w2.heap.size < X.heap.size → (X.alloc o).frozen? ⟨w2.heap.size, k, none⟩ = X.frozen? ⟨w2.heap.size, k, none⟩ := fun X o k hX => (below_alloc (Below.refl _ _) o).frozen (p := ⟨w2.heap.size, k, none⟩) hX
  go_wp2_with fail
  refine bodyPost_ret (results_cell_row rfl _ _ w.heap.size 33 #[.int .i64 7, .string ⟨#[]⟩, .int .i64 x, .slice (some ⟨w5.heap.size, 0, none⟩) 1 1] (0, 0) _ rfl ?blk Tryz.underlying33 rfl infoT) rfl ?post
  case blk =>
    change Blk _ _ _ _
    first | (with_reducible refine blk_set4 ?_ _ _ _ _ _) | (with_reducible refine blk_set4' ?_ _ _ _ _)
    (repeat (first | (with_reducible exact HP5.out.res) | (with_reducible refine blk_other ?_ hRT _ _) | (with_reducible refine blk_keep ?_ _) | (with_reducible refine blk_drew ?_)))
  case post =>
    rw [HRES.out]
    rw [HX8.out]; refine HP5.out.fin1 ?_ (.when x c1) rfl HT5.out HS4.out (Nat.le_of_lt hRlt) ?_
    all_goals first | ((repeat (first | (with_reducible exact Near.refl _ _ _) | (with_reducible refine Near.setR ?_ _ _) | (with_reducible refine Near.setT ?_ _ _) | (with_reducible refine Near.alloc ?_ _) | (with_reducible refine Near.drew ?_))); done) | exact blk_new (by simp)

end Go.Proofs.YtkioolbjmcpjpaaGreatDoor
namespace Go.Proofs.YtkioolbjmcpjpaaGreatDoor
open Go.RowKit
set_option linter.unusedVariables false

/-- How far a contract goes. -/
def rC : Nat → Nat
  | 0 => 40
  | d + 1 => 4 * rC d + 40
theorem rC_pos : ∀ d, 40 ≤ rC d
  | 0 => Nat.le_refl _
  | d + 1 => by have := rC_pos d; simp only [rC]; omega
theorem rC_le (d : Nat) (h : d ≤ 5) : rC d ≤ 60000 := by
  have : d = 0 ∨ d = 1 ∨ d = 2 ∨ d = 3 ∨ d = 4 ∨ d = 5 := by omega
  rcases this with rfl | rfl | rfl | rfl | rfl | rfl <;> decide
theorem reach_min (d : Nat) : reach (min d 2) ≤ 11 := by
  have : min d 2 = 0 ∨ min d 2 = 1 ∨ min d 2 = 2 := by omega
  rcases this with h | h | h <;> rw [h] <;> decide
theorem conO_reach (p : Pl) : ∀ d i left label, (conO p d i left label).2.1 ≤ i + rC d ∧ left - rC d ≤ (conO p d i left label).2.2.1 ∧ (conO p d i left label).2.2.1 ≤ left ∧ (conO p d i left label).2.2.2 ≤ label + rC d := by
  intro d
  induction d with
  | zero =>
    intro i left label
    unfold conO
    simp only [rC]
    split <;> simp only <;> omega
  | succ d ih =>
    intro i left label
    have hr := rC_pos d
    have h1 := ih (i + 1) (left - 1) label
    have h2 := ih (conO p d (i + 1) (left - 1) label).2.1 (conO p d (i + 1) (left - 1) label).2.2.1 (conO p d (i + 1) (left - 1) label).2.2.2
    have h3 := ih (i + 2) (left - 1) (label + 1)
    have h4 := ih (conO p d (i + 2) (left - 1) (label + 1)).2.1 (conO p d (i + 2) (left - 1) (label + 1)).2.2.1 (conO p d (i + 2) (left - 1) (label + 1)).2.2.2
    have h5 := ih (i + 2) (left - 1) label
    have ho := numO_reach p (min d 2) (i + 1) (left - 1)
    have hm := reach_min d
    have h6 := ih (numO p (min d 2) (i + 1) (left - 1)).2.1 (numO p (min d 2) (i + 1) (left - 1)).2.2 label
    have h7 := ih (conO p d (numO p (min d 2) (i + 1) (left - 1)).2.1 (numO p (min d 2) (i + 1) (left - 1)).2.2 label).2.1 (conO p d (numO p (min d 2) (i + 1) (left - 1)).2.1 (numO p (min d 2) (i + 1) (left - 1)).2.2 label).2.2.1 (conO p d (numO p (min d 2) (i + 1) (left - 1)).2.1 (numO p (min d 2) (i + 1) (left - 1)).2.2 label).2.2.2
    unfold conO
    simp only [rC]
    split
    · simp only; omega
    · split
      · simp only; omega
      · split
        · simp only; omega
        · split
          · simp only; omega
          · split
            · simp only; omega
            · split
              · simp only; omega
              · split
                · simp only; omega
                · simp only; omega

theorem mterm_any (w0 : World) (M : Nat) (p : Pl) : ∀ d, d ≤ 5 → LessC w0 M p d (rC d) := by
  intro d
  induction d with
  | zero =>
    intro _ w i left label h hi hl1 hl2 hlb
    have hk := kT_zero p i left
    simp only [rC] at hi hl1 hlb
    exact mterm_leaf w0 w M p 0 i left label h (by omega) (by omega) hl2 (by omega) hk _ rfl
  | succ d ih =>
    intro hd w i left label h hi hl1 hl2 hlb
    have hr := rC_pos d
    have hr2 := rC_le d (by omega)
    have ih' := ih (by omega)
    have hb1 := conO_reach p d
    simp only [rC] at hi hl1 hlb
    have hk := kT_lt p (d + 1) i left
    by_cases h2 : kT p (d + 1) i left ≤ 2
    · have := mterm_leaf w0 w M p (d + 1) i left label h (by omega) (by omega) hl2 (by omega) h2 _ rfl
      have e : conO p (d + 1) i left label = if kT p (d + 1) i left ≤ 1 then (.one (curOf p (i + 1)), i + 2, left - 1, label) else (.zero, i + 1, left - 1, label) := by
        rw [conO]
        split
        · rfl
        · rw [if_pos (by omega)]
      rw [e]
      exact this
    · by_cases h4 : kT p (d + 1) i left ≤ 4
      · exact mterm_give w0 w M p d i left label (rC d) ih' h (by omega) (by omega) (by omega) hl2 (by omega) (by omega) hb1 (by omega) _ rfl
      by_cases h6 : kT p (d + 1) i left ≤ 6
      · exact mterm_and w0 w M p d i left label (rC d) ih' h (by omega) (by omega) (by omega) hl2 (by omega) (by omega) hb1 (by omega) _ rfl
      by_cases h8 : kT p (d + 1) i left ≤ 8
      · exact mterm_or w0 w M p d i left label (rC d) ih' h (by omega) (by omega) (by omega) hl2 (by omega) (by omega) hb1 (by omega) _ rfl
      by_cases h10 : kT p (d + 1) i left ≤ 10
      · exact mterm_scale w0 w M p d i left label (rC d) ih' h (by omega) (by omega) (by omega) hl2 (by omega) (by omega) hb1 (by omega) _ rfl
      by_cases h11 : kT p (d + 1) i left = 11
      · exact mterm_when w0 w M p d i left label (rC d) ih' h (by omega) (by omega) (by omega) hl2 (by omega) (by omega) hb1 h11 _ rfl
      · exact mterm_iff w0 w M p d i left label (rC d) ih' h (by omega) (by omega) (by omega) hl2 (by omega) (by omega) hb1 (by omega) _ rfl

/-- A contract in which nothing is none. -/
def C.whole : C → Prop
  | .zero => True
  | .one s => s.size ≤ 2147483648
  | .give c => c.whole
  | .and l r => l.whole ∧ r.whole
  | .or s l r => s.size ≤ 2147483648 ∧ l.whole ∧ r.whole
  | .scale o c => o.whole ∧ c.whole
  | .when d c => (-9223372036854775808 ≤ d ∧ d ≤ 9223372036854775807) ∧ c.whole
  | .iff o l r => o.whole ∧ l.whole ∧ r.whole
  | .odd _ => False
theorem cwhole_ok (c : C) (h : c.whole) : c.Ok := by
  induction c with
  | zero => trivial
  | one s => exact h
  | give c h1 => exact h1 h
  | and l r h1 h2 => exact ⟨h1 h.1, h2 h.2⟩
  | or s l r h1 h2 => exact ⟨h.1, h1 h.2.1, h2 h.2.2⟩
  | scale o c h1 => exact ⟨whole_ok o h.1, h1 h.2⟩
  | when d c h1 => exact ⟨h.1, h1 h.2⟩
  | iff o l r h1 h2 => exact ⟨whole_ok o h.1, h1 h.2.1, h2 h.2.2⟩
  | odd v => exact absurd h id
theorem conO_whole (p : Pl) : ∀ d i left label, (conO p d i left label).1.whole ∧ (conO p d i left label).1.weight + 10 ≤ 20 * 2 ^ d := by
  have hn : ∀ d i left, (numO p (min d 2) i left).1.whole ∧ (numO p (min d 2) i left).1.nodes ≤ 7 := fun d i left => by
    have h := numO_whole p (min d 2) i left
    refine ⟨h.1, ?_⟩
    have h2 : 2 ^ (min d 2 + 1) ≤ 8 := by
      have : min d 2 = 0 ∨ min d 2 = 1 ∨ min d 2 = 2 := by omega
      rcases this with e | e | e <;> rw [e] <;> decide
    have := h.2.1
    omega
  intro d
  induction d with
  | zero =>
    intro i left label
    unfold conO
    split
    · exact ⟨by show (curOf p (i + 1)).size ≤ _; have := curOf_size p (i + 1); omega, by simp [C.weight]⟩
    · exact ⟨trivial, by simp [C.weight]⟩
  | succ d ih =>
    intro i left label
    have hp : 1 ≤ 2 ^ d := Nat.one_le_two_pow
    have hp2 : 2 ^ (d + 1) = 2 * 2 ^ d := by rw [Nat.pow_succ]; omega
    have h1 := ih (i + 1) (left - 1) label
    have h2 := ih (conO p d (i + 1) (left - 1) label).2.1 (conO p d (i + 1) (left - 1) label).2.2.1 (conO p d (i + 1) (left - 1) label).2.2.2
    have h3 := ih (i + 2) (left - 1) (label + 1)
    have h4 := ih (conO p d (i + 2) (left - 1) (label + 1)).2.1 (conO p d (i + 2) (left - 1) (label + 1)).2.2.1 (conO p d (i + 2) (left - 1) (label + 1)).2.2.2
    have h5 := ih (i + 2) (left - 1) label
    have ho := hn d (i + 1) (left - 1)
    have h6 := ih (numO p (min d 2) (i + 1) (left - 1)).2.1 (numO p (min d 2) (i + 1) (left - 1)).2.2 label
    have h7 := ih (conO p d (numO p (min d 2) (i + 1) (left - 1)).2.1 (numO p (min d 2) (i + 1) (left - 1)).2.2 label).2.1 (conO p d (numO p (min d 2) (i + 1) (left - 1)).2.1 (numO p (min d 2) (i + 1) (left - 1)).2.2 label).2.2.1 (conO p d (numO p (min d 2) (i + 1) (left - 1)).2.1 (numO p (min d 2) (i + 1) (left - 1)).2.2 label).2.2.2
    unfold conO
    rw [hp2]
    split
    · exact ⟨by show (curOf p (i + 1)).size ≤ _; have := curOf_size p (i + 1); omega, by simp only [C.weight]; omega⟩
    · split
      · exact ⟨trivial, by simp only [C.weight]; omega⟩
      · split
        · exact ⟨h1.1, by simp only [C.weight]; omega⟩
        · split
          · exact ⟨⟨h1.1, h2.1⟩, by simp only [C.weight]; omega⟩
          · split
            · refine ⟨⟨?_, h3.1, h4.1⟩, by simp only [C.weight]; omega⟩
              split
              · decide
              · have := chT_size (label + 1); omega
            · split
              · exact ⟨⟨ho.1, h6.1⟩, by simp only [C.weight]; omega⟩
              · split
                · exact ⟨⟨⟨by omega, by omega⟩, h5.1⟩, by simp only [C.weight]; omega⟩
                · exact ⟨⟨ho.1, h6.1, h7.1⟩, by simp only [C.weight]; omega⟩
/-- The contract of a plan. -/
def conP (p : Pl) : C := (conO p 5 0 24 0).1
theorem conP_whole (p : Pl) : (conP p).whole := (conO_whole p 5 0 24 0).1
theorem conP_weight (p : Pl) : (conP p).weight ≤ 630 := by have := (conO_whole p 5 0 24 0).2; simp at this; unfold conP; omega

set_option maxHeartbeats 1000000 in
set_option maxRecDepth 100000 in
theorem contract_any (p : Pl) (w : World) (h : PlanIn w p) : Calls Tryz.prog 49 #[planV p] w fun e w' => ∃ v, e = .returned v ∧ TIn w' w.heap.size (plainC (conP p)) v ∧ Below w.heap.size w w' := by
  unfold planV
  have HP : Hid (PlanIn w p) := h
  clear h
  go_enter Tryz.func49, Tryz.ntmps49
  go_wp2_with fail
  obtain ⟨W, hW⟩ : ∃ W, W = ((w.alloc (.cells #[.slice p.na p.nl p.nc, .slice p.wa p.wl p.wc] 25)).alloc (.cells #[.int .i64 0, .string ⟨#[]⟩, .int .i64 0, .slice none 0 0] 33)).alloc (.cells #[.slice p.na p.nl p.nc, .slice p.wa p.wl p.wc, .int .i64 0, .int .i64 24, .int .i64 0] 173) := ⟨_, rfl⟩
  have hWs : W.heap.size = w.heap.size + 3 := by rw [hW]; simp
  have HB : Hid (Below w.heap.size w W) := by rw [hW]; exact below_alloc (below_alloc (below_alloc (Below.refl _ _) _) _) _
  have HMI : Hid (MIn w W (w.heap.size + 1 + 1) p 0 24 (0 : Nat)) := by
    refine ⟨HP.out, by omega, HB.out, ?_⟩
    rw [hW]
    exact blk_new (by simp)
  have HZ : Hid (Blk W (w.heap.size + 1) 33 zeroT) := by
    rw [hW]
    exact (Below.heap_alloc _ _ _ (by simp)).trans (blk_new (by simp))
  rw [← hW]
  clear hW
  have hr5 := rC_le 5 (by omega)
  have HC := mterm_any w (w.heap.size + 1 + 1) p 5 (by omega) W 0 24 0 HMI.out (by omega) (by omega) (by omega) (by omega)
  refine HC.mono ?_
  rintro e w5 ⟨v, rfl, ht5, hm5, hg5⟩
  clear HC
  have ht5' := ht5
  obtain ⟨la, lc, rfl, _, _, _⟩ := ht5'
  have HZ5 : Hid (Blk w5 (w.heap.size + 1) 33 zeroT) := HZ.out.grew hg5 (by omega)
  obtain ⟨⟨z0, z1, z2, z3⟩, f0, f1, f2, f3⟩ := blk_zero HZ5.out
  have HB5 : Hid (Below w.heap.size w w5) := HB.out.trans (hg5.below (by omega) (by omega) (fun k hk => by cases hk))
  have HT5 : Hid (TIn w5 W.heap.size (plainC (conP p)) (.agg #[.int .i64 (plainC (conP p)).kind, .string (plainC (conP p)).s, .int .i64 (plainC (conP p)).n, .slice la (plainC (conP p)).k.length lc])) := ht5
  have HWS : Hid (W.heap.size = w.heap.size + 3) := hWs
  clear ht5 hm5 hg5 HZ HMI hWs HB
  rw [show (conO p 5 0 24 0).1 = conP p from rfl]
  go_wp2_with fail
  refine bodyPost_ret (results_cell_row rfl _ _ (w.heap.size + 1) 33 #[.int .i64 (plainC (conP p)).kind, .string (plainC (conP p)).s, .int .i64 (plainC (conP p)).n, .slice la (plainC (conP p)).k.length lc] (0, 0) _ rfl (set4_blk HZ5.out _ _ _ _) Tryz.underlying33 rfl infoT) rfl ?_
  have hs := HWS.out
  refine ⟨_, rfl, (HT5.out.set4 (R := w.heap.size + 1) (by omega) _ _ _ _).low (by omega), ?_⟩
  exact (((HB5.out.setCell (Nat.le_succ _) _).setCell (Nat.le_succ _) _).setCell (Nat.le_succ _) _).setCell (Nat.le_succ _) _

end Go.Proofs.YtkioolbjmcpjpaaGreatDoor
namespace Go.Proofs.YtkioolbjmcpjpaaGreatDoor
open Go.RowKit
set_option linter.unusedVariables false

theorem part_class {W w' : World} {t : T} {v r : Value} {f : Nat} (ih : ∀ w v, TIn w 0 t v → Calls Tryz.prog f #[v] w fun e w' => e = .returned r ∧ Below w.heap.size w w') (ht : TIn W 0 t v) (hw : Below W.heap.size W w') :
    Calls Tryz.prog f #[v] w' (fun e w'' => e = .returned r ∧ Below W.heap.size W w'') :=
  (ih w' v (ht.below hw)).mono (fun e w'' ⟨he, hb⟩ => ⟨he, hw.trans (hb.mono hw.size)⟩)


end Go.Proofs.YtkioolbjmcpjpaaGreatDoor
namespace Go.Proofs.YtkioolbjmcpjpaaGreatDoor
open Go.RowKit
set_option linter.unusedVariables false

set_option maxHeartbeats 2000000 in
set_option maxRecDepth 100000 in
theorem termT_and (k0 k1 : T) (s : ByteArray) (n : Int) (a : Option Addr) (cap : Nat) (w : World) (hcap : 2 ≤ cap) (hcm : cap ≤ 9223372036854775807) (hK : KAt w 0 [k0, k1] a 0) (r0 r1 : Value) (q0 : One' r0) (q1 : One' r1)
    (ih0 : ∀ w v, TIn w 0 k0 v → Calls Tryz.prog 18 #[v] w fun e w' => e = .returned r0 ∧ Below w.heap.size w w') (ih1 : ∀ w v, TIn w 0 k1 v → Calls Tryz.prog 18 #[v] w fun e w' => e = .returned r1 ∧ Below w.heap.size w w') :
    Calls Tryz.prog 18 #[.agg #[.int .i64 4, .string s, .int .i64 n, .slice a 2 cap]] w fun e w' => e = .returned (.iface 101 (.agg #[r0, r1])) ∧ Below w.heap.size w w' := by
  have hb : Below w.heap.size w (w.alloc (.cells #[.int .i64 4, .string s, .int .i64 n, .slice a 2 cap] 33)) := below_alloc (Below.refl _ _) _
  obtain ⟨b, o, ka0, ca0, rfl, c00, c01, c02, c03, t0⟩ := (hK.below hb).cells (j := 0) (t := k0) rfl
  obtain ⟨b1, o1, ka1, ca1, e1, c10, c11, c12, c13, t1⟩ := (hK.below hb).cells (j := 1) (t := k1) rfl
  injection e1 with e1
  injection e1 with e1a e1b
  subst e1a e1b
  simp only [Nat.zero_mul, Nat.add_zero, Nat.one_mul] at c00 c01 c02 c03 c10 c11 c12 c13
  have g : ∀ i, (w.alloc (.cells #[.int .i64 4, .string s, .int .i64 n, .slice (some ⟨b, o, none⟩) 2 cap] 33)).cell? ⟨w.heap.size, i, none⟩ = (#[.int .i64 4, .string s, .int .i64 n, .slice (some ⟨b, o, none⟩) 2 cap] : Array Value)[i]? := fun i => cell_of_row _ _ _ _ _ _ (heap_alloc_new _ _)
  have g1 := g 1
  have g2 := g 2
  have g3 := g 3
  rw [show (#[.int .i64 4, .string s, .int .i64 n, .slice (some ⟨b, o, none⟩) 2 cap] : Array Value)[1]? = some (.string s) from rfl] at g1
  rw [show (#[.int .i64 4, .string s, .int .i64 n, .slice (some ⟨b, o, none⟩) 2 cap] : Array Value)[2]? = some (.int .i64 n) from rfl] at g2
  rw [show (#[.int .i64 4, .string s, .int .i64 n, .slice (some ⟨b, o, none⟩) 2 cap] : Array Value)[3]? = some (.slice (some ⟨b, o, none⟩) 2 cap) from rfl] at g3
  clear hK g
  have HI0 := hidIn ih0
  have cv0 := q0.cells
  have mv0 := q0.cells
  unfold Value.cells at mv0
  have HI1 := hidIn ih1
  have cv1 := q1.cells
  have mv1 := q1.cells
  unfold Value.cells at mv1
  clear ih0 q0 ih1 q1
  go_enter Tryz.func18, Tryz.ntmps18
  go_wp2_with fail
  generalize w.alloc (.cells #[.int .i64 4, .string s, .int .i64 n, .slice (some ⟨b, o, none⟩) 2 cap] 33) = W at *
  have HT0 : Hid (TIn W 0 k0 _) := t0
  have HT1 : Hid (TIn W 0 k1 _) := t1
  have HB : Hid (Below w.heap.size w W) := hb
  have HLT := World.block_lt_of_cell? _ _ c00
  have HLW := World.block_lt_of_cell? _ _ g3
  have HF : Hid (∀ w', Below W.heap.size W w' → w'.cell? ⟨w.heap.size, 1, none⟩ = some (.string s) ∧ w'.cell? ⟨w.heap.size, 2, none⟩ = some (.int .i64 n) ∧ w'.cell? ⟨w.heap.size, 3, none⟩ = some (.slice (some ⟨b, o, none⟩) 2 cap) ∧ w'.cell? ⟨b, o, none⟩ = some (.int .i64 k0.kind) ∧ w'.cell? ⟨b, o + 1, none⟩ = some (.string k0.s) ∧ w'.cell? ⟨b, o + 2, none⟩ = some (.int .i64 k0.n) ∧ w'.cell? ⟨b, o + 3, none⟩ = some (.slice ka0 k0.k.length ca0) ∧ w'.cell? ⟨b, o + 4, none⟩ = some (.int .i64 k1.kind) ∧ w'.cell? ⟨b, o + 4 + 1, none⟩ = some (.string k1.s) ∧ w'.cell? ⟨b, o + 4 + 2, none⟩ = some (.int .i64 k1.n) ∧ w'.cell? ⟨b, o + 4 + 3, none⟩ = some (.slice ka1 k1.k.length ca1)) := fun w' h => ⟨(h.cell (p := ⟨w.heap.size, 1, none⟩) HLW).trans g1, (h.cell (p := ⟨w.heap.size, 2, none⟩) HLW).trans g2, (h.cell (p := ⟨w.heap.size, 3, none⟩) HLW).trans g3, (h.cell (p := ⟨b, o, none⟩) HLT).trans c00, (h.cell (p := ⟨b, o + 1, none⟩) HLT).trans c01, (h.cell (p := ⟨b, o + 2, none⟩) HLT).trans c02, (h.cell (p := ⟨b, o + 3, none⟩) HLT).trans c03, (h.cell (p := ⟨b, o + 4, none⟩) HLT).trans c10, (h.cell (p := ⟨b, o + 4 + 1, none⟩) HLT).trans c11, (h.cell (p := ⟨b, o + 4 + 2, none⟩) HLT).trans c12, (h.cell (p := ⟨b, o + 4 + 3, none⟩) HLT).trans c13⟩
  clear hb HLT HLW g1 g2 g3 c00 c01 c02 c03 c10 c11 c12 c13 t0 t1
  refine wp_region_class (fun w' => Below W.heap.size W w') (by kernel_rfl) (by kernel_rfl) (below_drew (Below.refl _ _)) ?_
  refine quiet_runs (.pointer (some ⟨w.heap.size, 3, none⟩)) rfl (fun w' hw' => ?_) ?_
  · go_simp
  simp only [Act.put, List.setIfInBounds_toArray, List.set_cons_zero, List.set_cons_succ]
  refine quiet_runs (.slice (some ⟨b, o, none⟩) 2 cap) rfl (fun w' hw' => ?_) ?_
  · obtain ⟨x1, x2, x3, y00, y01, y02, y03, y10, y11, y12, y13⟩ := HF.out w' hw'
    go_simp
  simp only [Act.put, List.setIfInBounds_toArray, List.set_cons_zero, List.set_cons_succ]
  refine quiet_runs (.pointer (some ⟨b, o, none⟩)) rfl (fun w' hw' => ?_) ?_
  · go_simp
  simp only [Act.put, List.setIfInBounds_toArray, List.set_cons_zero, List.set_cons_succ]
  refine quiet_runs (.agg #[.int .i64 k0.kind, .string k0.s, .int .i64 k0.n, .slice ka0 k0.k.length ca0]) rfl (fun w' hw' => ?_) ?_
  · obtain ⟨x1, x2, x3, y00, y01, y02, y03, y10, y11, y12, y13⟩ := HF.out w' hw'
    go_simp
  simp only [Act.put, List.setIfInBounds_toArray, List.set_cons_zero, List.set_cons_succ]
  refine quiet_calls 18 #[.agg #[.int .i64 k0.kind, .string k0.s, .int .i64 k0.n, .slice ka0 k0.k.length ca0]] r0 rfl (fun w' hw' => ?_) (fun w' hw' => part_class HI0.out HT0.out hw') ?_
  · go_simp
  simp only [Act.put, List.setIfInBounds_toArray, List.set_cons_zero, List.set_cons_succ]
  refine quiet_runs (.pointer (some ⟨w.heap.size, 3, none⟩)) rfl (fun w' hw' => ?_) ?_
  · go_simp
  simp only [Act.put, List.setIfInBounds_toArray, List.set_cons_zero, List.set_cons_succ]
  refine quiet_runs (.slice (some ⟨b, o, none⟩) 2 cap) rfl (fun w' hw' => ?_) ?_
  · obtain ⟨x1, x2, x3, y00, y01, y02, y03, y10, y11, y12, y13⟩ := HF.out w' hw'
    go_simp
  simp only [Act.put, List.setIfInBounds_toArray, List.set_cons_zero, List.set_cons_succ]
  refine quiet_runs (.pointer (some ⟨b, o + 4, none⟩)) rfl (fun w' hw' => ?_) ?_
  · go_simp
  simp only [Act.put, List.setIfInBounds_toArray, List.set_cons_zero, List.set_cons_succ]
  refine quiet_runs (.agg #[.int .i64 k1.kind, .string k1.s, .int .i64 k1.n, .slice ka1 k1.k.length ca1]) rfl (fun w' hw' => ?_) ?_
  · obtain ⟨x1, x2, x3, y00, y01, y02, y03, y10, y11, y12, y13⟩ := HF.out w' hw'
    go_simp
  simp only [Act.put, List.setIfInBounds_toArray, List.set_cons_zero, List.set_cons_succ]
  refine quiet_calls 18 #[.agg #[.int .i64 k1.kind, .string k1.s, .int .i64 k1.n, .slice ka1 k1.k.length ca1]] r1 rfl (fun w' hw' => ?_) (fun w' hw' => part_class HI1.out HT1.out hw') ?_
  · go_simp
  simp only [Act.put, List.setIfInBounds_toArray, List.set_cons_zero, List.set_cons_succ]
  refine quiet_runs (.agg #[r0, r1]) rfl (fun w' hw' => ?_) ?_
  · go_simp
  simp only [Act.put, List.setIfInBounds_toArray, List.set_cons_zero, List.set_cons_succ]
  refine quiet_runs (.iface 101 (.agg #[r0, r1])) rfl (fun w' hw' => ?_) ?_
  · go_simp
  simp only [Act.put, List.setIfInBounds_toArray, List.set_cons_zero, List.set_cons_succ]
  refine quiet_runs (.iface 101 (.agg #[r0, r1])) rfl (fun w' hw' => ?_) ?_
  · go_simp
  simp only [Act.put, List.setIfInBounds_toArray, List.set_cons_zero, List.set_cons_succ]
  refine wpQuiet_nil ?_
  intro w' hw'
  go_wp2_with fail
  go_ret
  exact ⟨rfl, HB.out.trans (hw'.mono HB.out.size)⟩
set_option maxHeartbeats 2000000 in
set_option maxRecDepth 100000 in
theorem termT_or (k0 k1 : T) (s : ByteArray) (n : Int) (a : Option Addr) (cap : Nat) (w : World) (hcap : 2 ≤ cap) (hcm : cap ≤ 9223372036854775807) (hK : KAt w 0 [k0, k1] a 0) (r0 r1 : Value) (q0 : One' r0) (q1 : One' r1)
    (ih0 : ∀ w v, TIn w 0 k0 v → Calls Tryz.prog 18 #[v] w fun e w' => e = .returned r0 ∧ Below w.heap.size w w') (ih1 : ∀ w v, TIn w 0 k1 v → Calls Tryz.prog 18 #[v] w fun e w' => e = .returned r1 ∧ Below w.heap.size w w') :
    Calls Tryz.prog 18 #[.agg #[.int .i64 5, .string s, .int .i64 n, .slice a 2 cap]] w fun e w' => e = .returned (.iface 103 (.agg #[.string s, r0, r1])) ∧ Below w.heap.size w w' := by
  have hb : Below w.heap.size w (w.alloc (.cells #[.int .i64 5, .string s, .int .i64 n, .slice a 2 cap] 33)) := below_alloc (Below.refl _ _) _
  obtain ⟨b, o, ka0, ca0, rfl, c00, c01, c02, c03, t0⟩ := (hK.below hb).cells (j := 0) (t := k0) rfl
  obtain ⟨b1, o1, ka1, ca1, e1, c10, c11, c12, c13, t1⟩ := (hK.below hb).cells (j := 1) (t := k1) rfl
  injection e1 with e1
  injection e1 with e1a e1b
  subst e1a e1b
  simp only [Nat.zero_mul, Nat.add_zero, Nat.one_mul] at c00 c01 c02 c03 c10 c11 c12 c13
  have g : ∀ i, (w.alloc (.cells #[.int .i64 5, .string s, .int .i64 n, .slice (some ⟨b, o, none⟩) 2 cap] 33)).cell? ⟨w.heap.size, i, none⟩ = (#[.int .i64 5, .string s, .int .i64 n, .slice (some ⟨b, o, none⟩) 2 cap] : Array Value)[i]? := fun i => cell_of_row _ _ _ _ _ _ (heap_alloc_new _ _)
  have g1 := g 1
  have g2 := g 2
  have g3 := g 3
  rw [show (#[.int .i64 5, .string s, .int .i64 n, .slice (some ⟨b, o, none⟩) 2 cap] : Array Value)[1]? = some (.string s) from rfl] at g1
  rw [show (#[.int .i64 5, .string s, .int .i64 n, .slice (some ⟨b, o, none⟩) 2 cap] : Array Value)[2]? = some (.int .i64 n) from rfl] at g2
  rw [show (#[.int .i64 5, .string s, .int .i64 n, .slice (some ⟨b, o, none⟩) 2 cap] : Array Value)[3]? = some (.slice (some ⟨b, o, none⟩) 2 cap) from rfl] at g3
  clear hK g
  have HI0 := hidIn ih0
  have cv0 := q0.cells
  have mv0 := q0.cells
  unfold Value.cells at mv0
  have HI1 := hidIn ih1
  have cv1 := q1.cells
  have mv1 := q1.cells
  unfold Value.cells at mv1
  clear ih0 q0 ih1 q1
  go_enter Tryz.func18, Tryz.ntmps18
  go_wp2_with fail
  generalize w.alloc (.cells #[.int .i64 5, .string s, .int .i64 n, .slice (some ⟨b, o, none⟩) 2 cap] 33) = W at *
  have HT0 : Hid (TIn W 0 k0 _) := t0
  have HT1 : Hid (TIn W 0 k1 _) := t1
  have HB : Hid (Below w.heap.size w W) := hb
  have HLT := World.block_lt_of_cell? _ _ c00
  have HLW := World.block_lt_of_cell? _ _ g3
  have HF : Hid (∀ w', Below W.heap.size W w' → w'.cell? ⟨w.heap.size, 1, none⟩ = some (.string s) ∧ w'.cell? ⟨w.heap.size, 2, none⟩ = some (.int .i64 n) ∧ w'.cell? ⟨w.heap.size, 3, none⟩ = some (.slice (some ⟨b, o, none⟩) 2 cap) ∧ w'.cell? ⟨b, o, none⟩ = some (.int .i64 k0.kind) ∧ w'.cell? ⟨b, o + 1, none⟩ = some (.string k0.s) ∧ w'.cell? ⟨b, o + 2, none⟩ = some (.int .i64 k0.n) ∧ w'.cell? ⟨b, o + 3, none⟩ = some (.slice ka0 k0.k.length ca0) ∧ w'.cell? ⟨b, o + 4, none⟩ = some (.int .i64 k1.kind) ∧ w'.cell? ⟨b, o + 4 + 1, none⟩ = some (.string k1.s) ∧ w'.cell? ⟨b, o + 4 + 2, none⟩ = some (.int .i64 k1.n) ∧ w'.cell? ⟨b, o + 4 + 3, none⟩ = some (.slice ka1 k1.k.length ca1)) := fun w' h => ⟨(h.cell (p := ⟨w.heap.size, 1, none⟩) HLW).trans g1, (h.cell (p := ⟨w.heap.size, 2, none⟩) HLW).trans g2, (h.cell (p := ⟨w.heap.size, 3, none⟩) HLW).trans g3, (h.cell (p := ⟨b, o, none⟩) HLT).trans c00, (h.cell (p := ⟨b, o + 1, none⟩) HLT).trans c01, (h.cell (p := ⟨b, o + 2, none⟩) HLT).trans c02, (h.cell (p := ⟨b, o + 3, none⟩) HLT).trans c03, (h.cell (p := ⟨b, o + 4, none⟩) HLT).trans c10, (h.cell (p := ⟨b, o + 4 + 1, none⟩) HLT).trans c11, (h.cell (p := ⟨b, o + 4 + 2, none⟩) HLT).trans c12, (h.cell (p := ⟨b, o + 4 + 3, none⟩) HLT).trans c13⟩
  clear hb HLT HLW g1 g2 g3 c00 c01 c02 c03 c10 c11 c12 c13 t0 t1
  refine wp_region_class (fun w' => Below W.heap.size W w') (by kernel_rfl) (by kernel_rfl) (below_drew (Below.refl _ _)) ?_
  refine quiet_runs (.pointer (some ⟨w.heap.size, 1, none⟩)) rfl (fun w' hw' => ?_) ?_
  · go_simp
  simp only [Act.put, List.setIfInBounds_toArray, List.set_cons_zero, List.set_cons_succ]
  refine quiet_runs (.string s) rfl (fun w' hw' => ?_) ?_
  · obtain ⟨x1, x2, x3, y00, y01, y02, y03, y10, y11, y12, y13⟩ := HF.out w' hw'
    go_simp
  simp only [Act.put, List.setIfInBounds_toArray, List.set_cons_zero, List.set_cons_succ]
  refine quiet_runs (.pointer (some ⟨w.heap.size, 3, none⟩)) rfl (fun w' hw' => ?_) ?_
  · go_simp
  simp only [Act.put, List.setIfInBounds_toArray, List.set_cons_zero, List.set_cons_succ]
  refine quiet_runs (.slice (some ⟨b, o, none⟩) 2 cap) rfl (fun w' hw' => ?_) ?_
  · obtain ⟨x1, x2, x3, y00, y01, y02, y03, y10, y11, y12, y13⟩ := HF.out w' hw'
    go_simp
  simp only [Act.put, List.setIfInBounds_toArray, List.set_cons_zero, List.set_cons_succ]
  refine quiet_runs (.pointer (some ⟨b, o, none⟩)) rfl (fun w' hw' => ?_) ?_
  · go_simp
  simp only [Act.put, List.setIfInBounds_toArray, List.set_cons_zero, List.set_cons_succ]
  refine quiet_runs (.agg #[.int .i64 k0.kind, .string k0.s, .int .i64 k0.n, .slice ka0 k0.k.length ca0]) rfl (fun w' hw' => ?_) ?_
  · obtain ⟨x1, x2, x3, y00, y01, y02, y03, y10, y11, y12, y13⟩ := HF.out w' hw'
    go_simp
  simp only [Act.put, List.setIfInBounds_toArray, List.set_cons_zero, List.set_cons_succ]
  refine quiet_calls 18 #[.agg #[.int .i64 k0.kind, .string k0.s, .int .i64 k0.n, .slice ka0 k0.k.length ca0]] r0 rfl (fun w' hw' => ?_) (fun w' hw' => part_class HI0.out HT0.out hw') ?_
  · go_simp
  simp only [Act.put, List.setIfInBounds_toArray, List.set_cons_zero, List.set_cons_succ]
  refine quiet_runs (.pointer (some ⟨w.heap.size, 3, none⟩)) rfl (fun w' hw' => ?_) ?_
  · go_simp
  simp only [Act.put, List.setIfInBounds_toArray, List.set_cons_zero, List.set_cons_succ]
  refine quiet_runs (.slice (some ⟨b, o, none⟩) 2 cap) rfl (fun w' hw' => ?_) ?_
  · obtain ⟨x1, x2, x3, y00, y01, y02, y03, y10, y11, y12, y13⟩ := HF.out w' hw'
    go_simp
  simp only [Act.put, List.setIfInBounds_toArray, List.set_cons_zero, List.set_cons_succ]
  refine quiet_runs (.pointer (some ⟨b, o + 4, none⟩)) rfl (fun w' hw' => ?_) ?_
  · go_simp
  simp only [Act.put, List.setIfInBounds_toArray, List.set_cons_zero, List.set_cons_succ]
  refine quiet_runs (.agg #[.int .i64 k1.kind, .string k1.s, .int .i64 k1.n, .slice ka1 k1.k.length ca1]) rfl (fun w' hw' => ?_) ?_
  · obtain ⟨x1, x2, x3, y00, y01, y02, y03, y10, y11, y12, y13⟩ := HF.out w' hw'
    go_simp
  simp only [Act.put, List.setIfInBounds_toArray, List.set_cons_zero, List.set_cons_succ]
  refine quiet_calls 18 #[.agg #[.int .i64 k1.kind, .string k1.s, .int .i64 k1.n, .slice ka1 k1.k.length ca1]] r1 rfl (fun w' hw' => ?_) (fun w' hw' => part_class HI1.out HT1.out hw') ?_
  · go_simp
  simp only [Act.put, List.setIfInBounds_toArray, List.set_cons_zero, List.set_cons_succ]
  refine quiet_runs (.agg #[.string s, r0, r1]) rfl (fun w' hw' => ?_) ?_
  · go_simp
  simp only [Act.put, List.setIfInBounds_toArray, List.set_cons_zero, List.set_cons_succ]
  refine quiet_runs (.iface 103 (.agg #[.string s, r0, r1])) rfl (fun w' hw' => ?_) ?_
  · go_simp
  simp only [Act.put, List.setIfInBounds_toArray, List.set_cons_zero, List.set_cons_succ]
  refine quiet_runs (.iface 103 (.agg #[.string s, r0, r1])) rfl (fun w' hw' => ?_) ?_
  · go_simp
  simp only [Act.put, List.setIfInBounds_toArray, List.set_cons_zero, List.set_cons_succ]
  refine wpQuiet_nil ?_
  intro w' hw'
  go_wp2_with fail
  go_ret
  exact ⟨rfl, HB.out.trans (hw'.mono HB.out.size)⟩

end Go.Proofs.YtkioolbjmcpjpaaGreatDoor
namespace Go.Proofs.YtkioolbjmcpjpaaGreatDoor
open Go.RowKit
set_option linter.unusedVariables false

set_option maxHeartbeats 2000000 in
set_option maxRecDepth 100000 in
theorem termT_scale (k0 k1 : T) (s : ByteArray) (n : Int) (a : Option Addr) (cap : Nat) (w : World) (hcap : 2 ≤ cap) (hcm : cap ≤ 9223372036854775807) (hK : KAt w 0 [k0, k1] a 0) (r0 r1 : Value) (q0 : One' r0) (q1 : One' r1)
    (ih0 : ∀ w v, TIn w 0 k0 v → Calls Tryz.prog 48 #[v] w fun e w' => e = .returned r0 ∧ Below w.heap.size w w') (ih1 : ∀ w v, TIn w 0 k1 v → Calls Tryz.prog 18 #[v] w fun e w' => e = .returned r1 ∧ Below w.heap.size w w') :
    Calls Tryz.prog 18 #[.agg #[.int .i64 6, .string s, .int .i64 n, .slice a 2 cap]] w fun e w' => e = .returned (.iface 107 (.agg #[r0, r1])) ∧ Below w.heap.size w w' := by
  have hb : Below w.heap.size w (w.alloc (.cells #[.int .i64 6, .string s, .int .i64 n, .slice a 2 cap] 33)) := below_alloc (Below.refl _ _) _
  obtain ⟨b, o, ka0, ca0, rfl, c00, c01, c02, c03, t0⟩ := (hK.below hb).cells (j := 0) (t := k0) rfl
  obtain ⟨b1, o1, ka1, ca1, e1, c10, c11, c12, c13, t1⟩ := (hK.below hb).cells (j := 1) (t := k1) rfl
  injection e1 with e1
  injection e1 with e1a e1b
  subst e1a e1b
  simp only [Nat.zero_mul, Nat.add_zero, Nat.one_mul] at c00 c01 c02 c03 c10 c11 c12 c13
  have g : ∀ i, (w.alloc (.cells #[.int .i64 6, .string s, .int .i64 n, .slice (some ⟨b, o, none⟩) 2 cap] 33)).cell? ⟨w.heap.size, i, none⟩ = (#[.int .i64 6, .string s, .int .i64 n, .slice (some ⟨b, o, none⟩) 2 cap] : Array Value)[i]? := fun i => cell_of_row _ _ _ _ _ _ (heap_alloc_new _ _)
  have g1 := g 1
  have g2 := g 2
  have g3 := g 3
  rw [show (#[.int .i64 6, .string s, .int .i64 n, .slice (some ⟨b, o, none⟩) 2 cap] : Array Value)[1]? = some (.string s) from rfl] at g1
  rw [show (#[.int .i64 6, .string s, .int .i64 n, .slice (some ⟨b, o, none⟩) 2 cap] : Array Value)[2]? = some (.int .i64 n) from rfl] at g2
  rw [show (#[.int .i64 6, .string s, .int .i64 n, .slice (some ⟨b, o, none⟩) 2 cap] : Array Value)[3]? = some (.slice (some ⟨b, o, none⟩) 2 cap) from rfl] at g3
  clear hK g
  have HI0 := hidIn ih0
  have cv0 := q0.cells
  have mv0 := q0.cells
  unfold Value.cells at mv0
  have HI1 := hidIn ih1
  have cv1 := q1.cells
  have mv1 := q1.cells
  unfold Value.cells at mv1
  clear ih0 q0 ih1 q1
  go_enter Tryz.func18, Tryz.ntmps18
  go_wp2_with fail
  generalize w.alloc (.cells #[.int .i64 6, .string s, .int .i64 n, .slice (some ⟨b, o, none⟩) 2 cap] 33) = W at *
  have HT0 : Hid (TIn W 0 k0 _) := t0
  have HT1 : Hid (TIn W 0 k1 _) := t1
  have HB : Hid (Below w.heap.size w W) := hb
  have HLT := World.block_lt_of_cell? _ _ c00
  have HLW := World.block_lt_of_cell? _ _ g3
  have HF : Hid (∀ w', Below W.heap.size W w' → w'.cell? ⟨w.heap.size, 1, none⟩ = some (.string s) ∧ w'.cell? ⟨w.heap.size, 2, none⟩ = some (.int .i64 n) ∧ w'.cell? ⟨w.heap.size, 3, none⟩ = some (.slice (some ⟨b, o, none⟩) 2 cap) ∧ w'.cell? ⟨b, o, none⟩ = some (.int .i64 k0.kind) ∧ w'.cell? ⟨b, o + 1, none⟩ = some (.string k0.s) ∧ w'.cell? ⟨b, o + 2, none⟩ = some (.int .i64 k0.n) ∧ w'.cell? ⟨b, o + 3, none⟩ = some (.slice ka0 k0.k.length ca0) ∧ w'.cell? ⟨b, o + 4, none⟩ = some (.int .i64 k1.kind) ∧ w'.cell? ⟨b, o + 4 + 1, none⟩ = some (.string k1.s) ∧ w'.cell? ⟨b, o + 4 + 2, none⟩ = some (.int .i64 k1.n) ∧ w'.cell? ⟨b, o + 4 + 3, none⟩ = some (.slice ka1 k1.k.length ca1)) := fun w' h => ⟨(h.cell (p := ⟨w.heap.size, 1, none⟩) HLW).trans g1, (h.cell (p := ⟨w.heap.size, 2, none⟩) HLW).trans g2, (h.cell (p := ⟨w.heap.size, 3, none⟩) HLW).trans g3, (h.cell (p := ⟨b, o, none⟩) HLT).trans c00, (h.cell (p := ⟨b, o + 1, none⟩) HLT).trans c01, (h.cell (p := ⟨b, o + 2, none⟩) HLT).trans c02, (h.cell (p := ⟨b, o + 3, none⟩) HLT).trans c03, (h.cell (p := ⟨b, o + 4, none⟩) HLT).trans c10, (h.cell (p := ⟨b, o + 4 + 1, none⟩) HLT).trans c11, (h.cell (p := ⟨b, o + 4 + 2, none⟩) HLT).trans c12, (h.cell (p := ⟨b, o + 4 + 3, none⟩) HLT).trans c13⟩
  clear hb HLT HLW g1 g2 g3 c00 c01 c02 c03 c10 c11 c12 c13 t0 t1
  refine wp_region_class (fun w' => Below W.heap.size W w') (by kernel_rfl) (by kernel_rfl) (below_drew (Below.refl _ _)) ?_
  refine quiet_runs (.pointer (some ⟨w.heap.size, 3, none⟩)) rfl (fun w' hw' => ?_) ?_
  · go_simp
  simp only [Act.put, List.setIfInBounds_toArray, List.set_cons_zero, List.set_cons_succ]
  refine quiet_runs (.slice (some ⟨b, o, none⟩) 2 cap) rfl (fun w' hw' => ?_) ?_
  · obtain ⟨x1, x2, x3, y00, y01, y02, y03, y10, y11, y12, y13⟩ := HF.out w' hw'
    go_simp
  simp only [Act.put, List.setIfInBounds_toArray, List.set_cons_zero, List.set_cons_succ]
  refine quiet_runs (.pointer (some ⟨b, o, none⟩)) rfl (fun w' hw' => ?_) ?_
  · go_simp
  simp only [Act.put, List.setIfInBounds_toArray, List.set_cons_zero, List.set_cons_succ]
  refine quiet_runs (.agg #[.int .i64 k0.kind, .string k0.s, .int .i64 k0.n, .slice ka0 k0.k.length ca0]) rfl (fun w' hw' => ?_) ?_
  · obtain ⟨x1, x2, x3, y00, y01, y02, y03, y10, y11, y12, y13⟩ := HF.out w' hw'
    go_simp
  simp only [Act.put, List.setIfInBounds_toArray, List.set_cons_zero, List.set_cons_succ]
  refine quiet_calls 48 #[.agg #[.int .i64 k0.kind, .string k0.s, .int .i64 k0.n, .slice ka0 k0.k.length ca0]] r0 rfl (fun w' hw' => ?_) (fun w' hw' => part_class HI0.out HT0.out hw') ?_
  · go_simp
  simp only [Act.put, List.setIfInBounds_toArray, List.set_cons_zero, List.set_cons_succ]
  refine quiet_runs (.pointer (some ⟨w.heap.size, 3, none⟩)) rfl (fun w' hw' => ?_) ?_
  · go_simp
  simp only [Act.put, List.setIfInBounds_toArray, List.set_cons_zero, List.set_cons_succ]
  refine quiet_runs (.slice (some ⟨b, o, none⟩) 2 cap) rfl (fun w' hw' => ?_) ?_
  · obtain ⟨x1, x2, x3, y00, y01, y02, y03, y10, y11, y12, y13⟩ := HF.out w' hw'
    go_simp
  simp only [Act.put, List.setIfInBounds_toArray, List.set_cons_zero, List.set_cons_succ]
  refine quiet_runs (.pointer (some ⟨b, o + 4, none⟩)) rfl (fun w' hw' => ?_) ?_
  · go_simp
  simp only [Act.put, List.setIfInBounds_toArray, List.set_cons_zero, List.set_cons_succ]
  refine quiet_runs (.agg #[.int .i64 k1.kind, .string k1.s, .int .i64 k1.n, .slice ka1 k1.k.length ca1]) rfl (fun w' hw' => ?_) ?_
  · obtain ⟨x1, x2, x3, y00, y01, y02, y03, y10, y11, y12, y13⟩ := HF.out w' hw'
    go_simp
  simp only [Act.put, List.setIfInBounds_toArray, List.set_cons_zero, List.set_cons_succ]
  refine quiet_calls 18 #[.agg #[.int .i64 k1.kind, .string k1.s, .int .i64 k1.n, .slice ka1 k1.k.length ca1]] r1 rfl (fun w' hw' => ?_) (fun w' hw' => part_class HI1.out HT1.out hw') ?_
  · go_simp
  simp only [Act.put, List.setIfInBounds_toArray, List.set_cons_zero, List.set_cons_succ]
  refine quiet_runs (.agg #[r0, r1]) rfl (fun w' hw' => ?_) ?_
  · go_simp
  simp only [Act.put, List.setIfInBounds_toArray, List.set_cons_zero, List.set_cons_succ]
  refine quiet_runs (.iface 107 (.agg #[r0, r1])) rfl (fun w' hw' => ?_) ?_
  · go_simp
  simp only [Act.put, List.setIfInBounds_toArray, List.set_cons_zero, List.set_cons_succ]
  refine quiet_runs (.iface 107 (.agg #[r0, r1])) rfl (fun w' hw' => ?_) ?_
  · go_simp
  simp only [Act.put, List.setIfInBounds_toArray, List.set_cons_zero, List.set_cons_succ]
  refine wpQuiet_nil ?_
  intro w' hw'
  go_wp2_with fail
  go_ret
  exact ⟨rfl, HB.out.trans (hw'.mono HB.out.size)⟩
set_option maxHeartbeats 2000000 in
set_option maxRecDepth 100000 in
theorem termT_when (k0 : T) (s : ByteArray) (n : Int) (a : Option Addr) (cap : Nat) (w : World) (hcap : 1 ≤ cap) (hcm : cap ≤ 9223372036854775807) (hK : KAt w 0 [k0] a 0) (r0 : Value) (q0 : One' r0)
    (ih0 : ∀ w v, TIn w 0 k0 v → Calls Tryz.prog 18 #[v] w fun e w' => e = .returned r0 ∧ Below w.heap.size w w') :
    Calls Tryz.prog 18 #[.agg #[.int .i64 7, .string s, .int .i64 n, .slice a 1 cap]] w fun e w' => e = .returned (.iface 109 (.agg #[.int .i64 n, r0])) ∧ Below w.heap.size w w' := by
  have hb : Below w.heap.size w (w.alloc (.cells #[.int .i64 7, .string s, .int .i64 n, .slice a 1 cap] 33)) := below_alloc (Below.refl _ _) _
  obtain ⟨b, o, ka0, ca0, rfl, c00, c01, c02, c03, t0⟩ := (hK.below hb).cells (j := 0) (t := k0) rfl
  simp only [Nat.zero_mul, Nat.add_zero] at c00 c01 c02 c03
  have g : ∀ i, (w.alloc (.cells #[.int .i64 7, .string s, .int .i64 n, .slice (some ⟨b, o, none⟩) 1 cap] 33)).cell? ⟨w.heap.size, i, none⟩ = (#[.int .i64 7, .string s, .int .i64 n, .slice (some ⟨b, o, none⟩) 1 cap] : Array Value)[i]? := fun i => cell_of_row _ _ _ _ _ _ (heap_alloc_new _ _)
  have g1 := g 1
  have g2 := g 2
  have g3 := g 3
  rw [show (#[.int .i64 7, .string s, .int .i64 n, .slice (some ⟨b, o, none⟩) 1 cap] : Array Value)[1]? = some (.string s) from rfl] at g1
  rw [show (#[.int .i64 7, .string s, .int .i64 n, .slice (some ⟨b, o, none⟩) 1 cap] : Array Value)[2]? = some (.int .i64 n) from rfl] at g2
  rw [show (#[.int .i64 7, .string s, .int .i64 n, .slice (some ⟨b, o, none⟩) 1 cap] : Array Value)[3]? = some (.slice (some ⟨b, o, none⟩) 1 cap) from rfl] at g3
  clear hK g
  have HI0 := hidIn ih0
  have cv0 := q0.cells
  have mv0 := q0.cells
  unfold Value.cells at mv0
  clear ih0 q0
  go_enter Tryz.func18, Tryz.ntmps18
  go_wp2_with fail
  generalize w.alloc (.cells #[.int .i64 7, .string s, .int .i64 n, .slice (some ⟨b, o, none⟩) 1 cap] 33) = W at *
  have HT0 : Hid (TIn W 0 k0 _) := t0
  have HB : Hid (Below w.heap.size w W) := hb
  have HLT := World.block_lt_of_cell? _ _ c00
  have HLW := World.block_lt_of_cell? _ _ g3
  have HF : Hid (∀ w', Below W.heap.size W w' → w'.cell? ⟨w.heap.size, 1, none⟩ = some (.string s) ∧ w'.cell? ⟨w.heap.size, 2, none⟩ = some (.int .i64 n) ∧ w'.cell? ⟨w.heap.size, 3, none⟩ = some (.slice (some ⟨b, o, none⟩) 1 cap) ∧ w'.cell? ⟨b, o, none⟩ = some (.int .i64 k0.kind) ∧ w'.cell? ⟨b, o + 1, none⟩ = some (.string k0.s) ∧ w'.cell? ⟨b, o + 2, none⟩ = some (.int .i64 k0.n) ∧ w'.cell? ⟨b, o + 3, none⟩ = some (.slice ka0 k0.k.length ca0)) := fun w' h => ⟨(h.cell (p := ⟨w.heap.size, 1, none⟩) HLW).trans g1, (h.cell (p := ⟨w.heap.size, 2, none⟩) HLW).trans g2, (h.cell (p := ⟨w.heap.size, 3, none⟩) HLW).trans g3, (h.cell (p := ⟨b, o, none⟩) HLT).trans c00, (h.cell (p := ⟨b, o + 1, none⟩) HLT).trans c01, (h.cell (p := ⟨b, o + 2, none⟩) HLT).trans c02, (h.cell (p := ⟨b, o + 3, none⟩) HLT).trans c03⟩
  clear hb HLT HLW g1 g2 g3 c00 c01 c02 c03 t0
  refine wp_region_class (fun w' => Below W.heap.size W w') (by kernel_rfl) (by kernel_rfl) (below_drew (Below.refl _ _)) ?_
  refine quiet_runs (.pointer (some ⟨w.heap.size, 2, none⟩)) rfl (fun w' hw' => ?_) ?_
  · go_simp
  simp only [Act.put, List.setIfInBounds_toArray, List.set_cons_zero, List.set_cons_succ]
  refine quiet_runs (.int .i64 n) rfl (fun w' hw' => ?_) ?_
  · obtain ⟨x1, x2, x3, y00, y01, y02, y03⟩ := HF.out w' hw'
    go_simp
  simp only [Act.put, List.setIfInBounds_toArray, List.set_cons_zero, List.set_cons_succ]
  refine quiet_runs (.pointer (some ⟨w.heap.size, 3, none⟩)) rfl (fun w' hw' => ?_) ?_
  · go_simp
  simp only [Act.put, List.setIfInBounds_toArray, List.set_cons_zero, List.set_cons_succ]
  refine quiet_runs (.slice (some ⟨b, o, none⟩) 1 cap) rfl (fun w' hw' => ?_) ?_
  · obtain ⟨x1, x2, x3, y00, y01, y02, y03⟩ := HF.out w' hw'
    go_simp
  simp only [Act.put, List.setIfInBounds_toArray, List.set_cons_zero, List.set_cons_succ]
  refine quiet_runs (.pointer (some ⟨b, o, none⟩)) rfl (fun w' hw' => ?_) ?_
  · go_simp
  simp only [Act.put, List.setIfInBounds_toArray, List.set_cons_zero, List.set_cons_succ]
  refine quiet_runs (.agg #[.int .i64 k0.kind, .string k0.s, .int .i64 k0.n, .slice ka0 k0.k.length ca0]) rfl (fun w' hw' => ?_) ?_
  · obtain ⟨x1, x2, x3, y00, y01, y02, y03⟩ := HF.out w' hw'
    go_simp
  simp only [Act.put, List.setIfInBounds_toArray, List.set_cons_zero, List.set_cons_succ]
  refine quiet_calls 18 #[.agg #[.int .i64 k0.kind, .string k0.s, .int .i64 k0.n, .slice ka0 k0.k.length ca0]] r0 rfl (fun w' hw' => ?_) (fun w' hw' => part_class HI0.out HT0.out hw') ?_
  · go_simp
  simp only [Act.put, List.setIfInBounds_toArray, List.set_cons_zero, List.set_cons_succ]
  refine quiet_runs (.agg #[.int .i64 n, r0]) rfl (fun w' hw' => ?_) ?_
  · go_simp
  simp only [Act.put, List.setIfInBounds_toArray, List.set_cons_zero, List.set_cons_succ]
  refine quiet_runs (.iface 109 (.agg #[.int .i64 n, r0])) rfl (fun w' hw' => ?_) ?_
  · go_simp
  simp only [Act.put, List.setIfInBounds_toArray, List.set_cons_zero, List.set_cons_succ]
  refine quiet_runs (.iface 109 (.agg #[.int .i64 n, r0])) rfl (fun w' hw' => ?_) ?_
  · go_simp
  simp only [Act.put, List.setIfInBounds_toArray, List.set_cons_zero, List.set_cons_succ]
  refine wpQuiet_nil ?_
  intro w' hw'
  go_wp2_with fail
  go_ret
  exact ⟨rfl, HB.out.trans (hw'.mono HB.out.size)⟩

end Go.Proofs.YtkioolbjmcpjpaaGreatDoor
namespace Go.Proofs.YtkioolbjmcpjpaaGreatDoor
open Go.RowKit
set_option linter.unusedVariables false

set_option maxHeartbeats 2000000 in
set_option maxRecDepth 100000 in
theorem termT_iff (k0 k1 k2 : T) (s : ByteArray) (n : Int) (a : Option Addr) (cap : Nat) (w : World) (hcap : 3 ≤ cap) (hcm : cap ≤ 9223372036854775807) (hK : KAt w 0 [k0, k1, k2] a 0) (r0 r1 r2 : Value) (q0 : One' r0) (q1 : One' r1) (q2 : One' r2)
    (ih0 : ∀ w v, TIn w 0 k0 v → Calls Tryz.prog 48 #[v] w fun e w' => e = .returned r0 ∧ Below w.heap.size w w') (ih1 : ∀ w v, TIn w 0 k1 v → Calls Tryz.prog 18 #[v] w fun e w' => e = .returned r1 ∧ Below w.heap.size w w') (ih2 : ∀ w v, TIn w 0 k2 v → Calls Tryz.prog 18 #[v] w fun e w' => e = .returned r2 ∧ Below w.heap.size w w') :
    Calls Tryz.prog 18 #[.agg #[.int .i64 8, .string s, .int .i64 n, .slice a 3 cap]] w fun e w' => e = .returned (.iface 111 (.agg #[r0, r1, r2])) ∧ Below w.heap.size w w' := by
  have hb : Below w.heap.size w (w.alloc (.cells #[.int .i64 8, .string s, .int .i64 n, .slice a 3 cap] 33)) := below_alloc (Below.refl _ _) _
  obtain ⟨b, o, ka0, ca0, rfl, c00, c01, c02, c03, t0⟩ := (hK.below hb).cells (j := 0) (t := k0) rfl
  obtain ⟨b1, o1, ka1, ca1, e1, c10, c11, c12, c13, t1⟩ := (hK.below hb).cells (j := 1) (t := k1) rfl
  injection e1 with e1
  injection e1 with e1a e1b
  subst e1a e1b
  obtain ⟨b2, o2, ka2, ca2, e2, c20, c21, c22, c23, t2⟩ := (hK.below hb).cells (j := 2) (t := k2) rfl
  injection e2 with e2
  injection e2 with e2a e2b
  subst e2a e2b
  simp only [Nat.zero_mul, Nat.add_zero, Nat.one_mul, show 2 * 4 = 8 from rfl] at c00 c01 c02 c03 c10 c11 c12 c13 c20 c21 c22 c23
  have g : ∀ i, (w.alloc (.cells #[.int .i64 8, .string s, .int .i64 n, .slice (some ⟨b, o, none⟩) 3 cap] 33)).cell? ⟨w.heap.size, i, none⟩ = (#[.int .i64 8, .string s, .int .i64 n, .slice (some ⟨b, o, none⟩) 3 cap] : Array Value)[i]? := fun i => cell_of_row _ _ _ _ _ _ (heap_alloc_new _ _)
  have g1 := g 1
  have g2 := g 2
  have g3 := g 3
  rw [show (#[.int .i64 8, .string s, .int .i64 n, .slice (some ⟨b, o, none⟩) 3 cap] : Array Value)[1]? = some (.string s) from rfl] at g1
  rw [show (#[.int .i64 8, .string s, .int .i64 n, .slice (some ⟨b, o, none⟩) 3 cap] : Array Value)[2]? = some (.int .i64 n) from rfl] at g2
  rw [show (#[.int .i64 8, .string s, .int .i64 n, .slice (some ⟨b, o, none⟩) 3 cap] : Array Value)[3]? = some (.slice (some ⟨b, o, none⟩) 3 cap) from rfl] at g3
  clear hK g
  have HI0 := hidIn ih0
  have cv0 := q0.cells
  have mv0 := q0.cells
  unfold Value.cells at mv0
  have HI1 := hidIn ih1
  have cv1 := q1.cells
  have mv1 := q1.cells
  unfold Value.cells at mv1
  have HI2 := hidIn ih2
  have cv2 := q2.cells
  have mv2 := q2.cells
  unfold Value.cells at mv2
  clear ih0 q0 ih1 q1 ih2 q2
  go_enter Tryz.func18, Tryz.ntmps18
  go_wp2_with fail
  generalize w.alloc (.cells #[.int .i64 8, .string s, .int .i64 n, .slice (some ⟨b, o, none⟩) 3 cap] 33) = W at *
  have HT0 : Hid (TIn W 0 k0 _) := t0
  have HT1 : Hid (TIn W 0 k1 _) := t1
  have HT2 : Hid (TIn W 0 k2 _) := t2
  have HB : Hid (Below w.heap.size w W) := hb
  have HLT := World.block_lt_of_cell? _ _ c00
  have HLW := World.block_lt_of_cell? _ _ g3
  have HF : Hid (∀ w', Below W.heap.size W w' → w'.cell? ⟨w.heap.size, 1, none⟩ = some (.string s) ∧ w'.cell? ⟨w.heap.size, 2, none⟩ = some (.int .i64 n) ∧ w'.cell? ⟨w.heap.size, 3, none⟩ = some (.slice (some ⟨b, o, none⟩) 3 cap) ∧ w'.cell? ⟨b, o, none⟩ = some (.int .i64 k0.kind) ∧ w'.cell? ⟨b, o + 1, none⟩ = some (.string k0.s) ∧ w'.cell? ⟨b, o + 2, none⟩ = some (.int .i64 k0.n) ∧ w'.cell? ⟨b, o + 3, none⟩ = some (.slice ka0 k0.k.length ca0) ∧ w'.cell? ⟨b, o + 4, none⟩ = some (.int .i64 k1.kind) ∧ w'.cell? ⟨b, o + 4 + 1, none⟩ = some (.string k1.s) ∧ w'.cell? ⟨b, o + 4 + 2, none⟩ = some (.int .i64 k1.n) ∧ w'.cell? ⟨b, o + 4 + 3, none⟩ = some (.slice ka1 k1.k.length ca1) ∧ w'.cell? ⟨b, o + 8, none⟩ = some (.int .i64 k2.kind) ∧ w'.cell? ⟨b, o + 8 + 1, none⟩ = some (.string k2.s) ∧ w'.cell? ⟨b, o + 8 + 2, none⟩ = some (.int .i64 k2.n) ∧ w'.cell? ⟨b, o + 8 + 3, none⟩ = some (.slice ka2 k2.k.length ca2)) := fun w' h => ⟨(h.cell (p := ⟨w.heap.size, 1, none⟩) HLW).trans g1, (h.cell (p := ⟨w.heap.size, 2, none⟩) HLW).trans g2, (h.cell (p := ⟨w.heap.size, 3, none⟩) HLW).trans g3, (h.cell (p := ⟨b, o, none⟩) HLT).trans c00, (h.cell (p := ⟨b, o + 1, none⟩) HLT).trans c01, (h.cell (p := ⟨b, o + 2, none⟩) HLT).trans c02, (h.cell (p := ⟨b, o + 3, none⟩) HLT).trans c03, (h.cell (p := ⟨b, o + 4, none⟩) HLT).trans c10, (h.cell (p := ⟨b, o + 4 + 1, none⟩) HLT).trans c11, (h.cell (p := ⟨b, o + 4 + 2, none⟩) HLT).trans c12, (h.cell (p := ⟨b, o + 4 + 3, none⟩) HLT).trans c13, (h.cell (p := ⟨b, o + 8, none⟩) HLT).trans c20, (h.cell (p := ⟨b, o + 8 + 1, none⟩) HLT).trans c21, (h.cell (p := ⟨b, o + 8 + 2, none⟩) HLT).trans c22, (h.cell (p := ⟨b, o + 8 + 3, none⟩) HLT).trans c23⟩
  clear hb HLT HLW g1 g2 g3 c00 c01 c02 c03 c10 c11 c12 c13 c20 c21 c22 c23 t0 t1 t2
  refine wp_region_class (fun w' => Below W.heap.size W w') (by kernel_rfl) (by kernel_rfl) (below_drew (Below.refl _ _)) ?_
  refine quiet_runs (.pointer (some ⟨w.heap.size, 3, none⟩)) rfl (fun w' hw' => ?_) ?_
  · go_simp
  simp only [Act.put, List.setIfInBounds_toArray, List.set_cons_zero, List.set_cons_succ]
  refine quiet_runs (.slice (some ⟨b, o, none⟩) 3 cap) rfl (fun w' hw' => ?_) ?_
  · obtain ⟨x1, x2, x3, y00, y01, y02, y03, y10, y11, y12, y13, y20, y21, y22, y23⟩ := HF.out w' hw'
    go_simp
  simp only [Act.put, List.setIfInBounds_toArray, List.set_cons_zero, List.set_cons_succ]
  refine quiet_runs (.pointer (some ⟨b, o, none⟩)) rfl (fun w' hw' => ?_) ?_
  · go_simp
  simp only [Act.put, List.setIfInBounds_toArray, List.set_cons_zero, List.set_cons_succ]
  refine quiet_runs (.agg #[.int .i64 k0.kind, .string k0.s, .int .i64 k0.n, .slice ka0 k0.k.length ca0]) rfl (fun w' hw' => ?_) ?_
  · obtain ⟨x1, x2, x3, y00, y01, y02, y03, y10, y11, y12, y13, y20, y21, y22, y23⟩ := HF.out w' hw'
    go_simp
  simp only [Act.put, List.setIfInBounds_toArray, List.set_cons_zero, List.set_cons_succ]
  refine quiet_calls 48 #[.agg #[.int .i64 k0.kind, .string k0.s, .int .i64 k0.n, .slice ka0 k0.k.length ca0]] r0 rfl (fun w' hw' => ?_) (fun w' hw' => part_class HI0.out HT0.out hw') ?_
  · go_simp
  simp only [Act.put, List.setIfInBounds_toArray, List.set_cons_zero, List.set_cons_succ]
  refine quiet_runs (.pointer (some ⟨w.heap.size, 3, none⟩)) rfl (fun w' hw' => ?_) ?_
  · go_simp
  simp only [Act.put, List.setIfInBounds_toArray, List.set_cons_zero, List.set_cons_succ]
  refine quiet_runs (.slice (some ⟨b, o, none⟩) 3 cap) rfl (fun w' hw' => ?_) ?_
  · obtain ⟨x1, x2, x3, y00, y01, y02, y03, y10, y11, y12, y13, y20, y21, y22, y23⟩ := HF.out w' hw'
    go_simp
  simp only [Act.put, List.setIfInBounds_toArray, List.set_cons_zero, List.set_cons_succ]
  refine quiet_runs (.pointer (some ⟨b, o + 4, none⟩)) rfl (fun w' hw' => ?_) ?_
  · go_simp
  simp only [Act.put, List.setIfInBounds_toArray, List.set_cons_zero, List.set_cons_succ]
  refine quiet_runs (.agg #[.int .i64 k1.kind, .string k1.s, .int .i64 k1.n, .slice ka1 k1.k.length ca1]) rfl (fun w' hw' => ?_) ?_
  · obtain ⟨x1, x2, x3, y00, y01, y02, y03, y10, y11, y12, y13, y20, y21, y22, y23⟩ := HF.out w' hw'
    go_simp
  simp only [Act.put, List.setIfInBounds_toArray, List.set_cons_zero, List.set_cons_succ]
  refine quiet_calls 18 #[.agg #[.int .i64 k1.kind, .string k1.s, .int .i64 k1.n, .slice ka1 k1.k.length ca1]] r1 rfl (fun w' hw' => ?_) (fun w' hw' => part_class HI1.out HT1.out hw') ?_
  · go_simp
  simp only [Act.put, List.setIfInBounds_toArray, List.set_cons_zero, List.set_cons_succ]
  refine quiet_runs (.pointer (some ⟨w.heap.size, 3, none⟩)) rfl (fun w' hw' => ?_) ?_
  · go_simp
  simp only [Act.put, List.setIfInBounds_toArray, List.set_cons_zero, List.set_cons_succ]
  refine quiet_runs (.slice (some ⟨b, o, none⟩) 3 cap) rfl (fun w' hw' => ?_) ?_
  · obtain ⟨x1, x2, x3, y00, y01, y02, y03, y10, y11, y12, y13, y20, y21, y22, y23⟩ := HF.out w' hw'
    go_simp
  simp only [Act.put, List.setIfInBounds_toArray, List.set_cons_zero, List.set_cons_succ]
  refine quiet_runs (.pointer (some ⟨b, o + 8, none⟩)) rfl (fun w' hw' => ?_) ?_
  · go_simp
  simp only [Act.put, List.setIfInBounds_toArray, List.set_cons_zero, List.set_cons_succ]
  refine quiet_runs (.agg #[.int .i64 k2.kind, .string k2.s, .int .i64 k2.n, .slice ka2 k2.k.length ca2]) rfl (fun w' hw' => ?_) ?_
  · obtain ⟨x1, x2, x3, y00, y01, y02, y03, y10, y11, y12, y13, y20, y21, y22, y23⟩ := HF.out w' hw'
    go_simp
  simp only [Act.put, List.setIfInBounds_toArray, List.set_cons_zero, List.set_cons_succ]
  refine quiet_calls 18 #[.agg #[.int .i64 k2.kind, .string k2.s, .int .i64 k2.n, .slice ka2 k2.k.length ca2]] r2 rfl (fun w' hw' => ?_) (fun w' hw' => part_class HI2.out HT2.out hw') ?_
  · go_simp
  simp only [Act.put, List.setIfInBounds_toArray, List.set_cons_zero, List.set_cons_succ]
  refine quiet_runs (.agg #[r0, r1, r2]) rfl (fun w' hw' => ?_) ?_
  · go_simp
  simp only [Act.put, List.setIfInBounds_toArray, List.set_cons_zero, List.set_cons_succ]
  refine quiet_runs (.iface 111 (.agg #[r0, r1, r2])) rfl (fun w' hw' => ?_) ?_
  · go_simp
  simp only [Act.put, List.setIfInBounds_toArray, List.set_cons_zero, List.set_cons_succ]
  refine quiet_runs (.iface 111 (.agg #[r0, r1, r2])) rfl (fun w' hw' => ?_) ?_
  · go_simp
  simp only [Act.put, List.setIfInBounds_toArray, List.set_cons_zero, List.set_cons_succ]
  refine wpQuiet_nil ?_
  intro w' hw'
  go_wp2_with fail
  go_ret
  exact ⟨rfl, HB.out.trans (hw'.mono HB.out.size)⟩

end Go.Proofs.YtkioolbjmcpjpaaGreatDoor
namespace Go.Proofs.YtkioolbjmcpjpaaGreatDoor
open Go.RowKit
set_option linter.unusedVariables false

mutual
/-- The contract that a tree stands for. -/
def termOf : T → C
  | .mk kind s n k => if kind = 1 then .zero else if kind = 2 then .one s else match kind, k with
    | 3, [a] => .give (termOf a)
    | 4, [a, b] => .and (termOf a) (termOf b)
    | 5, [a, b] => .or s (termOf a) (termOf b)
    | 6, [o, a] => .scale (obsOf o) (termOf a)
    | 7, [a] => .when n (termOf a)
    | 8, [o, a, b] => .iff (obsOf o) (termOf a) (termOf b)
    | _, _ => .odd .nilIface
end
/-- A tree whose contracts have as many parts as they need. -/
inductive SC : T → Prop
  | leaf (kind : Int) (s : ByteArray) (n : Int) (k : List T) (h : kind = 0 ∨ kind = 1 ∨ kind = 2 ∨ 8 < kind) (hs : s.size ≤ 2147483648) : SC (.mk kind s n k)
  | give (s : ByteArray) (n : Int) (a : T) (ha : SC a) : SC (.mk 3 s n [a])
  | and (s : ByteArray) (n : Int) (a b : T) (ha : SC a) (hb : SC b) : SC (.mk 4 s n [a, b])
  | or (s : ByteArray) (n : Int) (a b : T) (hs : s.size ≤ 2147483648) (ha : SC a) (hb : SC b) : SC (.mk 5 s n [a, b])
  | scale (s : ByteArray) (n : Int) (o a : T) (ho : o.Shaped) (ha : SC a) : SC (.mk 6 s n [o, a])
  | when (s : ByteArray) (n : Int) (a : T) (hn : -9223372036854775808 ≤ n ∧ n ≤ 9223372036854775807) (ha : SC a) : SC (.mk 7 s n [a])
  | iff (s : ByteArray) (n : Int) (o a b : T) (ho : o.Shaped) (ha : SC a) (hb : SC b) : SC (.mk 8 s n [o, a, b])
theorem termOf_ok {t : T} (h : SC t) : (termOf t).Ok := by
  induction h with
  | leaf kind s n k h hs =>
    unfold termOf
    split
    · trivial
    · split
      · exact hs
      · rcases h with rfl | rfl | rfl | h
        · exact .inl rfl
        · contradiction
        · contradiction
        · split <;> first | omega | exact .inl rfl
  | give s n a ha iha => exact iha
  | and s n a b ha hb iha ihb => exact ⟨iha, ihb⟩
  | or s n a b hs ha hb iha ihb => exact ⟨hs, iha, ihb⟩
  | scale s n o a ho ha iha => exact ⟨obsOf_ok o ho, iha⟩
  | when s n a hn ha iha => exact ⟨hn, iha⟩
  | iff s n o a b ho ha hb iha ihb => exact ⟨obsOf_ok o ho, iha, ihb⟩
def TermPost (w : World) (c : C) (e : Ending) (w' : World) : Prop := e = .returned c.val ∧ Below w.heap.size w w'

set_option maxHeartbeats 1000000 in
set_option maxRecDepth 100000 in
theorem termT_zero (s : ByteArray) (n : Int) (a : Option Addr) (l cap : Nat) (w : World) :
    Calls Tryz.prog 18 #[.agg #[.int .i64 1, .string s, .int .i64 n, .slice a l cap]] w (TermPost w .zero) := by
  go_enter Tryz.func18, Tryz.ntmps18
  go_wp2_with fail
  go_ret
  exact ⟨rfl, below_alloc (Below.refl _ _) _⟩
set_option maxHeartbeats 1000000 in
set_option maxRecDepth 100000 in
theorem termT_one (s : ByteArray) (n : Int) (a : Option Addr) (l cap : Nat) (w : World) :
    Calls Tryz.prog 18 #[.agg #[.int .i64 2, .string s, .int .i64 n, .slice a l cap]] w (TermPost w (.one s)) := by
  go_enter Tryz.func18, Tryz.ntmps18
  go_wp2_with fail
  go_ret
  exact ⟨rfl, below_alloc (Below.refl _ _) _⟩
set_option maxHeartbeats 1000000 in
set_option maxRecDepth 100000 in
theorem termT_none (kind : Int) (s : ByteArray) (n : Int) (a : Option Addr) (l cap : Nat) (w : World) (h : kind = 0 ∨ 8 < kind) :
    Calls Tryz.prog 18 #[.agg #[.int .i64 kind, .string s, .int .i64 n, .slice a l cap]] w (TermPost w (.odd .nilIface)) := by
  have e1 : (kind == 1) = false := by rw [beq_eq_false_iff_ne]; omega
  have e2 : (kind == 2) = false := by rw [beq_eq_false_iff_ne]; omega
  have e3 : (kind == 3) = false := by rw [beq_eq_false_iff_ne]; omega
  have e4 : (kind == 4) = false := by rw [beq_eq_false_iff_ne]; omega
  have e5 : (kind == 5) = false := by rw [beq_eq_false_iff_ne]; omega
  have e6 : (kind == 6) = false := by rw [beq_eq_false_iff_ne]; omega
  have e7 : (kind == 7) = false := by rw [beq_eq_false_iff_ne]; omega
  have e8 : (kind == 8) = false := by rw [beq_eq_false_iff_ne]; omega
  clear h
  go_enter Tryz.func18, Tryz.ntmps18
  go_wp2_with fail
  go_ret
  exact ⟨rfl, below_alloc (Below.refl _ _) _⟩
set_option maxHeartbeats 1000000 in
set_option maxRecDepth 100000 in
theorem termT_give (k0 : T) (s : ByteArray) (n : Int) (a : Option Addr) (cap : Nat) (w : World) (hcap : 1 ≤ cap) (hcm : cap ≤ 9223372036854775807) (hK : KAt w 0 [k0] a 0) (r0 : Value) (q0 : One' r0)
    (ih0 : ∀ w v, TIn w 0 k0 v → Calls Tryz.prog 18 #[v] w fun e w' => e = .returned r0 ∧ Below w.heap.size w w') :
    Calls Tryz.prog 18 #[.agg #[.int .i64 3, .string s, .int .i64 n, .slice a 1 cap]] w fun e w' => e = .returned (.iface 99 (.agg #[r0])) ∧ Below w.heap.size w w' := by
  have hb : Below w.heap.size w (w.alloc (.cells #[.int .i64 3, .string s, .int .i64 n, .slice a 1 cap] 33)) := below_alloc (Below.refl _ _) _
  obtain ⟨b, o, ka, ca, rfl, c0, c1, c2, c3, t0⟩ := (hK.below hb).cells (j := 0) (t := k0) rfl
  simp only [Nat.zero_mul, Nat.add_zero] at c0 c1 c2 c3
  have HT0 := hidIn t0
  have HI0 := hidIn ih0
  have cv := q0.cells
  have mv := q0.cells
  unfold Value.cells at mv
  clear hK t0 ih0 q0
  go_enter Tryz.func18, Tryz.ntmps18
  go_wp2_with fail
  refine (HI0.out _ _ HT0.out).mono ?_
  rintro e w2 ⟨rfl, hb2⟩
  go_wp2_with fail
  go_ret
  exact ⟨rfl, hb.trans (hb2.mono hb.size)⟩

theorem termT_any {t : T} (h : SC t) : ∀ w v, TIn w 0 t v → Calls Tryz.prog 18 #[v] w (TermPost w (termOf t)) := by
  induction h with
  | leaf kind s n k h hs =>
    rintro w v ⟨a, cap, rfl, hc1, hc2, hK⟩
    simp only [T.kind, T.s, T.n, T.k]
    by_cases h1 : kind = 1
    · subst h1
      have : termOf (.mk 1 s n k) = .zero := by unfold termOf; rw [if_pos rfl]
      rw [this]
      exact termT_zero s n a k.length cap w
    by_cases h2 : kind = 2
    · subst h2
      have : termOf (.mk 2 s n k) = .one s := by unfold termOf; rw [if_neg (by decide), if_pos rfl]
      rw [this]
      exact termT_one s n a k.length cap w
    have hodd : termOf (.mk kind s n k) = .odd .nilIface := by
      unfold termOf
      rw [if_neg h1, if_neg h2]
      split <;> first | omega | rfl
    rw [hodd]
    exact termT_none kind s n a k.length cap w (by omega)
  | give s n a ha iha =>
    rintro w v ⟨x, cap, rfl, hc1, hc2, hK⟩
    exact termT_give a s n x cap w hc1 hc2 hK _ ((termOf a).one' (termOf_ok ha)) iha
  | and s n a b ha hb iha ihb =>
    rintro w v ⟨x, cap, rfl, hc1, hc2, hK⟩
    exact termT_and a b s n x cap w hc1 hc2 hK _ _ ((termOf a).one' (termOf_ok ha)) ((termOf b).one' (termOf_ok hb)) iha ihb
  | or s n a b hs ha hb iha ihb =>
    rintro w v ⟨x, cap, rfl, hc1, hc2, hK⟩
    exact termT_or a b s n x cap w hc1 hc2 hK _ _ ((termOf a).one' (termOf_ok ha)) ((termOf b).one' (termOf_ok hb)) iha ihb
  | scale s n o a ho ha iha =>
    rintro w v ⟨x, cap, rfl, hc1, hc2, hK⟩
    exact termT_scale o a s n x cap w hc1 hc2 hK _ _ ((obsOf o).one' (obsOf_ok o ho)) ((termOf a).one' (termOf_ok ha)) (obsT_any o ho) iha
  | when s n a hn ha iha =>
    rintro w v ⟨x, cap, rfl, hc1, hc2, hK⟩
    exact termT_when a s n x cap w hc1 hc2 hK _ ((termOf a).one' (termOf_ok ha)) iha
  | iff s n o a b ho ha hb iha ihb =>
    rintro w v ⟨x, cap, rfl, hc1, hc2, hK⟩
    exact termT_iff o a b s n x cap w hc1 hc2 hK _ _ _ ((obsOf o).one' (obsOf_ok o ho)) ((termOf a).one' (termOf_ok ha)) ((termOf b).one' (termOf_ok hb)) (obsT_any o ho) iha ihb

end Go.Proofs.YtkioolbjmcpjpaaGreatDoor
namespace Go.Proofs.YtkioolbjmcpjpaaGreatDoor
open Go.RowKit
set_option linter.unusedVariables false

theorem sc_plain (c : C) (h : c.Ok) : SC (plainC c) := by
  induction c with
  | zero => exact .leaf _ _ _ _ (by omega) (by decide)
  | one s => exact .leaf _ _ _ _ (by omega) h
  | give c h1 => exact .give _ _ _ (h1 h)
  | and l r h1 h2 => exact .and _ _ _ _ (h1 h.1) (h2 h.2)
  | or s l r h1 h2 => exact .or _ _ _ _ h.1 (h1 h.2.1) (h2 h.2.2)
  | scale o c h1 => exact .scale _ _ _ _ (shaped_plain o h.1) (h1 h.2)
  | when d c h1 => exact .when _ _ _ h.1 (h1 h.2)
  | iff o l r h1 h2 => exact .iff _ _ _ _ _ (shaped_plain o h.1) (h1 h.2.1) (h2 h.2.2)
  | odd v => exact .leaf _ _ _ _ (by omega) (by decide)
theorem termOf_whole (c : C) (h : c.whole) : termOf (plainC c) = c := by
  induction c with
  | zero => rfl
  | one s => rfl
  | give c h1 => show C.give (termOf (plainC c)) = _; rw [h1 h]
  | and l r h1 h2 => show C.and (termOf (plainC l)) (termOf (plainC r)) = _; rw [h1 h.1, h2 h.2]
  | or s l r h1 h2 => show C.or s (termOf (plainC l)) (termOf (plainC r)) = _; rw [h1 h.2.1, h2 h.2.2]
  | scale o c h1 => show C.scale (obsOf (plain o)) (termOf (plainC c)) = _; rw [obsOf_whole o h.1, h1 h.2]
  | when d c h1 => show C.when d (termOf (plainC c)) = _; rw [h1 h.2]
  | iff o l r h1 h2 => show C.iff (obsOf (plain o)) (termOf (plainC l)) (termOf (plainC r)) = _; rw [obsOf_whole o h.1, h1 h.2.1, h2 h.2.2]
  | odd v => exact absurd h id
theorem termP_any (c : C) (h : c.whole) (w : World) (v : Value) (B : Nat) (ht : TIn w B (plainC c) v) : Calls Tryz.prog 18 #[v] w fun e w' => e = .returned c.val ∧ Below w.heap.size w w' := by
  have := termT_any (sc_plain c (cwhole_ok c h)) w v (ht.low (Nat.zero_le _))
  rw [termOf_whole c h] at this
  exact this
theorem whole_sameC (c : C) (h : c.whole) : sameC c c = true := by
  induction c with
  | zero => rfl
  | one s => simp [sameC]
  | give c h1 => simp [sameC, h1 h]
  | and l r h1 h2 => simp [sameC, h1 h.1, h2 h.2]
  | or s l r h1 h2 => simp [sameC, h1 h.2.1, h2 h.2.2]
  | scale o c h1 => simp [sameC, whole_same o h.1, h1 h.2]
  | when d c h1 => simp [sameC, h1 h.2]
  | iff o l r h1 h2 => simp [sameC, whole_same o h.1, h1 h.2.1, h2 h.2.2]
  | odd v => exact absurd h id
theorem same_give (c : C) : sameC (.give c) c = false := by
  induction c with
  | give c ih => simp only [sameC]; exact ih
  | _ => rfl
theorem same_give' (c : C) : sameC c (.give c) = false := by
  induction c with
  | give c ih => simp only [sameC]; exact ih
  | _ => rfl
/-- A plan's contract, made by two calls in one statement: whatever the order. -/
theorem con_made {p : Pl} {W X : World} (hP : PlanIn W p) (hX : Below W.heap.size W X) : Calls Tryz.prog 49 #[.agg #[.slice p.na p.nl p.nc, .slice p.wa p.wl p.wc]] X (fun e w' => ∃ v, e = .returned v ∧ Below W.heap.size W w' ∧ TIn w' 0 (plainC (conP p)) v) :=
  (contract_any p X (hP.below hX)).mono (fun e w' ⟨v, he, ht, hb⟩ => ⟨v, he, hX.trans (hb.mono hX.size), ht.low (Nat.zero_le _)⟩)
theorem con_term {p : Pl} {W X : World} {v : Value} (hX : Below W.heap.size W X) (ht : TIn X 0 (plainC (conP p)) v) : Calls Tryz.prog 18 #[v] X (fun e w' => e = .returned (conP p).val ∧ Below W.heap.size W w') :=
  (termP_any (conP p) (conP_whole p) X v 0 ht).mono (fun e w' ⟨he, hb⟩ => ⟨he, hX.trans (hb.mono hX.size)⟩)

end Go.Proofs.YtkioolbjmcpjpaaGreatDoor
namespace Go.Proofs.YtkioolbjmcpjpaaGreatDoor
open Go.RowKit
set_option linter.unusedVariables false

theorem plainC_nodes (c : C) : (plainC c).nodes = c.nodes := by
  induction c with
  | scale o c ih => have := plain_nodes o; simp only [plainC, T.nodes, nodesL, C.nodes] at *; simp; omega
  | iff o l r h1 h2 => have := plain_nodes o; simp only [plainC, T.nodes, nodesL, C.nodes] at *; simp; omega
  | _ => simp_all [plainC, T.nodes, nodesL, C.nodes] <;> omega
theorem plainC_depth (c : C) : (plainC c).depth = c.depth := by
  induction c with
  | scale o c ih => have := plain_depth o; simp only [plainC, T.depth, depthL, C.depth] at *; simp; omega
  | iff o l r h1 h2 => have := plain_depth o; simp only [plainC, T.depth, depthL, C.depth] at *; simp; omega
  | _ => simp_all [plainC, T.depth, depthL, C.depth] <;> omega
theorem plainC_labs (c : C) : (plainC c).labs = c.labels := by
  induction c <;> simp_all [plainC, T.labs, labsL, C.labels, plain_labs]
theorem plainC_cnt (c : C) : (plainC c).cnt ≤ 3 * c.weight := by
  induction c with
  | scale o c ih => have := plain_cnt o; simp only [plainC, T.cnt, cntL, C.weight] at *; omega
  | iff o l r h1 h2 => have := plain_cnt o; simp only [plainC, T.cnt, cntL, C.weight] at *; omega
  | _ => simp only [plainC, T.cnt, cntL, C.weight] at * <;> omega
theorem plainC_sized (c : C) (h : c.Ok) : (plainC c).Sized := by
  have he : (⟨#[]⟩ : ByteArray).size ≤ 2147483648 := by decide
  induction c with
  | zero => simp only [plainC, T.Sized, SizedL]; exact ⟨he, trivial⟩
  | one s => simp only [plainC, T.Sized, SizedL]; exact ⟨h, trivial⟩
  | odd v => simp only [plainC, T.Sized, SizedL]; exact ⟨he, trivial⟩
  | give c h1 => simp only [plainC, T.Sized, SizedL]; exact ⟨he, h1 h, trivial⟩
  | and l r h1 h2 => simp only [plainC, T.Sized, SizedL]; exact ⟨he, h1 h.1, h2 h.2, trivial⟩
  | or s l r h1 h2 => simp only [plainC, T.Sized, SizedL]; exact ⟨h.1, h1 h.2.1, h2 h.2.2, trivial⟩
  | scale o c h1 => simp only [plainC, T.Sized, SizedL]; exact ⟨he, plain_sized o h.1, h1 h.2, trivial⟩
  | when d c h1 => simp only [plainC, T.Sized, SizedL]; exact ⟨he, h1 h.2, trivial⟩
  | iff o l r h1 h2 => simp only [plainC, T.Sized, SizedL]; exact ⟨he, plain_sized o h.1, h1 h.2.1, h2 h.2.2, trivial⟩
theorem plainC_form (c : C) : formT (plainC c) false = formC c := by
  induction c <;> simp_all [plainC, formT, formTL, headOk, partB, formC, plain_form, Bool.and_assoc]
theorem plainC_chk (c : C) : chkT (plainC c) false = chkC c := by
  unfold chkT chkC
  rw [plainC_form, plainC_nodes, plainC_depth, plainC_labs]
theorem refCheckC_any (c : C) (hok : c.Ok) (hw : c.weight ≤ 300000) (w : World) (v : Value) (B : Nat) (ht : TIn w B (plainC c) v) : Calls Tryz.prog 50 #[v, .bool false] w fun e w' => e = .returned (.int .i64 (chkC c)) ∧ Below w.heap.size w w' := by
  have h := refCheck_any (plainC c) (plainC_sized c hok) (by have := plainC_cnt c; omega) (by rw [plainC_nodes]; have := weight_nodes c; omega) false w v (ht.low (Nat.zero_le _))
  rw [plainC_chk] at h
  exact h
/-- The right contract of a plan. -/
def rightP (p : Pl) : C := if chkC (conP p) = 0 then conP p else .one ⟨#[117, 115, 100]⟩
theorem rightP_whole (p : Pl) : (rightP p).whole := by
  unfold rightP
  split
  · exact conP_whole p
  · show (⟨#[117, 115, 100]⟩ : ByteArray).size ≤ _
    decide
theorem rightP_weight (p : Pl) : (rightP p).weight ≤ 630 := by
  unfold rightP
  split
  · exact conP_weight p
  · simp [C.weight]

set_option maxHeartbeats 1000000 in
set_option maxRecDepth 100000 in
theorem right_any (p : Pl) (w : World) (h : PlanIn w p) : Calls Tryz.prog 19 #[planV p] w fun e w' => ∃ v, e = .returned v ∧ TIn w' w.heap.size (plainC (rightP p)) v ∧ Below w.heap.size w w' := by
  unfold planV
  have HP := hidIn h
  have HOK := hidIn (cwhole_ok _ (conP_whole p))
  have HWT := hidIn (conP_weight p)
  have HRP : Hid (rightP p = if chkC (conP p) = 0 then conP p else .one ⟨#[117, 115, 100]⟩) := rfl
  clear h
  go_enter Tryz.func19, Tryz.ntmps19
  go_wp2_with fail
  obtain ⟨W, hW⟩ : ∃ W, W = (w.alloc (.cells #[.slice p.na p.nl p.nc, .slice p.wa p.wl p.wc] 25)).alloc (.cells #[.int .i64 0, .string ⟨#[]⟩, .int .i64 0, .slice none 0 0] 33) := ⟨_, rfl⟩
  have hWs : W.heap.size = w.heap.size + 2 := by rw [hW]; simp
  have HB : Hid (Below w.heap.size w W) := by rw [hW]; exact below_alloc (below_alloc (Below.refl _ _) _) _
  have HZ : Hid (Blk W (w.heap.size + 1) 33 zeroT) := by rw [hW]; exact blk_new (by simp)
  have HPW := hidIn (HP.out.below HB.out)
  have HWS := hidIn hWs
  rw [← hW]
  clear hW hWs
  refine (contract_any p W HPW.out).mono ?_
  rintro e w1 ⟨v, rfl, ht1, hb1⟩
  have ht1' := ht1
  obtain ⟨ka, kc, rfl, _, _, _⟩ := ht1'
  have HT1 := hidIn ht1
  have HB1 := hidIn hb1
  clear ht1 hb1
  generalize hC : conP p = c at *
  clear hC
  go_wp2_with fail
  obtain ⟨w2, hw2⟩ : ∃ w2, w2 = w1.alloc (.cells (four (plainC c) ka kc) 33) := ⟨_, rfl⟩
  have HB2 : Hid (Below W.heap.size W w2) := by rw [hw2]; exact below_alloc HB1.out _
  have HT2 : Hid (TIn w2 W.heap.size (plainC c) (.agg (four (plainC c) ka kc))) := by rw [hw2]; exact HT1.out.below (below_alloc (Below.refl _ _) _)
  have HK2 : Hid (Blk w2 w1.heap.size 33 (four (plainC c) ka kc)) := by rw [hw2]; exact blk_new rfl
  unfold four at hw2
  rw [← hw2]
  clear hw2 HT1
  refine (refCheckC_any c HOK.out (by have := HWT.out; omega) w2 _ _ HT2.out).mono ?_
  rintro e w3 ⟨rfl, hb3⟩
  have HB3 := hidIn (HB2.out.trans (hb3.mono HB2.out.size))
  have HT3 := hidIn (HT2.out.below hb3)
  have hk3 : Blk w3 w1.heap.size 33 (four (plainC c) ka kc) := HK2.out.below hb3 HK2.out.lt
  obtain ⟨q0, q1, q2, q3⟩ := four_cells hk3
  have HZ3 : Hid (Blk w3 (w.heap.size + 1) 33 zeroT) := HZ.out.below HB3.out HZ.out.lt
  obtain ⟨⟨z0, z1, z2, z3⟩, f0, f1, f2, f3⟩ := blk_zero HZ3.out
  have hne : ¬ w.heap.size + 1 = w1.heap.size := by have := HWS.out; have := HB1.out.size; omega
  have HBE : Hid (Below w.heap.size w w3) := HB.out.trans (HB3.out.mono HB.out.size)
  clear hb3 hk3 HK2 HT2
  by_cases h0 : chkC c = 0
  · have h0' : (chkC c == 0) = true := by simp [h0]
    have HR : Hid (rightP p = c) := by unfold Hid; rw [HRP.out, if_pos h0]
    rw [h0]
    clear h0
    go_wp2_with fail
    refine bodyPost_ret (results_cell_row rfl _ _ (w.heap.size + 1) 33 #[.int .i64 (plainC c).kind, .string (plainC c).s, .int .i64 (plainC c).n, .slice ka (plainC c).k.length kc] (0, 0) _ rfl (set4_blk HZ3.out _ _ _ _) Tryz.underlying33 rfl infoT) rfl ?_
    refine ⟨_, rfl, ?_, (((HBE.out.setCell (Nat.le_succ _) _).setCell (Nat.le_succ _) _).setCell (Nat.le_succ _) _).setCell (Nat.le_succ _) _⟩
    rw [HR.out]
    exact (HT3.out.set4 (R := w.heap.size + 1) (by have := HWS.out; omega) _ _ _ _).low (by have := HWS.out; omega)
  · have h0' : (chkC c == 0) = false := by rw [beq_eq_false_iff_ne]; exact h0
    have HR : Hid (rightP p = .one ⟨#[117, 115, 100]⟩) := by unfold Hid; rw [HRP.out, if_neg h0]
    go_wp2_with fail
    refine bodyPost_ret (results_cell_row rfl _ _ (w.heap.size + 1) 33 #[.int .i64 2, .string ⟨#[117, 115, 100]⟩, .int .i64 0, .slice none 0 0] (0, 0) _ rfl (set4_blk HZ3.out _ _ _ _) Tryz.underlying33 rfl infoT) rfl ?_
    refine ⟨_, rfl, ?_, (((HBE.out.setCell (Nat.le_succ _) _).setCell (Nat.le_succ _) _).setCell (Nat.le_succ _) _).setCell (Nat.le_succ _) _⟩
    rw [HR.out]
    exact tin_leaf _ _ _ _ _

end Go.Proofs.YtkioolbjmcpjpaaGreatDoor
namespace Go.Proofs.YtkioolbjmcpjpaaGreatDoor
open Go.RowKit
set_option linter.unusedVariables false

theorem plain_text (o : O) (h : formB o = true) : textT (plain o) = textO o := by
  induction o with
  | const n => simp [plain, textT, textO]
  | fix s => simp [plain, textT, textTL, textO, headP]; rfl
  | add l r h1 h2 => simp only [formB, Bool.and_eq_true] at h; simp [plain, textT, textTL, textO, headP, h1 h.1, h2 h.2]; rfl
  | mul l r h1 h2 => simp only [formB, Bool.and_eq_true] at h; simp [plain, textT, textTL, textO, headP, h1 h.1, h2 h.2]; rfl
  | max l r h1 h2 => simp only [formB, Bool.and_eq_true] at h; simp [plain, textT, textTL, textO, headP, h1 h.1, h2 h.2]; rfl
  | neg o h1 => simp [plain, textT, textTL, textO, headP, h1 h]; rfl
  | odd v => cases h
theorem plainC_text (c : C) (h : formC c = true) : textT (plainC c) = textC c := by
  induction c with
  | zero => simp [plainC, textT, textC]
  | one s => simp [plainC, textT, textTL, textC, headP]; rfl
  | give c h1 => simp [plainC, textT, textTL, textC, headP, h1 h]; rfl
  | and l r h1 h2 => simp only [formC, Bool.and_eq_true] at h; simp [plainC, textT, textTL, textC, headP, h1 h.1, h2 h.2]; rfl
  | or s l r h1 h2 => simp only [formC, Bool.and_eq_true] at h; simp [plainC, textT, textTL, textC, headP, h1 h.1.2, h2 h.2]; rfl
  | scale o c h1 => simp only [formC, Bool.and_eq_true] at h; simp [plainC, textT, textTL, textC, headP, plain_text o h.1, h1 h.2]; rfl
  | when d c h1 => simp only [formC, Bool.and_eq_true] at h; simp [plainC, textT, textTL, textC, headP, h1 h.2]; rfl
  | iff o l r h1 h2 => simp only [formC, Bool.and_eq_true] at h; simp [plainC, textT, textTL, textC, headP, plain_text o h.1.1, h1 h.1.2, h2 h.2]; rfl
  | odd v => cases h
theorem plain_wk (o : O) (k : o.Ok) : (plain o).wk := by
  induction o with
  | const n => have := k; simp only [O.Ok] at this; simp [plain, T.wk, wkL]; omega
  | fix s => simp [plain, T.wk, wkL]
  | add l r h1 h2 => simp [plain, T.wk, wkL, h1 k.1, h2 k.2]
  | mul l r h1 h2 => simp [plain, T.wk, wkL, h1 k.1, h2 k.2]
  | max l r h1 h2 => simp [plain, T.wk, wkL, h1 k.1, h2 k.2]
  | neg o h1 => simp [plain, T.wk, wkL, h1 k]
  | odd v => simp [plain, T.wk, wkL]
theorem plainC_wk (c : C) (k : c.Ok) : (plainC c).wk := by
  induction c with
  | zero => simp [plainC, T.wk, wkL]
  | one s => simp [plainC, T.wk, wkL]
  | give c h1 => simp [plainC, T.wk, wkL, h1 k]
  | and l r h1 h2 => simp [plainC, T.wk, wkL, h1 k.1, h2 k.2]
  | or s l r h1 h2 => simp [plainC, T.wk, wkL, h1 k.2.1, h2 k.2.2]
  | scale o c h1 => simp [plainC, T.wk, wkL, plain_wk o k.1, h1 k.2]
  | when d c h1 => have := k.1; simp [plainC, T.wk, wkL, h1 k.2]; omega
  | iff o l r h1 h2 => simp [plainC, T.wk, wkL, plain_wk o k.1, h1 k.2.1, h2 k.2.2]
  | odd v => simp [plainC, T.wk, wkL]

set_option maxHeartbeats 1000000 in
set_option maxRecDepth 100000 in
theorem refWriteC_any (c : C) (hok : c.Ok) (hwt : c.weight ≤ 300000) (w : World) (v : Value) (ht : TIn w 0 (plainC c) v) : Calls Tryz.prog 46 #[v, .bool false] w fun e w' => e = .returned (.tuple #[.string (wTextC c), .int .i64 (wErrC c)]) ∧ Below w.heap.size w w' := by
  have HW : Hid (chkC c = 0 → (textC c).size ≤ 70368744177664 ∧ ∀ (w : World) (v : Value), TIn w 0 (plainC c) v → Calls Tryz.prog 82 #[v] w fun e w' => e = .returned (.string (textC c)) ∧ Below w.heap.size w w') := fun h => by
    have hz := chkC_zero h
    have hn := formC_neat c hok hz.1
    have hs : (textC c).size ≤ 70368744177664 := Nat.le_trans (textC_size _ c hn) (by omega)
    refine ⟨hs, ?_⟩
    have h2 := refText_any (plainC c) (plainC_wk c hok)
    rw [plainC_text c hz.1] at h2
    exact h2 hs
  have HR : Hid (wTextC c = if chkC c = 0 then (if 1000 < (textC c).size then ⟨#[]⟩ else textC c) else ⟨#[]⟩) := rfl
  have HE : Hid (wErrC c = if chkC c = 0 then (if 1000 < (textC c).size then 5 else 0) else chkC c) := rfl
  have HK : Hid (∀ (w : World) (v : Value), TIn w 0 (plainC c) v → Calls Tryz.prog 50 #[v, .bool false] w fun e w' => e = .returned (.int .i64 (chkC c)) ∧ Below w.heap.size w w') := fun w v h => refCheckC_any c hok hwt w v 0 h
  have HV := hidIn ht
  obtain ⟨a, cap, rfl, _, _, _⟩ := ht
  generalize wTextC c = rt at *
  generalize wErrC c = re at *
  clear hok hwt
  go_enter Tryz.func46, Tryz.ntmps46
  go_wp2_with fail
  have HB0 : Hid (Below w.heap.size w (w.alloc (.cells #[.int .i64 (plainC c).kind, .string (plainC c).s, .int .i64 (plainC c).n, .slice a (plainC c).k.length cap] 33))) := below_alloc (Below.refl _ _) _
  refine (HK.out _ _ (HV.out.below HB0.out)).mono ?_
  rintro e w1 ⟨rfl, hb1⟩
  have HB1 : Hid (Below w.heap.size w w1) := HB0.out.trans (hb1.mono (by simp))
  have hcells : ∀ j, j < 4 → w1.cell? ⟨w.heap.size, j, none⟩ = (#[.int .i64 (plainC c).kind, .string (plainC c).s, .int .i64 (plainC c).n, .slice a (plainC c).k.length cap] : Array Value)[j]? := fun j hj => (cell_of_row _ _ _ _ _ _ ((hb1.block _ (by simp)).trans (heap_alloc_new _ _)))
  have k0 := hcells 0 (by decide)
  have k1 := hcells 1 (by decide)
  have k2 := hcells 2 (by decide)
  have k3 := hcells 3 (by decide)
  simp at k0 k1 k2 k3
  have HV1 := hidIn (HV.out.below HB1.out)
  clear hb1 hcells
  by_cases h0 : chkC c = 0
  · obtain ⟨hs, hw⟩ := HW.out h0
    have HW1 := hidIn hw
    clear hw
    have H1 := HR.out
    have H2 := HE.out
    rw [if_pos h0] at H1 H2
    have HH1 := hidIn H1
    have HH2 := hidIn H2
    clear H1 H2 HR HE
    rw [h0]
    clear h0
    go_wp2_with fail
    refine (HW1.out w1 _ HV1.out).mono ?_
    rintro e w2 ⟨rfl, hb2⟩
    have HB2 := hidIn (HB1.out.trans (hb2.mono HB1.out.size))
    clear hb2 k0 k1 k2 k3 HW1 HV1
    by_cases h1 : 1000 < (textC c).size
    · have h1' : (1000 : Int) < ((textC c).size : Int) := by omega
      rw [if_pos h1] at HH1 HH2
      go_wp2_with fail
      go_ret2
      exact ⟨by rw [HH1.out, HH2.out]; rfl, HB2.out⟩
    · have h1' : ¬ (1000 : Int) < ((textC c).size : Int) := by omega
      rw [if_neg h1] at HH1 HH2
      go_wp2_with fail
      go_ret2
      exact ⟨by rw [HH1.out, HH2.out]; rfl, HB2.out⟩
  · obtain ⟨n, hn⟩ : ∃ n, chkC c = n := ⟨_, rfl⟩
    have H1 := HR.out
    have H2 := HE.out
    rw [if_neg h0] at H1 H2
    rw [hn] at h0 H2
    rw [hn]
    clear k0 k1 k2 k3
    go_wp2_with fail
    go_ret2
    exact ⟨by rw [H1, H2]; rfl, HB1.out⟩

set_option maxHeartbeats 1000000 in
set_option maxRecDepth 100000 in
theorem refWriteO_any (c : O) (hok : c.Ok) (hwt : c.nodes ≤ 1000) (w : World) (v : Value) (ht : TIn w 0 (plain c) v) : Calls Tryz.prog 46 #[v, .bool true] w fun e w' => e = .returned (.tuple #[.string (wText c), .int .i64 (wErr c)]) ∧ Below w.heap.size w w' := by
  have HW : Hid (chk c = 0 → (textO c).size ≤ 70368744177664 ∧ ∀ (w : World) (v : Value), TIn w 0 (plain c) v → Calls Tryz.prog 82 #[v] w fun e w' => e = .returned (.string (textO c)) ∧ Below w.heap.size w w') := fun h => by
    have hz := chk_zero h
    have hn := formB_neat c hok hz.1
    have hs : (textO c).size ≤ 70368744177664 := Nat.le_trans (textO_size _ c hn) (by omega)
    refine ⟨hs, ?_⟩
    have h2 := refText_any (plain c) (plain_wk c hok)
    rw [plain_text c hz.1] at h2
    exact h2 hs
  have HR : Hid (wText c = if chk c = 0 then (if 1000 < (textO c).size then ⟨#[]⟩ else textO c) else ⟨#[]⟩) := rfl
  have HE : Hid (wErr c = if chk c = 0 then (if 1000 < (textO c).size then 5 else 0) else chk c) := rfl
  have HK : Hid (∀ (w : World) (v : Value), TIn w 0 (plain c) v → Calls Tryz.prog 50 #[v, .bool true] w fun e w' => e = .returned (.int .i64 (chk c)) ∧ Below w.heap.size w w') := fun w v h => by
    have h2 := refCheck_any (plain c) (plain_sized c hok) (by have := plain_cnt c; omega) (by rw [plain_nodes]; omega) true w v h
    rw [plain_chk] at h2
    exact h2
  have HV := hidIn ht
  obtain ⟨a, cap, rfl, _, _, _⟩ := ht
  generalize wText c = rt at *
  generalize wErr c = re at *
  clear hok hwt
  go_enter Tryz.func46, Tryz.ntmps46
  go_wp2_with fail
  have HB0 : Hid (Below w.heap.size w (w.alloc (.cells #[.int .i64 (plain c).kind, .string (plain c).s, .int .i64 (plain c).n, .slice a (plain c).k.length cap] 33))) := below_alloc (Below.refl _ _) _
  refine (HK.out _ _ (HV.out.below HB0.out)).mono ?_
  rintro e w1 ⟨rfl, hb1⟩
  have HB1 : Hid (Below w.heap.size w w1) := HB0.out.trans (hb1.mono (by simp))
  have hcells : ∀ j, j < 4 → w1.cell? ⟨w.heap.size, j, none⟩ = (#[.int .i64 (plain c).kind, .string (plain c).s, .int .i64 (plain c).n, .slice a (plain c).k.length cap] : Array Value)[j]? := fun j hj => (cell_of_row _ _ _ _ _ _ ((hb1.block _ (by simp)).trans (heap_alloc_new _ _)))
  have k0 := hcells 0 (by decide)
  have k1 := hcells 1 (by decide)
  have k2 := hcells 2 (by decide)
  have k3 := hcells 3 (by decide)
  simp at k0 k1 k2 k3
  have HV1 := hidIn (HV.out.below HB1.out)
  clear hb1 hcells
  by_cases h0 : chk c = 0
  · obtain ⟨hs, hw⟩ := HW.out h0
    have HW1 := hidIn hw
    clear hw
    have H1 := HR.out
    have H2 := HE.out
    rw [if_pos h0] at H1 H2
    have HH1 := hidIn H1
    have HH2 := hidIn H2
    clear H1 H2 HR HE
    rw [h0]
    clear h0
    go_wp2_with fail
    refine (HW1.out w1 _ HV1.out).mono ?_
    rintro e w2 ⟨rfl, hb2⟩
    have HB2 := hidIn (HB1.out.trans (hb2.mono HB1.out.size))
    clear hb2 k0 k1 k2 k3 HW1 HV1
    by_cases h1 : 1000 < (textO c).size
    · have h1' : (1000 : Int) < ((textO c).size : Int) := by omega
      rw [if_pos h1] at HH1 HH2
      go_wp2_with fail
      go_ret2
      exact ⟨by rw [HH1.out, HH2.out]; rfl, HB2.out⟩
    · have h1' : ¬ (1000 : Int) < ((textO c).size : Int) := by omega
      rw [if_neg h1] at HH1 HH2
      go_wp2_with fail
      go_ret2
      exact ⟨by rw [HH1.out, HH2.out]; rfl, HB2.out⟩
  · obtain ⟨n, hn⟩ : ∃ n, chk c = n := ⟨_, rfl⟩
    have H1 := HR.out
    have H2 := HE.out
    rw [if_neg h0] at H1 H2
    rw [hn] at h0 H2
    rw [hn]
    clear k0 k1 k2 k3
    go_wp2_with fail
    go_ret2
    exact ⟨by rw [H1, H2]; rfl, HB1.out⟩

end Go.Proofs.YtkioolbjmcpjpaaGreatDoor
namespace Go.Proofs.YtkioolbjmcpjpaaGreatDoor.Mx
open Go.RowKit
set_option linter.unusedVariables false

section
variable {P : Program} {ops : Array Oper} {md : Region.Mode} {C : World → Prop}

/-- An operation run to its end. -/
def uponK (P : Program) (K : Value → World → Prop) (w : World) : Result Next → Prop
  | .ok (.value u) w' => K u w'
  | .ok .skip w' => K undef w'
  | .ok (.enter f args) w' => w' = w ∧ Calls P f args w (fun e w'' => ∃ v, e = .returned v ∧ K v w'')
  | _ => False
def stepK (P : Program) (o : Oper) (a : Act) (w : World) (K : Value → World → Prop) : Prop := uponK P K w ((execOp a.eval o).run P w)
theorem stepK_mono {o : Oper} {a : Act} {w : World} {K K' : Value → World → Prop} (h : ∀ u w', K u w' → K' u w') (hh : stepK P o a w K) : stepK P o a w K' := by
  unfold stepK at *
  generalize (execOp a.eval o).run P w = r at *
  cases r with
  | ok n w' =>
    cases n <;> simp only [uponK] at hh ⊢
    case value u => exact h _ _ hh
    case skip => exact h _ _ hh
    case enter f args => exact ⟨hh.1, hh.2.mono fun e w'' ⟨v, he, hk⟩ => ⟨v, he, h _ _ hk⟩⟩
  | halt x w' => simp only [uponK] at hh
theorem wp_of_stepK {o : Oper} {a : Act} {w : World} {K : Act → World → Prop} {Q : Exit → Act → World → Prop} (hh : stepK P o a w (fun u w' => K (a.put o.dst u) w')) : o.wp P a w K Q := by
  unfold stepK at hh
  unfold Oper.wp
  generalize (execOp a.eval o).run P w = r at *
  cases r with
  | ok n w' =>
    cases n <;> simp only [uponK] at hh <;> simp only [Oper.upon]
    case value u => exact hh
    case skip => exact hh
    case enter f args =>
      obtain ⟨e1, hc⟩ := hh
      rw [e1]
      refine hc.mono fun e w'' ⟨v, he, hk⟩ => ?_
      subst he
      exact hk
  | halt x w' => simp only [uponK] at hh
def wpAnyC (P : Program) (md : Region.Mode) (ops : Array Oper) (C : World → Prop) (Q : Act → World → Prop) : Nat → Array Bool → Act → World → Prop
  | 0, listed, a, w => C w ∧ Region.ready md ops listed = [] ∧ Q a w
  | fuel + 1, listed, a, w => C w ∧ Region.ready md ops listed ≠ [] ∧ ∀ i ∈ Region.ready md ops listed, ∀ o, ops[i]? = some o →
      Region.wanted o (yielded ops a.tmps) = true ∧ stepK P o a w (fun u w' => wpAnyC P md ops C Q fuel (listed.setIfInBounds i true) (a.put o.dst u) w')
theorem wpAnyC_c {Q : Act → World → Prop} : ∀ {fuel : Nat} {listed : Array Bool} {a : Act} {w : World}, wpAnyC P md ops C Q fuel listed a w → C w
  | 0, _, _, _, h => h.1
  | _ + 1, _, _, _, h => h.1
theorem any_of_C {Q : Act → World → Prop} {Q' : Exit → Act → World → Prop} (hQ : ∀ a w, Q a w → Q' .normal a w) : ∀ (fuel : Nat) (listed : Array Bool) (a : Act) (w : World), wpAnyC P md ops C Q fuel listed a w → wpAny P md ops Q' fuel listed a w
  | 0, _, _, _, h => ⟨h.2.1, hQ _ _ h.2.2⟩
  | fuel + 1, listed, a, w, h => ⟨fun h0 => absurd h0 h.2.1, fun i hi => by
      obtain ⟨_, o, ho, _⟩ := mem_ready.1 hi
      obtain ⟨h1, h2⟩ := h.2.2 i hi o ho
      unfold wpOp
      simp only [ho]
      rw [if_pos h1]
      exact .inl (wp_of_stepK (stepK_mono (fun u w' hk => any_of_C hQ fuel _ _ w' hk) h2))⟩
theorem first {Q : Act → World → Prop} {i : Nat} {oi : Oper} {u : Value} (hi : ops[i]? = some oi) (hsel : ∀ (j : Nat) (o : Oper) cs b, ops[j]? = some o → o.op ≠ .select cs b) :
    ∀ (fuel : Nat) (listed : Array Bool) (a : Act) (w : World),
      (∀ j oj, ops[j]? = some oj → j ≠ i → listed.getD j true = false → (∀ e ∈ oj.after, Region.binds md e = true → e.on ≠ i) → oi.apart ops oj = true) →
      i ∈ Region.ready md ops listed → Region.wanted oi (yielded ops a.tmps) = true → (∀ w, C w → (execOp a.eval oi).run P w = .ok (.value u) w) →
      wpAnyC P md ops C Q fuel (listed.setIfInBounds i true) (a.put oi.dst u) w → wpAnyC P md ops C Q (fuel + 1) listed a w := by
  intro fuel
  induction fuel with
  | zero =>
    intro listed a w hfree hr hw hst h
    refine ⟨h.1, fun h0 => (by rw [h0] at hr; cases hr), fun j hj o ho => ?_⟩
    by_cases hji : j = i
    · subst hji
      rw [hi] at ho
      cases ho
      refine ⟨hw, ?_⟩
      unfold stepK
      rw [hst w h.1]
      exact h
    · have := ready_mono hj hji
      rw [h.2.1] at this
      cases this
  | succ fuel ih =>
    intro listed a w hfree hr hw hst h
    refine ⟨h.1, fun h0 => (by rw [h0] at hr; cases hr), fun j hj oj hoj => ?_⟩
    by_cases hji : j = i
    · subst hji
      rw [hi] at hoj
      cases hoj
      refine ⟨hw, ?_⟩
      unfold stepK
      rw [hst w h.1]
      exact h
    · obtain ⟨h1, h2⟩ := h.2.2 j (ready_mono hj hji) oj hoj
      obtain ⟨hjun, oj', hoj', hall⟩ := mem_ready.1 hj
      rw [hoj] at hoj'
      cases hoj'
      have hnot : ∀ e ∈ oj.after, Region.binds md e = true → e.on ≠ i := fun e he hb heq => by
        have h1 := hall e he hb
        have h0 := (mem_ready.1 hr).1
        rw [heq] at h1
        rcases Nat.lt_or_ge i listed.size with h' | h'
        · simp [h'] at h0 h1; rw [h0] at h1; cases h1
        · simp [Array.getElem?_eq_none h'] at h1
      obtain ⟨p1, p2, p3⟩ := Oper.apart_spec (hfree j oj hoj hji hjun hnot)
      have hfree' : ∀ k ok, ops[k]? = some ok → k ≠ i → (listed.setIfInBounds j true).getD k true = false →
          (∀ e ∈ ok.after, Region.binds md e = true → e.on ≠ i) → oi.apart ops ok = true := fun k ok hk hki hun hno => by
        refine hfree k ok hk hki ?_ hno
        by_cases hjk : j = k
        · subst hjk; exact hjun
        · rw [getD_set_ne true hjk] at hun; exact hun
      refine ⟨by rw [wanted_put oj a oi.dst u p1] at h1; exact h1, ?_⟩
      unfold stepK at h2 ⊢
      rw [execOp_put oj (fun cs b => hsel j oj cs b hoj) a oi.dst u p1] at h2
      refine stepK_mono (o := oj) (a := a) (w := w) (fun v w' hk => ?_) h2
      refine ih (listed.setIfInBounds j true) (a.put oj.dst v) w' hfree' (ready_mono hr (Ne.symm hji)) ?_ ?_ ?_
      · rw [wanted_put oi a oj.dst v p3]; exact hw
      · intro w hw
        rw [execOp_put oi (fun cs b => hsel i oi cs b hi) a oj.dst v p3]
        exact hst w hw
      · rw [Array.setIfInBounds_comm _ _ hji, ← Act.put_comm a u v p2]
        exact hk
/-- The order of the one walk: which comes when, and whether it comes alone. -/
def planB (md : Region.Mode) (ops : Array Oper) : List (Nat × Bool) → Array Bool → Bool
  | [], listed => (Region.ready md ops listed).isEmpty
  | (i, al) :: r, listed => (Region.ready md ops listed).contains i && (if al then (Region.ready md ops listed).all (· == i) else Region.free md ops listed i) && planB md ops r (listed.setIfInBounds i true)
def mix (P : Program) (ops : Array Oper) (C : World → Prop) (Q : Act → World → Prop) : List (Oper × Bool) → Act → World → Prop
  | [], a, w => C w → Q a w
  | (o, true) :: r, a, w => Region.wanted o (yielded ops a.tmps) = true ∧ stepK P o a w (fun u w' => C w' ∧ mix P ops C Q r (a.put o.dst u) w')
  | (o, false) :: r, a, w => Region.wanted o (yielded ops a.tmps) = true ∧ ∃ u, (∀ w, C w → (execOp a.eval o).run P w = .ok (.value u) w) ∧ mix P ops C Q r (a.put o.dst u) w
theorem C_of_mix {Q : Act → World → Prop} (hs : Region.noSelect ops = true) : ∀ (plan : List (Nat × Bool)) (L : List (Oper × Bool)) (listed : Array Bool) (a : Act) (w : World), plan.map (fun p => ((ops[p.1]?), p.2)) = L.map (fun q => (some q.1, q.2)) →
    planB md ops plan listed = true → C w → mix P ops C Q L a w → wpAnyC P md ops C Q plan.length listed a w
  | [], L, listed, a, w, hL, hB, hC, h => by
    cases L with
    | nil => exact ⟨hC, by simpa [planB] using hB, h hC⟩
    | cons q L => simp at hL
  | (i, al) :: r, L, listed, a, w, hL, hB, hC, h => by
    cases L with
    | nil => simp at hL
    | cons q L =>
      obtain ⟨o, al'⟩ := q
      simp only [List.map_cons, List.cons.injEq, Prod.mk.injEq] at hL
      obtain ⟨⟨ho, rfl⟩, hL'⟩ := hL
      simp only [planB, Bool.and_eq_true] at hB
      obtain ⟨⟨hr, hf⟩, hB'⟩ := hB
      have hr' : i ∈ Region.ready md ops listed := by simpa using hr
      cases al with
      | true =>
        simp only [if_true, List.all_eq_true, beq_iff_eq] at hf
        obtain ⟨h1, h2⟩ := h
        refine ⟨hC, fun h0 => (by rw [h0] at hr'; cases hr'), fun j hj oj hoj => ?_⟩
        have hji := hf j hj
        subst hji
        rw [ho] at hoj
        cases hoj
        exact ⟨h1, stepK_mono (fun u w' hk => C_of_mix hs r L _ _ w' hL' hB' hk.1 hk.2) h2⟩
      | false =>
        simp only [Bool.false_eq_true, if_false] at hf
        obtain ⟨h1, u, h2, h3⟩ := h
        exact first ho (Region.noSelect_spec hs) r.length listed a w (Region.free_spec ho hf) hr' h1 h2 (C_of_mix hs r L _ _ w hL' hB' hC h3)
/-- One walk serves every order. -/
theorem wp_region_mix {id : Nat} {Q : Exit → Act → World → Prop} {a : Act} {w : World} {l : List Oper} (C : World → Prop) (plan : List (Nat × Bool)) (hm : P.follows .mixedOrders = true)
    (hB : (Region.noSelect l.toArray && planB .any l.toArray plan (Array.replicate l.length false) && plan.length == l.length) = true) (hC : C w.drew)
    (h : mix P l.toArray C (fun a w => Q .normal a w) (plan.map fun p => (l.getD p.1 default, p.2)) a w.drew) (hin : plan.all (fun p => p.1 < l.length) = true) : (Code.region id l.toArray true).wp P Q a w := by
  simp only [Bool.and_eq_true, beq_iff_eq] at hB
  refine wp_region_any hm (any_of_C (C := C) (Q := fun a w => Q .normal a w) (fun _ _ h => h) _ _ _ _ ?_)
  have := C_of_mix (C := C) (md := .any) hB.1.1 plan _ (Array.replicate l.length false) a w.drew (by
    rw [List.map_map]
    apply List.map_congr_left
    intro p hp
    have hlt : p.1 < l.length := by simpa using List.all_eq_true.1 hin p hp
    simp [List.getD, List.getElem?_eq_getElem hlt]) hB.1.2 hC h
  rw [hB.2] at this
  simpa using this
variable {Q : Act → World → Prop}
/-- What only reads what stays. -/
theorem m_pure {o : Oper} {r : List (Oper × Bool)} {a : Act} {w : World} (v : Value) (hw : Region.wanted o (yielded ops a.tmps) = true) (h : ∀ w, C w → (execOp a.eval o).run P w = .ok (.value v) w) (hk : mix P ops C Q r (a.put o.dst v) w) : mix P ops C Q ((o, false) :: r) a w := ⟨hw, v, h, hk⟩
/-- A call. -/
theorem m_call {o : Oper} {r : List (Oper × Bool)} {a : Act} {w : World} (f : FuncId) (args : Array Value) (hw : Region.wanted o (yielded ops a.tmps) = true) (h : (execOp a.eval o).run P w = .ok (.enter f args) w)
    (hc : Calls P f args w (fun e w' => ∃ v, e = .returned v ∧ C w' ∧ mix P ops C Q r (a.put o.dst v) w')) : mix P ops C Q ((o, true) :: r) a w := by
  refine ⟨hw, ?_⟩
  unfold stepK
  rw [h]
  exact ⟨rfl, hc⟩
/-- An operation that comes alone. -/
theorem m_run {o : Oper} {r : List (Oper × Bool)} {a : Act} {w w' : World} (v : Value) (hw : Region.wanted o (yielded ops a.tmps) = true) (h : (execOp a.eval o).run P w = .ok (.value v) w') (hC : C w') (hk : mix P ops C Q r (a.put o.dst v) w') : mix P ops C Q ((o, true) :: r) a w := by
  refine ⟨hw, ?_⟩
  unfold stepK
  rw [h]
  exact ⟨hC, hk⟩
theorem m_nil {a : Act} {w : World} (h : C w → Q a w) : mix P ops C Q [] a w := h
theorem wanted_none {o : Oper} {y : Nat → Option Bool} (hg : o.guard = none) : Region.wanted o y = true := by unfold Region.wanted; rw [hg]
theorem wanted_met {ops : Array Oper} {a : Act} {o : Oper} (j d : Nat) (want : Bool) (hg : o.guard = some (j, want)) (hd : (ops[j]?).bind (·.dst) = some d) (hv : a.tmps[d]? = some (.bool want)) : Region.wanted o (yielded ops a.tmps) = true := by
  unfold Region.wanted yielded
  rw [hg]
  simp only [hd, Option.bind_some, hv]
  simp
end

end Go.Proofs.YtkioolbjmcpjpaaGreatDoor.Mx
namespace Go.Proofs.YtkioolbjmcpjpaaGreatDoor.Mx
open Go.RowKit
set_option linter.unusedVariables false

section
variable {P : Program} {ops : Array Oper} {md : Region.Mode} {C : World → Prop}
def wpAny3 (P : Program) (md : Region.Mode) (ops : Array Oper) (C : World → Prop) (C2 : World → Prop) (jj : Nat) (Q : Act → World → Prop) : Nat → Array Bool → Act → World → Prop
  | 0, listed, a, w => (C w ∧ (listed.getD jj false = true → C2 w)) ∧ Region.ready md ops listed = [] ∧ Q a w
  | fuel + 1, listed, a, w => (C w ∧ (listed.getD jj false = true → C2 w)) ∧ Region.ready md ops listed ≠ [] ∧ ∀ i ∈ Region.ready md ops listed, ∀ o, ops[i]? = some o →
      (Region.wanted o (yielded ops a.tmps) = true ∧ stepK P o a w (fun u w' => wpAny3 P md ops C C2 jj Q fuel (listed.setIfInBounds i true) (a.put o.dst u) w')) ∨
      (Region.wanted o (yielded ops a.tmps) = false ∧ wpAny3 P md ops C C2 jj Q fuel (listed.setIfInBounds i true) (a.put o.dst undef) w)
theorem any_of_3 {C2 : World → Prop} {jj : Nat} {Q : Act → World → Prop} {Q' : Exit → Act → World → Prop} (hQ : ∀ a w, Q a w → Q' .normal a w) : ∀ (fuel : Nat) (listed : Array Bool) (a : Act) (w : World), wpAny3 P md ops C C2 jj Q fuel listed a w → wpAny P md ops Q' fuel listed a w
  | 0, _, _, _, h => ⟨h.2.1, hQ _ _ h.2.2⟩
  | fuel + 1, listed, a, w, h => ⟨fun h0 => absurd h0 h.2.1, fun i hi => by
      obtain ⟨_, o, ho, _⟩ := mem_ready.1 hi
      unfold wpOp
      simp only [ho]
      rcases h.2.2 i hi o ho with ⟨h1, h2⟩ | ⟨h1, h2⟩
      · rw [if_pos h1]
        exact .inl (wp_of_stepK (stepK_mono (fun u w' hk => any_of_3 hQ fuel _ _ w' hk) h2))
      · rw [if_neg (by rw [h1]; decide)]
        exact any_of_3 hQ fuel _ _ w h2⟩
theorem first3 {C2 : World → Prop} {jj : Nat} {Q : Act → World → Prop} {i : Nat} {oi : Oper} {u : Value} (hi : ops[i]? = some oi) (hsel : ∀ (j : Nat) (o : Oper) cs b, ops[j]? = some o → o.op ≠ .select cs b) :
    ∀ (fuel : Nat) (listed : Array Bool) (a : Act) (w : World),
      (∀ j oj, ops[j]? = some oj → j ≠ i → listed.getD j true = false → (∀ e ∈ oj.after, Region.binds md e = true → e.on ≠ i) → oi.apart ops oj = true) →
      i ∈ Region.ready md ops listed → ((Region.wanted oi (yielded ops a.tmps) = true ∧ ∀ w, C w → (listed.getD jj false = true → C2 w) → stepK P oi a w (fun u' w' => u' = u ∧ w' = w)) ∨ (Region.wanted oi (yielded ops a.tmps) = false ∧ u = undef)) → i ≠ jj →
      wpAny3 P md ops C C2 jj Q fuel (listed.setIfInBounds i true) (a.put oi.dst u) w → wpAny3 P md ops C C2 jj Q (fuel + 1) listed a w := by
  intro fuel
  induction fuel with
  | zero =>
    intro listed a w hfree hr hst hij h
    have hc : C w ∧ (listed.getD jj false = true → C2 w) := ⟨h.1.1, fun x => h.1.2 (by rw [getD_set_ne false hij]; exact x)⟩
    refine ⟨hc, fun h0 => (by rw [h0] at hr; cases hr), fun j hj o ho => ?_⟩
    by_cases hji : j = i
    · subst hji
      rw [hi] at ho
      cases ho
      rcases hst with ⟨hw, hst⟩ | ⟨hw, hu⟩
      · exact .inl ⟨hw, stepK_mono (fun u' w' hu => by rw [hu.1, hu.2]; exact h) (hst w hc.1 hc.2)⟩
      · exact .inr ⟨hw, by rw [← hu]; exact h⟩
    · have := ready_mono hj hji
      rw [h.2.1] at this
      cases this
  | succ fuel ih =>
    intro listed a w hfree hr hst hij h
    have hc : C w ∧ (listed.getD jj false = true → C2 w) := ⟨h.1.1, fun x => h.1.2 (by rw [getD_set_ne false hij]; exact x)⟩
    refine ⟨hc, fun h0 => (by rw [h0] at hr; cases hr), fun j hj oj hoj => ?_⟩
    by_cases hji : j = i
    · subst hji
      rw [hi] at hoj
      cases hoj
      rcases hst with ⟨hw, hst⟩ | ⟨hw, hu⟩
      · exact .inl ⟨hw, stepK_mono (fun u' w' hu => by rw [hu.1, hu.2]; exact h) (hst w hc.1 hc.2)⟩
      · exact .inr ⟨hw, by rw [← hu]; exact h⟩
    · obtain ⟨hjun, oj', hoj', hall⟩ := mem_ready.1 hj
      rw [hoj] at hoj'
      cases hoj'
      have hnot : ∀ e ∈ oj.after, Region.binds md e = true → e.on ≠ i := fun e he hb heq => by
        have h1 := hall e he hb
        have h0 := (mem_ready.1 hr).1
        rw [heq] at h1
        rcases Nat.lt_or_ge i listed.size with h' | h'
        · simp [h'] at h0 h1; rw [h0] at h1; cases h1
        · simp [Array.getElem?_eq_none h'] at h1
      obtain ⟨p1, p2, p3⟩ := Oper.apart_spec (hfree j oj hoj hji hjun hnot)
      have hfree' : ∀ k ok, ops[k]? = some ok → k ≠ i → (listed.setIfInBounds j true).getD k true = false →
          (∀ e ∈ ok.after, Region.binds md e = true → e.on ≠ i) → oi.apart ops ok = true := fun k ok hk hki hun hno => by
        refine hfree k ok hk hki ?_ hno
        by_cases hjk : j = k
        · subst hjk; exact hjun
        · rw [getD_set_ne true hjk] at hun; exact hun
      have next : ∀ (v : Value) (w' : World), wpAny3 P md ops C C2 jj Q fuel ((listed.setIfInBounds i true).setIfInBounds j true) ((a.put oi.dst u).put oj.dst v) w' → wpAny3 P md ops C C2 jj Q (fuel + 1) (listed.setIfInBounds j true) (a.put oj.dst v) w' := fun v w' hk => by
        refine ih (listed.setIfInBounds j true) (a.put oj.dst v) w' hfree' (ready_mono hr (Ne.symm hji)) ?_ hij ?_
        · rw [wanted_put oi a oj.dst v p3]
          rcases hst with ⟨hw, hst⟩ | hst
          · refine .inl ⟨hw, fun w hw hw2 => ?_⟩
            have := hst w hw (fun x => hw2 (getD_set_true x))
            unfold stepK at this ⊢
            rw [execOp_put oi (fun cs b => hsel i oi cs b hi) a oj.dst v p3]
            exact this
          · exact .inr hst
        · rw [Array.setIfInBounds_comm _ _ hji, ← Act.put_comm a u v p2]
          exact hk
      rcases h.2.2 j (ready_mono hj hji) oj hoj with ⟨h1, h2⟩ | ⟨h1, h2⟩
      · refine .inl ⟨by rw [wanted_put oj a oi.dst u p1] at h1; exact h1, ?_⟩
        unfold stepK at h2 ⊢
        rw [execOp_put oj (fun cs b => hsel j oj cs b hoj) a oi.dst u p1] at h2
        exact stepK_mono (o := oj) (a := a) (w := w) (fun v w' hk => next v w' hk) h2
      · exact .inr ⟨by rw [wanted_put oj a oi.dst u p1] at h1; exact h1, next undef w h2⟩
/-- In the first phase C is known of each world; from operation jj on C2 as well. -/
def mix3 (P : Program) (ops : Array Oper) (C C2 : World → Prop) (jj : Nat) (Q : Act → World → Prop) : Bool → List (Oper × Nat × Bool) → Act → World → Prop
  | ph, [], a, w => C w → (ph = true → C2 w) → Q a w
  | ph, (o, i, true) :: r, a, w => Region.wanted o (yielded ops a.tmps) = true ∧ stepK P o a w (fun u w' => C w' ∧ ((ph || i == jj) = true → C2 w') ∧ mix3 P ops C C2 jj Q (ph || i == jj) r (a.put o.dst u) w')
  | ph, (o, i, false) :: r, a, w => i ≠ jj ∧ ∃ u, ((Region.wanted o (yielded ops a.tmps) = true ∧ ∀ w, C w → (ph = true → C2 w) → stepK P o a w (fun u' w' => u' = u ∧ w' = w)) ∨ (Region.wanted o (yielded ops a.tmps) = false ∧ u = undef)) ∧ mix3 P ops C C2 jj Q ph r (a.put o.dst u) w
theorem any3_of_mix {C2 : World → Prop} {jj : Nat} {Q : Act → World → Prop} (hs : Region.noSelect ops = true) : ∀ (plan : List (Nat × Bool)) (L : List (Oper × Nat × Bool)) (listed : Array Bool) (ph : Bool) (a : Act) (w : World), plan.map (fun p => (ops[p.1]?, p.1, p.2)) = L.map (fun q => (some q.1, q.2.1, q.2.2)) →
    planB md ops plan listed = true → listed.getD jj false = ph → jj < listed.size → C w → (ph = true → C2 w) → mix3 P ops C C2 jj Q ph L a w → wpAny3 P md ops C C2 jj Q plan.length listed a w
  | [], L, listed, ph, a, w, hL, hB, hp, hz, hC, hC2, h => by
    cases L with
    | nil => exact ⟨⟨hC, fun x => hC2 (by rw [← hp]; exact x)⟩, by simpa [planB] using hB, h hC hC2⟩
    | cons q L => simp at hL
  | (i, al) :: r, L, listed, ph, a, w, hL, hB, hp, hz, hC, hC2, h => by
    cases L with
    | nil => simp at hL
    | cons q L =>
      obtain ⟨o, i', al'⟩ := q
      simp only [List.map_cons, List.cons.injEq, Prod.mk.injEq] at hL
      obtain ⟨⟨ho, rfl, rfl⟩, hL'⟩ := hL
      simp only [planB, Bool.and_eq_true] at hB
      obtain ⟨⟨hr, hf⟩, hB'⟩ := hB
      have hr' : i ∈ Region.ready md ops listed := by simpa using hr
      have hz' : jj < (listed.setIfInBounds i true).size := by simpa using hz
      have hp' : (listed.setIfInBounds i true).getD jj false = (ph || i == jj) := by
        by_cases hij : i = jj
        · subst hij
          simp [hz]
        · rw [getD_set_ne false hij, hp]
          simp [hij]
      cases al with
      | true =>
        simp only [if_true, List.all_eq_true, beq_iff_eq] at hf
        obtain ⟨h1, h2⟩ := h
        refine ⟨⟨hC, fun x => hC2 (by rw [← hp]; exact x)⟩, fun h0 => (by rw [h0] at hr'; cases hr'), fun j hj oj hoj => ?_⟩
        have hji := hf j hj
        subst hji
        rw [ho] at hoj
        cases hoj
        exact .inl ⟨h1, stepK_mono (fun u w' hk => any3_of_mix hs r L _ _ _ w' hL' hB' hp' hz' hk.1 hk.2.1 hk.2.2) h2⟩
      | false =>
        simp only [Bool.false_eq_true, if_false] at hf
        obtain ⟨hij, u, h2, h3⟩ := h
        have hph : (ph || i == jj) = ph := by
          have : (i == jj) = false := by rw [beq_eq_false_iff_ne]; exact hij
          rw [this, Bool.or_false]
        rw [hph] at hp'
        exact first3 ho (Region.noSelect_spec hs) r.length listed a w (Region.free_spec ho hf) hr' (h2.imp (fun hh => ⟨hh.1, fun w hw hw2 => hh.2 w hw (fun x => hw2 (by rw [hp]; exact x))⟩) id) hij (any3_of_mix hs r L _ _ _ w hL' hB' hp' hz' hC hC2 h3)
/-- One walk serves every order, in two phases. -/
theorem wp_region_mix3 {id : Nat} {Q : Exit → Act → World → Prop} {a : Act} {w : World} {l : List Oper} (C C2 : World → Prop) (jj : Nat) (plan : List (Nat × Bool)) (hm : P.follows .mixedOrders = true)
    (hB : (Region.noSelect l.toArray && planB .any l.toArray plan (Array.replicate l.length false) && plan.length == l.length) = true) (hC : C w.drew)
    (h : mix3 P l.toArray C C2 jj (fun a w => Q .normal a w) false (plan.map fun p => (l.getD p.1 default, p.1, p.2)) a w.drew) (hin : (plan.all (fun p => p.1 < l.length) && decide (jj < l.length)) = true) : (Code.region id l.toArray true).wp P Q a w := by
  simp only [Bool.and_eq_true, beq_iff_eq, decide_eq_true_eq] at hB hin
  refine wp_region_any hm (any_of_3 (C := C) (C2 := C2) (jj := jj) (Q := fun a w => Q .normal a w) (fun _ _ h => h) _ _ _ _ ?_)
  have := any3_of_mix (C := C) (C2 := C2) (jj := jj) (md := .any) hB.1.1 plan _ (Array.replicate l.length false) false a w.drew (by
    rw [List.map_map]
    apply List.map_congr_left
    intro p hp
    have hlt : p.1 < l.length := by simpa using List.all_eq_true.1 hin.1 p hp
    simp [List.getD, List.getElem?_eq_getElem hlt]) hB.1.2 (by simp [hin.2]) (by simpa using hin.2) hC (fun x => by cases x) h
  rw [hB.2] at this
  simpa using this
variable {C2 : World → Prop} {jj : Nat} {Q : Act → World → Prop}
theorem q_pure {ph : Bool} {o : Oper} {i : Nat} {r : List (Oper × Nat × Bool)} {a : Act} {w : World} (v : Value) (hij : i ≠ jj) (hw : Region.wanted o (yielded ops a.tmps) = true) (h : ∀ w, C w → (ph = true → C2 w) → (execOp a.eval o).run P w = .ok (.value v) w) (hk : mix3 P ops C C2 jj Q ph r (a.put o.dst v) w) : mix3 P ops C C2 jj Q ph ((o, i, false) :: r) a w :=
  ⟨hij, v, .inl ⟨hw, fun w h1 h2 => by unfold stepK; rw [h w h1 h2]; exact ⟨rfl, rfl⟩⟩, hk⟩
/-- What is left out. -/
theorem q_skip {ph : Bool} {o : Oper} {i : Nat} {r : List (Oper × Nat × Bool)} {a : Act} {w : World} (hij : i ≠ jj) (hw : Region.wanted o (yielded ops a.tmps) = false) (hk : mix3 P ops C C2 jj Q ph r (a.put o.dst undef) w) : mix3 P ops C C2 jj Q ph ((o, i, false) :: r) a w := ⟨hij, undef, .inr ⟨hw, rfl⟩, hk⟩
/-- A call that only reads what stays. -/
theorem q_reads {ph : Bool} {o : Oper} {i : Nat} {r : List (Oper × Nat × Bool)} {a : Act} {w : World} (f : FuncId) (args : Array Value) (v : Value) (hij : i ≠ jj) (hw : Region.wanted o (yielded ops a.tmps) = true) (h : ∀ w, C w → (execOp a.eval o).run P w = .ok (.enter f args) w)
    (hc : ∀ w, C w → (ph = true → C2 w) → Calls P f args w (fun e w' => e = .returned v ∧ w' = w)) (hk : mix3 P ops C C2 jj Q ph r (a.put o.dst v) w) : mix3 P ops C C2 jj Q ph ((o, i, false) :: r) a w :=
  ⟨hij, v, .inl ⟨hw, fun w h1 h2 => by unfold stepK; rw [h w h1]; exact ⟨rfl, (hc w h1 h2).mono fun e w' h3 => ⟨v, h3.1, rfl, h3.2⟩⟩⟩, hk⟩
theorem q_call {ph : Bool} {o : Oper} {i : Nat} {r : List (Oper × Nat × Bool)} {a : Act} {w : World} (f : FuncId) (args : Array Value) (hw : Region.wanted o (yielded ops a.tmps) = true) (h : (execOp a.eval o).run P w = .ok (.enter f args) w)
    (hc : Calls P f args w (fun e w' => ∃ v, e = .returned v ∧ C w' ∧ ((ph || i == jj) = true → C2 w') ∧ mix3 P ops C C2 jj Q (ph || i == jj) r (a.put o.dst v) w')) : mix3 P ops C C2 jj Q ph ((o, i, true) :: r) a w := by
  refine ⟨hw, ?_⟩
  unfold stepK
  rw [h]
  exact ⟨rfl, hc⟩
theorem q_run {ph : Bool} {o : Oper} {i : Nat} {r : List (Oper × Nat × Bool)} {a : Act} {w w' : World} (v : Value) (hw : Region.wanted o (yielded ops a.tmps) = true) (h : (execOp a.eval o).run P w = .ok (.value v) w') (hC : C w') (hC2 : (ph || i == jj) = true → C2 w') (hk : mix3 P ops C C2 jj Q (ph || i == jj) r (a.put o.dst v) w') : mix3 P ops C C2 jj Q ph ((o, i, true) :: r) a w := by
  refine ⟨hw, ?_⟩
  unfold stepK
  rw [h]
  exact ⟨hC, hC2, hk⟩
theorem q_nil {ph : Bool} {a : Act} {w : World} (h : C w → (ph = true → C2 w) → Q a w) : mix3 P ops C C2 jj Q ph [] a w := h
theorem unwanted_met {ops : Array Oper} {a : Act} {o : Oper} (j d : Nat) (want have' : Bool) (hg : o.guard = some (j, want)) (hd : (ops[j]?).bind (·.dst) = some d) (hv : a.tmps[d]? = some (.bool have')) (hne : (have' == want) = false) : Region.wanted o (yielded ops a.tmps) = false := by
  unfold Region.wanted yielded
  rw [hg]
  simp only [hd, Option.bind_some, hv]
  cases want <;> cases have' <;> first | rfl | exact absurd hne (by decide)
end

end Go.Proofs.YtkioolbjmcpjpaaGreatDoor.Mx
namespace Go.Proofs.YtkioolbjmcpjpaaGreatDoor
open Go.RowKit
set_option linter.unusedVariables false

section
variable {P : Program} {ops : Array Oper} {md : Region.Mode} {C : World → Prop} {Le : World → World → Prop} {M : Nat → Mode} {n : Nat}
/-- The last operation waits for all others. -/
def waitsAll (md : Region.Mode) (ops : Array Oper) (n : Nat) : Bool := (List.range n).all fun i => (ops[n]?).any fun o => o.after.any fun e => Region.binds md e && e.on == i
theorem waits_spec (h : waitsAll md ops n = true) {i : Nat} (hi : i < n) : ∃ o, ops[n]? = some o ∧ ∃ e ∈ o.after, Region.binds md e = true ∧ e.on = i := by
  unfold waitsAll at h
  rw [List.all_eq_true] at h
  have h1 := h i (List.mem_range.2 hi)
  cases ho : ops[n]? with
  | none => rw [ho] at h1; simp at h1
  | some o =>
    rw [ho] at h1
    simp only [Option.any_some] at h1
    rw [Array.any_eq_true] at h1
    obtain ⟨j, hj, h2⟩ := h1
    simp only [Bool.and_eq_true, beq_iff_eq] at h2
    exact ⟨o, rfl, o.after[j], Array.getElem_mem _, h2.1, h2.2⟩
theorem last_waits (h : waitsAll md ops n = true) {i : Nat} (hi : i < n) {listed : Array Bool} (hun : listed.getD i true = false) : n ∉ Region.ready md ops listed := by
  intro hr
  obtain ⟨o, ho, e, he, hb, hon⟩ := waits_spec h hi
  obtain ⟨_, o', ho', hall⟩ := mem_ready.1 hr
  rw [ho] at ho'
  injection ho' with ho'
  subst ho'
  have h1 := hall e he hb
  rw [hon] at h1
  rcases Nat.lt_or_ge i listed.size with h' | h'
  · simp [h'] at hun h1; rw [hun] at h1; cases h1
  · simp [Array.getElem?_eq_none h'] at h1
def wpAnyL (P : Program) (md : Region.Mode) (ops : Array Oper) (C : World → Prop) (Le : World → World → Prop) (M : Nat → Mode) (n : Nat) (Q : Act → Kn → Prop) : Nat → Array Bool → Act → Kn → Prop
  | 0, listed, a, k => Region.ready md ops listed ≠ [] ∧ (∀ j ∈ Region.ready md ops listed, j = n) ∧ Region.ready md ops (listed.setIfInBounds n true) = [] ∧ Q a k
  | fuel + 1, listed, a, k => Region.ready md ops listed ≠ [] ∧ (∀ j ∈ Region.ready md ops listed, j ≠ n) ∧ ∀ i ∈ Region.ready md ops listed, gOp P ops C Le M i (wpAnyL P md ops C Le M n Q fuel (listed.setIfInBounds i true)) a k
theorem wpAny_of_growL {Q : Act → Kn → Prop} {Q' : Exit → Act → World → Prop} (hCL : ∀ w w', C w → Le w w' → C w') (hQ : ∀ a k w, C w → (∀ s, k s w) → Q a k → wpOp P ops Q' n (fun a w => Q' .normal a w) a w) : ∀ (fuel : Nat) (listed : Array Bool) (a : Act) (k : Kn) (w : World), Stays Le k → C w → (∀ s, k s w) →
    wpAnyL P md ops C Le M n Q fuel listed a k → wpAny P md ops Q' (fuel + 1) listed a w
  | 0, _, _, _, _, hs, hw, hk, h => ⟨fun h0 => absurd h0 h.1, fun i hi => by
      have := h.2.1 i hi
      subst this
      exact wpOp_mono (fun a w hq => ⟨h.2.2.1, hq⟩) (hQ _ _ _ hw hk h.2.2.2)⟩
  | fuel + 1, _, _, _, _, hs, hw, hk, h => ⟨fun h0 => absurd h0 h.1, fun i hi => wpOp_of_gOp hCL hs hw hk (fun a' k' w' hs' hw' hk' => wpAny_of_growL hCL hQ fuel _ a' k' w' hs' hw' hk') (h.2.2 i hi)⟩
theorem wpAnyL_first {Q : Act → Kn → Prop} {i : Nat} {oi : Oper} {ok : Value → Prop} {f : Value → World → Prop} (hwt : waitsAll md ops n = true) (hin : i < n) (hi : ops[i]? = some oi) (hsel : ∀ (j : Nat) (o : Oper) cs b, ops[j]? = some o → o.op ≠ .select cs b) :
    ∀ (fuel : Nat) (listed : Array Bool) (a : Act) (k : Kn),
      (∀ j oj, ops[j]? = some oj → j ≠ i → listed.getD j true = false → (∀ e ∈ oj.after, Region.binds md e = true → e.on ≠ i) → oi.apart ops oj = true) →
      i ∈ Region.ready md ops listed → YieldsG P ops C Le (M i) oi ok f a k →
      (∀ u, ok u → wpAnyL P md ops C Le M n Q fuel (listed.setIfInBounds i true) (a.put oi.dst u) (kput k oi.dst (f u))) → wpAnyL P md ops C Le M n Q (fuel + 1) listed a k := by
  intro fuel
  induction fuel with
  | zero =>
    intro listed a k _ hr hy H
    have hnl : ∀ j ∈ Region.ready md ops listed, j ≠ n := fun j hj e => last_waits hwt hin (mem_ready.1 hr).1 (e ▸ hj)
    refine ⟨fun h => (by rw [h] at hr; cases hr), hnl, fun j hj => ?_⟩
    by_cases hji : j = i
    · subst hji; exact hy.gOp hi H
    · obtain ⟨u0, hu0⟩ := yields_some hy
      exact absurd ((H u0 hu0).2.1 j (ready_mono hj hji)) (hnl j hj)
  | succ fuel ih =>
    intro listed a k hfree hr hy H
    have hnl : ∀ j ∈ Region.ready md ops listed, j ≠ n := fun j hj e => last_waits hwt hin (mem_ready.1 hr).1 (e ▸ hj)
    refine ⟨fun h => (by rw [h] at hr; cases hr), hnl, fun j hj => ?_⟩
    by_cases hji : j = i
    · subst hji; exact hy.gOp hi H
    · have h1 : ∀ u, ok u → _ := fun u hu => (H u hu).2.2 j (ready_mono hj hji)
      obtain ⟨hjun, oj, hoj, hall⟩ := mem_ready.1 hj
      have hnot : ∀ e ∈ oj.after, Region.binds md e = true → e.on ≠ i := fun e he hb heq => by
        have h1 := hall e he hb
        have h0 := (mem_ready.1 hr).1
        rw [heq] at h1
        rcases Nat.lt_or_ge i listed.size with h' | h'
        · simp [h'] at h0 h1; rw [h0] at h1; cases h1
        · simp [Array.getElem?_eq_none h'] at h1
      have h2 := gOp_put hoj (hfree j oj hoj hji hjun hnot) (fun cs b => hsel i oi cs b hi) (fun cs b => hsel j oj cs b hoj) hy h1
      have hfree' : ∀ k ok, ops[k]? = some ok → k ≠ i → (listed.setIfInBounds j true).getD k true = false →
          (∀ e ∈ ok.after, Region.binds md e = true → e.on ≠ i) → oi.apart ops ok = true := fun k ok hk hki hun hno => by
        refine hfree k ok hk hki ?_ hno
        by_cases hjk : j = k
        · subst hjk; exact hjun
        · rw [getD_set_ne true hjk] at hun; exact hun
      refine gOp_mono (fun a' k' h3 => ih (listed.setIfInBounds j true) a' k' hfree' (ready_mono hr (Ne.symm hji)) h3.1 (fun u hu => ?_)) h2
      rw [Array.setIfInBounds_comm _ _ hji]
      exact h3.2 u hu
theorem wpAnyL_lex {Q : Act → Kn → Prop} (hs : Region.noSelect ops = true) (hwt : waitsAll md ops n = true) : ∀ (l : List Oper) (i : Nat) (listed : Array Bool) (a : Act) (k : Kn), i + l.length = n → (∀ j, j < l.length → l[j]? = ops[i + j]?) →
    Region.lexFrom md ops (l.length + 1) i listed = true → wpGrow P ops C Le M Q i l a k → wpAnyL P md ops C Le M n Q l.length listed a k
  | [], i, listed, _, _, hn, _, hB, h => by
    have hin : i = n := by simpa using hn
    subst hin
    simp only [List.length_nil, Region.lexFrom, Bool.and_eq_true, List.isEmpty_iff] at hB
    obtain ⟨⟨hr, hf⟩, he⟩ := hB
    have hr' : i ∈ Region.ready md ops listed := by simpa using hr
    refine ⟨fun h0 => (by rw [h0] at hr'; cases hr'), fun j hj => ?_, he, h⟩
    by_cases hji : j = i
    · exact hji
    · have := ready_mono hj hji
      rw [he] at this
      cases this
  | o :: l, i, listed, a, k, hn, hl, hB, h => by
    have h0 : ops[i]? = some o := by simpa using (hl 0 (by simp)).symm
    simp only [List.length_cons] at hn
    rw [List.length_cons] at hB
    unfold Region.lexFrom at hB
    simp only [Bool.and_eq_true] at hB
    obtain ⟨⟨hr, hf⟩, hB'⟩ := hB
    have hst : gOp P ops C Le M i (wpGrow P ops C Le M Q (i + 1) l) a k := by unfold gOp; simp only [h0]; exact h
    obtain ⟨ok, f, hy, hK⟩ := yieldsG_of_gOp h0 hst
    exact wpAnyL_first hwt (by omega) h0 (Region.noSelect_spec hs) l.length listed a k (Region.free_spec h0 hf) (by simpa using hr) hy
      (fun u hu => wpAnyL_lex hs hwt l (i + 1) _ _ _ (by omega) (fun j hj => by have := hl (j + 1) (by simp; omega); simpa [Nat.add_assoc, Nat.add_comm 1 j] using this) hB' (hK u hu))
/-- All but the last in the text's order, then the last. -/
theorem wp_region_growL {id : Nat} {Q : Exit → Act → World → Prop} {a : Act} {w : World} {l : List Oper} {o : Oper} {L : List Oper} (C : World → Prop) (Le : World → World → Prop) (M : Nat → Mode) (hm : P.follows .mixedOrders = true) (hL : L = l ++ [o]) (hB : Region.lexB .any L.toArray = true) (hwt : waitsAll .any L.toArray l.length = true) (hCL : ∀ w w', C w → Le w w' → C w') (hC : C w.drew)
    (h : wpGrow P L.toArray C Le M (fun a' k' => ∀ w', C w' → (∀ s, k' s w') → wpList P L.toArray Q [o] a' w') 0 l a (fun _ _ => True)) : (Code.region id L.toArray true).wp P Q a w := by
  simp only [Region.lexB, Bool.and_eq_true] at hB
  have hsz : L.toArray.size = l.length + 1 := by rw [hL]; simp
  have ho : L.toArray[l.length]? = some o := by rw [hL]; simp
  refine wp_region_any hm ?_
  rw [hsz]
  refine wpAny_of_growL (M := M) (n := l.length) (Q := fun a' k' => ∀ w', C w' → (∀ s, k' s w') → wpList P L.toArray Q [o] a' w') hCL (fun a k w' hw' hk h => ?_) _ _ _ (fun _ _ => True) _ (fun _ _ _ _ h => h) hC (fun _ => trivial) ?_
  · have := h w' hw' hk
    unfold wpList at this
    unfold wpOp
    simp only [ho]
    exact this
  · have hB2 := hB.2
    rw [hsz] at hB2
    exact wpAnyL_lex (C := C) (Le := Le) (M := M) (md := .any) hB.1 hwt l 0 _ a (fun _ _ => True) (by simp) (fun j hj => by rw [hL]; simp [List.getElem?_append_left hj]) hB2 h
end

end Go.Proofs.YtkioolbjmcpjpaaGreatDoor
namespace Go.Proofs.YtkioolbjmcpjpaaGreatDoor
open Go.RowKit
set_option linter.unusedVariables false

def OddPost (w : World) (e : Ending) (w' : World) : Prop := ∃ o : O, e = .returned o.val ∧ o.Ok ∧ (o = .const 1 ∨ ∃ v, o = .odd v) ∧ Below w.heap.size w w'
theorem strange_of (t : TypeId) (x : Value) (h0 : t ≠ 155) (h1 : t ≠ 164) (h2 : t ≠ 166) (h3 : t ≠ 168) (h4 : t ≠ 169) (h5 : t ≠ 170) : (O.odd (.iface t x)).Ok := .inr ⟨t, x, rfl, h0, h1, h2, h3, h4, h5⟩

set_option maxHeartbeats 2000000 in
set_option maxRecDepth 100000 in
theorem odd_any (n : Int) (w : World) (h1 : -9223372036854775808 ≤ n) (h2 : n ≤ 9223372036854775807) : Calls Tryz.prog 40 #[.int .i64 n] w (OddPost w) := by
  obtain ⟨q, hq⟩ : ∃ q : Nat, n % 9 = q := ⟨(n % 9).toNat, by omega⟩
  have hq9 : q = 0 ∨ q = 1 ∨ q = 2 ∨ q = 3 ∨ q = 4 ∨ q = 5 ∨ q = 6 ∨ q = 7 ∨ q = 8 := by omega
  have hmm := @run_makeMap Tryz.prog
  go_enter Tryz.func40, Tryz.ntmps40
  go_wp2_with fail
  refine calls_same (within_any _ 9 _ (by omega) (by omega) h1 h2) ?_
  rw [hq]
  clear h1 h2 hq
  rcases hq9 with rfl | rfl | rfl | rfl | rfl | rfl | rfl | rfl | rfl
  all_goals
    go_wp2_with fail
    go_ret
    first
      | exact ⟨.odd .nilIface, rfl, .inl rfl, .inr ⟨_, rfl⟩, by repeat first | exact Below.refl _ _ | refine below_alloc ?_ _⟩
      | exact ⟨.const 1, rfl, by simp [O.Ok], .inl rfl, by repeat first | exact Below.refl _ _ | refine below_alloc ?_ _⟩
      | exact ⟨.odd (.iface _ _), rfl, strange_of _ _ (by decide) (by decide) (by decide) (by decide) (by decide) (by decide), .inr ⟨_, rfl⟩, by repeat first | exact Below.refl _ _ | refine below_alloc ?_ _⟩

end Go.Proofs.YtkioolbjmcpjpaaGreatDoor
