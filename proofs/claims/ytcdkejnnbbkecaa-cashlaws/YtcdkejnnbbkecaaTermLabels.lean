/- The labels of a contract, and whether one is there twice: what package term answers. -/
import Derived.Test.YtcdkejnnbbkecaaTermForm
import Derived.Test.YtcdkejnnbbkecaaKeep
namespace Go.Proofs.Ytcdkejnnbbkecaa
open Go.RowKit Go.Maps
set_option linter.unusedVariables false

def labStep (st : List ByteArray) (c : C) : List ByteArray := if c.kind = 5 then st ++ [c.text] else st
/-- The labels of a contract's Ors, in the order of a walk. -/
def C.labels : C → List ByteArray
  | .give c => c.labels
  | .and l r => l.labels ++ r.labels
  | .or s l r => s :: (l.labels ++ r.labels)
  | .scale _ c => c.labels
  | .when _ c => c.labels
  | .iff _ l r => l.labels ++ r.labels
  | _ => []
theorem labels_fold (c : C) : ∀ st, c.pre.foldl labStep st = st ++ c.labels := by
  induction c <;> intro st <;> simp_all [C.pre, labStep, C.kind, C.text, C.labels]
theorem labels_ok (c : C) (h : c.Ok) : ∀ s ∈ c.labels, s.size ≤ 2147483648 := by
  induction c with
  | give c ih => exact ih h
  | and l r h1 h2 => intro s hs; simp only [C.labels, List.mem_append] at hs; rcases hs with hs | hs; exact h1 h.1 s hs; exact h2 h.2 s hs
  | or t l r h1 h2 =>
    intro s hs
    simp only [C.labels, List.mem_cons, List.mem_append] at hs
    rcases hs with rfl | hs | hs
    · exact h.1
    · exact h1 h.2.1 s hs
    · exact h2 h.2.2 s hs
  | scale o c ih => exact ih h.2
  | when d c ih => exact ih h.2
  | iff o l r h1 h2 => intro s hs; simp only [C.labels, List.mem_append] at hs; rcases hs with hs | hs; exact h1 h.2.1 s hs; exact h2 h.2.2 s hs
  | _ => intro s hs; simp [C.labels] at hs
theorem labels_weight (c : C) : c.labels.length ≤ c.weight := by
  induction c <;> simp [C.labels, C.weight] <;> omega

/-- What is kept while labels are gathered. -/
def LabInv (V : Nat) (own : Nat → Prop) (st : List ByteArray) (w : World) : Prop :=
  ∃ v, own = (fun k => k = V ∨ v.ownBlock = some k) ∧ w.heap[V]? = some (.cells #[v] 23 (0, 0)) ∧ w.ownsRow (V + 1) 9 1 v st.length (strCells st)
theorem cell_one_in {w : World} {b : Nat} (hb : b = w.heap.size) (x : Value) (t : TypeId) : ∀ j u, [x][j]? = some u → (w.alloc (.cells #[x] t)).cell? ((⟨b, 0, none⟩ : Addr).add j) = some u := by
  subst hb
  exact cell_one_at w x t
theorem own_shape {w : World} {B e size n : Nat} {v : Value} {xs : List Value} (h : w.ownsRow B e size v n xs) : ∃ ao cap, v = .slice ao n cap := by
  rcases h.2 with ⟨rfl, h0⟩ | ⟨g, cap, cur, rfl, _⟩
  · exact ⟨none, 0, by rw [h0]⟩
  · exact ⟨_, _, rfl⟩
theorem own_slice {w : World} {B : Nat} {v : Value} {l : List ByteArray} (h : w.ownsRow B 9 1 v l.length (strCells l)) : ∃ ao cap, v = .slice ao l.length cap := by
  obtain ⟨ao, cap, e, _⟩ := own_str h
  exact ⟨ao, cap, e⟩

set_option maxHeartbeats 1000000 in
set_option maxRecDepth 100000 in
theorem labels1_any (V : Nat) : Shows 51 #[.pointer (some ⟨V, 0, none⟩)] (LabInv V) labStep List.length := by
  refine ⟨enters_of Try.func51 (by kernel_rfl) rfl, ?_, ?_, ?_, ?_⟩
  · rintro own st w w' ⟨v, h1, h2, h3⟩ hb
    exact ⟨v, h1, (hb.block V (Array.getElem?_eq_some_iff.1 h2).1).trans h2, h3.kept (grown_of_below hb none) (by cases hv : v.ownBlock <;> simp)⟩
  · rintro own st w ⟨v, h1, h2, h3⟩ b hb
    subst h1
    rcases hb with rfl | hb
    · exact (Array.getElem?_eq_some_iff.1 h2).1
    · exact (h3.lt b hb).2
  · intro st c
    unfold labStep
    split <;> simp [C.own]
  · rintro own st w c a ⟨v, rfl, h2, h3⟩ hok hn hna hsz
    obtain ⟨i0, gi, gz0, gz1, gz2⟩ := info_parts infoStr
    have HLT := hidIn (Array.getElem?_eq_some_iff.1 h2).1
    have HV := hidIn h2
    show Calls Try.prog 51 #[headT c, .slice a c.nums.length c.nums.length, .pointer (some ⟨V, 0, none⟩)] w _
    clear hn hna
    unfold headT
    by_cases hk : c.kind = 5
    · have HST : Hid (labStep st c = st ++ [c.text]) := by unfold Hid labStep; rw [if_pos hk]
      have hsl : st.length ≤ 1000000 := by omega
      obtain ⟨ao, cap, rfl⟩ := own_slice h3
      have c0 : ∀ o, (w.alloc o).cell? ⟨V, 0, none⟩ = some (.slice ao st.length cap) := fun o => (cell_of_row _ _ _ _ _ _ (heap_keeps h2 o)).trans rfl
      rw [hk]
      obtain ⟨W, hW⟩ : ∃ W, W = (w.alloc (.cells #[.int .i64 5, .string c.text, .int .i64 c.day] 129)) := ⟨_, rfl⟩
      have hVW : W.heap.size = w.heap.size + 1 := by rw [hW]; simp
      have hrow : W.ownsRow (V + 1) 9 1 (.slice ao st.length cap) st.length (strCells st) := by rw [hW]; exact h3.alloc _
      have HBW : Hid (Below w.heap.size w W) := by rw [hW]; exact below_alloc (Below.refl _ _) _
      have HVW : Hid (W.heap[V]? = some (.cells #[.slice ao st.length cap] 23 (0, 0))) := by rw [hW]; exact heap_keeps h2 _
      have HFIN : Hid (∀ v2 w2, w2.ownsRow (V + 1) 9 1 v2 (st.length + 1) (strCells st ++ [.string c.text]) → (W.alloc (.cells #[.string c.text] 9)).grownBy w2 (Value.slice ao st.length cap).ownBlock → (v2.ownBlock = (Value.slice ao st.length cap).ownBlock ∨ v2.ownBlock = some (W.alloc (.cells #[.string c.text] 9)).heap.size) → w2.heap[V]? = some (.cells #[.slice ao st.length cap] 23 (0, 0)) ∧ ∃ own', LabInv V own' (labStep st c) (w2.setCell ⟨V, 0, none⟩ v2) ∧ Dyn (fun k => k = V ∨ (Value.slice ao st.length cap).ownBlock = some k) w own' (w2.setCell ⟨V, 0, none⟩ v2)) := by
        intro v2 w2 hown2 hgrow2 hloc
        have hVne : some V ≠ (Value.slice ao st.length cap).ownBlock := fun e => by have := (hrow.lt V e.symm).1; omega
        have hs2 := hgrow2.size
        rw [World.size_alloc] at hs2
        have hVlt : V < (W.alloc (.cells #[.string c.text] 9)).heap.size := by rw [World.size_alloc]; have := HLT.out; omega
        have hV2 : w2.heap[V]? = some (.cells #[.slice ao st.length cap] 23 (0, 0)) := (hgrow2.block V hVlt hVne).trans (heap_keeps HVW.out _)
        refine ⟨hV2, fun k => k = V ∨ v2.ownBlock = some k, ⟨v2, rfl, heap_setCell_same w2 V 0 _ _ _ hV2, ?_⟩, ?_⟩
        · rw [HST.out]
          have := ownsRow_setCell_below hown2 (a := ⟨V, 0, none⟩) (by show V < V + 1; omega) v2
          simpa [strCells] using this
        · refine ⟨hgrow2.os.trans HBW.out.os, hgrow2.tape.trans HBW.out.tape, hgrow2.output.trans HBW.out.output, by rw [World.size_setCell]; omega, fun k hk hno => ?_, fun k hk => ?_⟩
          · have hkV : k ≠ V := fun e => hno (.inl e)
            have hkb : some k ≠ (Value.slice ao st.length cap).ownBlock := fun e => hno (.inr e.symm)
            rw [heap_setCell_other w2 ⟨V, 0, none⟩ k _ hkV, hgrow2.block k (by rw [World.size_alloc]; omega) hkb, Below.heap_alloc _ _ _ (by omega)]
            exact HBW.out.block k hk
          · rcases hk with hk | hk
            · exact .inl (.inl hk)
            · rcases hloc with h | h
              · rw [h] at hk; exact .inl (.inr hk)
              · rw [h] at hk
                injection hk with hk
                rw [World.size_alloc] at hk
                exact .inr (by omega)
      have hVs : V + 1 ≤ w.heap.size := HLT.out
      have HVs := hidIn hVs
      subst hW
      have HROW := hidIn hrow
      clear hVs h2 h3 hk hrow hVW HVW HBW HV
      go_enter Try.func51, Try.ntmps51
      go_wp2_with (first
        | (at_builtin; refine wpList_append_own_at _ rfl _ _ 23 rfl (V + 1) 9 i0 (.string ByteArray.empty) 1 16 Try.underlying23 gi gz0 gz1 gz2 rfl (by decide) _ _ _ rfl (HROW.out.alloc _) ⟨w.heap.size + 1, 0, none⟩ 1 1 [.string c.text] rfl rfl (cell_one_in (by simp) _ _) (by intro u hu; simp at hu; subst hu; rfl) (by unfold maxLen; omega) (by omega) (by have := HVs.out; simp; omega) ?_; intro v2 w2 hown2 hgrow2 _ hloc; have hF := hidIn (HFIN.out v2 w2 hown2 hgrow2 hloc); obtain ⟨ao2, cap2, rfl⟩ := own_shape hown2; have k0 := cell_of_row _ _ 0 _ _ _ hF.out.1; have k1 := frozen_of_row _ _ 0 _ _ hF.out.1; clear hown2 hgrow2 hloc HFIN HROW c0)
        | go_in)
      go_end0
      exact ⟨rfl, hF.out.2⟩
    · have HST : Hid (labStep st c = st) := by unfold Hid labStep; rw [if_neg hk]
      have hk' : (c.kind == 5) = false := by simpa using hk
      have HIN : Hid (LabInv V (fun k => k = V ∨ v.ownBlock = some k) st w) := ⟨v, rfl, h2, h3⟩
      clear h2 h3
      go_enter Try.func51, Try.ntmps51
      go_wp2_with fail
      go_end0
      have hb : Below w.heap.size w (w.alloc (.cells #[.int .i64 c.kind, .string c.text, .int .i64 c.day] 129)) := below_alloc (Below.refl _ _) _
      obtain ⟨v, h1, h2, h3⟩ := HIN.out
      refine ⟨rfl, _, ?_, Dyn.of_below hb⟩
      rw [HST.out]
      exact ⟨v, h1, heap_keeps h2 _, h3.alloc _⟩

end Go.Proofs.Ytcdkejnnbbkecaa
