/- The document's own answer: whether two trees are the same. -/
import Derived.Test.YthhjcpmnekibnaaRefT
import Derived.Test.YthhjcpmnekibnaaFormA
namespace Go.Proofs.Ythhjcpmnekibnaa
open Go.RowKit
set_option linter.unusedVariables false

mutual
/-- Two trees are the same, and none of them is, or has, nothing. -/
def sameTr : T → T → Bool
  | .mk kind s n k, u => decide (kind ≠ 0) && (decide (kind = u.kind) && (decide (s = u.s) && (decide (n = u.n) && (decide (k.length = u.k.length) && sameTL k u.k))))
def sameTL : List T → List T → Bool
  | a :: l, m => match m with
    | b :: m => sameTr a b && sameTL l m
    | [] => true
  | [], _ => true
end
theorem sameTL_take (l m : List T) (i : Nat) (a b : T) (h1 : l[i]? = some a) (h2 : m[i]? = some b) : sameTL (l.take (i + 1)) (m.take (i + 1)) = (sameTL (l.take i) (m.take i) && sameTr a b) := by
  induction l generalizing m i with
  | nil => simp at h1
  | cons x l ih =>
    cases m with
    | nil => simp at h2
    | cons y m =>
      cases i with
      | zero => simp at h1 h2; subst h1 h2; simp [sameTL]
      | succ i =>
        simp at h1 h2
        simp only [List.take_succ_cons, sameTL]
        rw [ih m i h1 h2, Bool.and_assoc]
theorem sameTL_false (l m : List T) (i : Nat) (a b : T) (h1 : l[i]? = some a) (h2 : m[i]? = some b) (h : sameTr a b = false) : sameTL l m = false := by
  induction l generalizing m i with
  | nil => simp at h1
  | cons x l ih =>
    cases m with
    | nil => simp at h2
    | cons y m =>
      cases i with
      | zero => simp at h1 h2; subst h1 h2; simp [sameTL, h]
      | succ i =>
        simp at h1 h2
        simp only [sameTL]
        rw [ih m i h1 h2, Bool.and_false]

set_option maxHeartbeats 2000000 in
set_option maxRecDepth 100000 in
theorem refSame_any (t : T) : ∀ (u : T) (w : World) (v x : Value), TIn w 0 t v → TIn w 0 u x → Calls Try.prog 8 #[v, x] w fun e w' => e = .returned (.bool (sameTr t u)) ∧ Below w.heap.size w w' := by
  induction t using T.ind with
  | _ kind s n k ih =>
  rintro ⟨kind2, s2, n2, k2⟩ w v x hv hx
  have hkl := len_cap hv
  have hul := len_cap hx
  obtain ⟨a, cap, rfl, hc1, hc2, hK⟩ := hv
  obtain ⟨ua, ucap, rfl, uc1, uc2, uK⟩ := hx
  simp only [T.kind, T.s, T.n, T.k] at hc1 hK hkl uc1 uK hul ⊢
  have HIH : Hid (∀ t ∈ k, ∀ (u : T) (w : World) (v x : Value), TIn w 0 t v → TIn w 0 u x → Calls Try.prog 8 #[v, x] w fun e w' => e = .returned (.bool (sameTr t u)) ∧ Below w.heap.size w w') := ih
  have HK := hidIn hK
  have HU := hidIn uK
  clear ih hK uK
  by_cases h0 : kind = 0
  · have HS : Hid (sameTr (.mk kind s n k) (.mk kind2 s2 n2 k2) = false) := by unfold Hid sameTr; simp [T.kind, T.s, T.n, T.k, h0]
    subst h0
    go_enter Try.func8, Try.ntmps8
    go_wp2_with fail
    go_ret
    exact ⟨by rw [HS.out]; rfl, below_alloc (below_alloc (Below.refl _ _) _) _⟩
  have h0' : (kind == 0) = false := by rw [beq_eq_false_iff_ne]; exact h0
  by_cases h1 : kind = kind2
  case neg =>
    have HS : Hid (sameTr (.mk kind s n k) (.mk kind2 s2 n2 k2) = false) := by unfold Hid sameTr; simp [T.kind, T.s, T.n, T.k, h1]
    have h1' : (kind == kind2) = false := by rw [beq_eq_false_iff_ne]; exact h1
    go_enter Try.func8, Try.ntmps8
    go_wp2_with fail
    go_ret
    exact ⟨by rw [HS.out]; rfl, below_alloc (below_alloc (Below.refl _ _) _) _⟩
  by_cases h2 : s = s2
  case neg =>
    have HS : Hid (sameTr (.mk kind s n k) (.mk kind2 s2 n2 k2) = false) := by unfold Hid sameTr; simp [T.kind, T.s, T.n, T.k, h2]
    have h2' : ¬ s.toList = s2.toList := fun e => h2 (toList_inj e)
    have h2'' : (s.toList == s2.toList) = false := by rw [beq_eq_false_iff_ne]; exact h2'
    go_enter Try.func8, Try.ntmps8
    go_wp2_with fail
    go_ret
    exact ⟨by rw [HS.out]; rfl, below_alloc (below_alloc (Below.refl _ _) _) _⟩
  by_cases h3 : n = n2
  case neg =>
    have HS : Hid (sameTr (.mk kind s n k) (.mk kind2 s2 n2 k2) = false) := by unfold Hid sameTr; simp [T.kind, T.s, T.n, T.k, h3]
    have h3' : (n == n2) = false := by rw [beq_eq_false_iff_ne]; exact h3
    go_enter Try.func8, Try.ntmps8
    go_wp2_with fail
    go_ret
    exact ⟨by rw [HS.out]; rfl, below_alloc (below_alloc (Below.refl _ _) _) _⟩
  by_cases h4 : k.length = k2.length
  case neg =>
    have HS : Hid (sameTr (.mk kind s n k) (.mk kind2 s2 n2 k2) = false) := by unfold Hid sameTr; simp [T.kind, T.s, T.n, T.k, h4]
    have h4' : ((k.length : Int) == (k2.length : Int)) = false := by rw [beq_eq_false_iff_ne]; omega
    have h4'' : ¬ (k.length : Int) = (k2.length : Int) := by omega
    have h4b : ((k.length : Int) != (k2.length : Int)) = true := by rw [bne, h4']; rfl
    go_enter Try.func8, Try.ntmps8
    go_wp2_with fail
    go_ret
    exact ⟨by rw [HS.out]; rfl, below_alloc (below_alloc (Below.refl _ _) _) _⟩
  have HS : Hid (sameTr (.mk kind s n k) (.mk kind s n k2) = sameTL k k2) := by unfold Hid sameTr; simp [T.kind, T.s, T.n, T.k, h0, h4]
  rw [← h1, ← h2, ← h3, ← h4]
  rw [← h4] at uc1 hul
  have H4 := hidIn h4
  clear h1 h2 h3 h4
  go_enter Try.func8, Try.ntmps8
  go_wp2_with fail
  obtain ⟨W, hW⟩ : ∃ W, W = (w.alloc (.cells #[.int .i64 kind, .string s, .int .i64 n, .slice a k.length cap] 33)).alloc (.cells #[.int .i64 kind, .string s, .int .i64 n, .slice ua k.length ucap] 33) := ⟨_, rfl⟩
  have HB : Hid (Below w.heap.size w W) := by rw [hW]; exact below_alloc (below_alloc (Below.refl _ _) _) _
  have HG : Hid (W.cell? ⟨w.heap.size, 3, none⟩ = some (.slice a k.length cap)) := by rw [hW]; exact (below_alloc (Below.refl _ _) _).cell (p := ⟨w.heap.size, 3, none⟩) (by simp) |>.trans ((cell_of_row _ _ _ _ _ _ (heap_alloc_new _ _)).trans rfl)
  have HG2 : Hid (W.cell? ⟨w.heap.size + 1, 3, none⟩ = some (.slice ua k.length ucap)) := by
    rw [hW]
    have := heap_alloc_new (w.alloc (.cells #[.int .i64 kind, .string s, .int .i64 n, .slice a k.length cap] 33)) (.cells #[.int .i64 kind, .string s, .int .i64 n, .slice ua k.length ucap] 33)
    rw [World.size_alloc] at this
    exact (cell_of_row _ _ _ _ _ _ this).trans rfl
  rw [← hW]
  clear hW
  have HKW : Hid (KAt W 0 k a 0) := HK.out.below HB.out
  have HUW : Hid (KAt W 0 k2 ua 0) := HU.out.below HB.out
  clear HK HU
  go_loopw [42] (fun s42 wr => ∃ i : Nat, i ≤ k.length ∧ s42 = .int .i64 i ∧ sameTL (k.take i) (k2.take i) = true ∧ Below W.heap.size W wr) (fun s42 _ => k.length - (intOf s42).toNat)
  case atStart => exact ⟨0, by omega, rfl, by simp [sameTL], Below.refl _ _⟩
  case round =>
    obtain ⟨i, hi, rfl, hso, hbr⟩ := hrel
    have HSO := hidIn hso
    have HBR := hidIn hbr
    clear hso
    by_cases hlt : i < k.length
    · have hlt' : (i : Int) < (k.length : Int) := by omega
      obtain ⟨t, hti⟩ : ∃ t, k[i]? = some t := ⟨_, List.getElem?_eq_getElem hlt⟩
      obtain ⟨u, hui⟩ : ∃ u, k2[i]? = some u := ⟨_, List.getElem?_eq_getElem (by have := H4.out; omega)⟩
      obtain ⟨b, o, ka, ca, rfl, c0, c1, c2, c3, ht⟩ := (HKW.out.below hbr).cells hti
      obtain ⟨b2, o2, kb, cb, rfl, d0, d1, d2, d3, hu⟩ := (HUW.out.below hbr).cells hui
      have g3 : wr.cell? ⟨w.heap.size, 3, none⟩ = some (.slice (some ⟨b, o, none⟩) k.length cap) := (hbr.cell (p := ⟨w.heap.size, 3, none⟩) (World.block_lt_of_cell? _ _ HG.out)).trans HG.out
      have g4 : wr.cell? ⟨w.heap.size + 1, 3, none⟩ = some (.slice (some ⟨b2, o2, none⟩) k.length ucap) := (hbr.cell (p := ⟨w.heap.size + 1, 3, none⟩) (World.block_lt_of_cell? _ _ HG2.out)).trans HG2.out
      have HM : Hid (t ∈ k) := List.mem_of_getElem? hti
      have HTI := hidIn ht
      have HUI := hidIn hu
      have HNX := hidIn (sameTL_take k k2 i t u hti hui)
      have HFL : Hid (sameTr t u = false → sameTL k k2 = false) := fun h => sameTL_false k k2 i t u hti hui h
      have HLT := World.block_lt_of_cell? _ _ c0
      have HLU := World.block_lt_of_cell? _ _ d0
      have HL3 := World.block_lt_of_cell? _ _ g3
      have HL4 := World.block_lt_of_cell? _ _ g4
      have HF : Hid (∀ w', Below wr.heap.size wr w' → w'.cell? ⟨w.heap.size, 3, none⟩ = some (.slice (some ⟨b, o, none⟩) k.length cap) ∧ w'.cell? ⟨w.heap.size + 1, 3, none⟩ = some (.slice (some ⟨b2, o2, none⟩) k.length ucap) ∧ (w'.cell? ⟨b, o + i * 4, none⟩ = some (.int .i64 t.kind) ∧ w'.cell? ⟨b, o + i * 4 + 1, none⟩ = some (.string t.s) ∧ w'.cell? ⟨b, o + i * 4 + 2, none⟩ = some (.int .i64 t.n) ∧ w'.cell? ⟨b, o + i * 4 + 3, none⟩ = some (.slice ka t.k.length ca)) ∧ (w'.cell? ⟨b2, o2 + i * 4, none⟩ = some (.int .i64 u.kind) ∧ w'.cell? ⟨b2, o2 + i * 4 + 1, none⟩ = some (.string u.s) ∧ w'.cell? ⟨b2, o2 + i * 4 + 2, none⟩ = some (.int .i64 u.n) ∧ w'.cell? ⟨b2, o2 + i * 4 + 3, none⟩ = some (.slice kb u.k.length cb))) := fun w' h =>
        ⟨(h.cell (p := ⟨w.heap.size, 3, none⟩) HL3).trans g3, (h.cell (p := ⟨w.heap.size + 1, 3, none⟩) HL4).trans g4, ⟨(h.cell (p := ⟨b, o + i * 4, none⟩) HLT).trans c0, (h.cell (p := ⟨b, o + i * 4 + 1, none⟩) HLT).trans c1, (h.cell (p := ⟨b, o + i * 4 + 2, none⟩) HLT).trans c2, (h.cell (p := ⟨b, o + i * 4 + 3, none⟩) HLT).trans c3⟩, ⟨(h.cell (p := ⟨b2, o2 + i * 4, none⟩) HLU).trans d0, (h.cell (p := ⟨b2, o2 + i * 4 + 1, none⟩) HLU).trans d1, (h.cell (p := ⟨b2, o2 + i * 4 + 2, none⟩) HLU).trans d2, (h.cell (p := ⟨b2, o2 + i * 4 + 3, none⟩) HLU).trans d3⟩⟩
      clear hti hui ht hu c0 c1 c2 c3 d0 d1 d2 d3 g3 g4 hbr HLT HLU HL3 HL4
      go_wp2_with fail
      refine wp_region_class (fun w' => Below wr.heap.size wr w') (by kernel_rfl) (by kernel_rfl) (below_drew (Below.refl _ _)) ?_
      generalize hops : (#[_, _, _, _, _, _, _, _, _, _, _, _] : Array Oper) = ops
      refine quiet_runs (.pointer (some ⟨w.heap.size, 3, none⟩)) rfl (fun w' hw' => ?_) ?_
      · go_simp
      simp only [Act.put, List.setIfInBounds_toArray, List.set_cons_zero, List.set_cons_succ]
      refine quiet_runs (.slice (some ⟨b, o, none⟩) k.length cap) rfl (fun w' hw' => ?_) ?_
      · obtain ⟨f0, f1, ⟨f2, f3, f4, f5⟩, f6, f7, f8, f9⟩ := HF.out w' hw'
        go_simp
      simp only [Act.put, List.setIfInBounds_toArray, List.set_cons_zero, List.set_cons_succ]
      refine quiet_runs (.int .i64 i) rfl (fun w' hw' => ?_) ?_
      · go_simp
      simp only [Act.put, List.setIfInBounds_toArray, List.set_cons_zero, List.set_cons_succ]
      refine quiet_runs (.pointer (some ⟨b, o + i * 4, none⟩)) rfl (fun w' hw' => ?_) ?_
      · go_simp
      simp only [Act.put, List.setIfInBounds_toArray, List.set_cons_zero, List.set_cons_succ]
      refine quiet_runs (.agg #[.int .i64 t.kind, .string t.s, .int .i64 t.n, .slice ka t.k.length ca]) rfl (fun w' hw' => ?_) ?_
      · obtain ⟨f0, f1, ⟨f2, f3, f4, f5⟩, f6, f7, f8, f9⟩ := HF.out w' hw'
        go_simp
      simp only [Act.put, List.setIfInBounds_toArray, List.set_cons_zero, List.set_cons_succ]
      refine quiet_runs (.pointer (some ⟨w.heap.size + 1, 3, none⟩)) rfl (fun w' hw' => ?_) ?_
      · go_simp
      simp only [Act.put, List.setIfInBounds_toArray, List.set_cons_zero, List.set_cons_succ]
      refine quiet_runs (.slice (some ⟨b2, o2, none⟩) k.length ucap) rfl (fun w' hw' => ?_) ?_
      · obtain ⟨f0, f1, ⟨f2, f3, f4, f5⟩, f6, f7, f8, f9⟩ := HF.out w' hw'
        go_simp
      simp only [Act.put, List.setIfInBounds_toArray, List.set_cons_zero, List.set_cons_succ]
      refine quiet_runs (.int .i64 i) rfl (fun w' hw' => ?_) ?_
      · go_simp
      simp only [Act.put, List.setIfInBounds_toArray, List.set_cons_zero, List.set_cons_succ]
      refine quiet_runs (.pointer (some ⟨b2, o2 + i * 4, none⟩)) rfl (fun w' hw' => ?_) ?_
      · go_simp
      simp only [Act.put, List.setIfInBounds_toArray, List.set_cons_zero, List.set_cons_succ]
      refine quiet_runs (.agg #[.int .i64 u.kind, .string u.s, .int .i64 u.n, .slice kb u.k.length cb]) rfl (fun w' hw' => ?_) ?_
      · obtain ⟨f0, f1, ⟨f2, f3, f4, f5⟩, f6, f7, f8, f9⟩ := HF.out w' hw'
        go_simp
      simp only [Act.put, List.setIfInBounds_toArray, List.set_cons_zero, List.set_cons_succ]
      refine quiet_calls 8 #[.agg #[.int .i64 t.kind, .string t.s, .int .i64 t.n, .slice ka t.k.length ca], .agg #[.int .i64 u.kind, .string u.s, .int .i64 u.n, .slice kb u.k.length cb]] (.bool (sameTr t u)) rfl (fun w' hw' => ?_) (fun w' hw' => ?_) ?_
      · go_simp
      · refine (HIH.out t HM.out u w' _ _ (HTI.out.below hw') (HUI.out.below hw')).mono ?_
        rintro e w3 ⟨rfl, hb3⟩
        exact ⟨rfl, hw'.trans (hb3.mono hw'.size)⟩
      simp only [Act.put, List.setIfInBounds_toArray, List.set_cons_zero, List.set_cons_succ]
      refine quiet_runs (.bool (!sameTr t u)) rfl (fun w' hw' => ?_) ?_
      · go_simp
      simp only [Act.put, List.setIfInBounds_toArray, List.set_cons_zero, List.set_cons_succ]
      refine wpQuiet_nil ?_
      intro w4 hw4
      have HB4 := hidIn (HBR.out.trans (hw4.mono HBR.out.size))
      clear hw4
      cases hst : sameTr t u with
      | true =>
        rw [hst] at HNX
        go_wp2_with fail
        go_roundw
        case rel => exact ⟨i + 1, by omega, by go_num, by rw [HNX.out, HSO.out]; rfl, HB4.out⟩
        case measure => simp [intOf]; omega
      | false =>
        have HFA := hidIn (HFL.out hst)
        go_wp2_with fail
        go_ret
        exact ⟨by rw [HS.out, HFA.out]; rfl, HB.out.trans (HB4.out.mono HB.out.size)⟩
    · have hle : i = k.length := by omega
      subst hle
      have HE : Hid (sameTL k k2 = true) := by
        have h := HSO.out
        rw [List.take_length] at h
        rw [show k.length = k2.length from H4.out, List.take_length] at h
        exact h
      go_wp2_with fail
      go_ret
      exact ⟨by rw [HS.out, HE.out]; rfl, HB.out.trans (HBR.out.mono HB.out.size)⟩

end Go.Proofs.Ythhjcpmnekibnaa
