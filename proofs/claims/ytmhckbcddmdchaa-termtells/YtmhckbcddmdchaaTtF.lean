/- The document's own answer: whether two trees are the same. -/
import Derived.Test.YtmhckbcddmdchaaRefT
import Derived.Test.YtmhckbcddmdchaaFormA
import Derived.Test.YtmhckbcddmdchaaRefLab
import Derived.Test.YtmhckbcddmdchaaTermCheck
import Derived.Test.YtmhckbcddmdchaaPlainL
import Derived.Test.YtmhckbcddmdchaaRightP
import Derived.Test.YtmhckbcddmdchaaTermNames
namespace Go.Proofs.Ytmhckbcddmdchaa
open Go.RowKit
set_option linter.unusedVariables false

mutual
/-- Two trees are the same, and none of them is, or has, nothing. -/
def sameTr : T → T → Bool
  | .mk kind s n k, u => decide (kind ≠ 0) && (decide (kind = u.kind) && (decide (s = u.s) && (decide (n = u.n) && (decide (k.length = u.k.length) && sameTL k u.k))))
def sameTL : List T → List T → Bool
  | a :: l, m => match m with
    | b :: m => sameTr a b && sameTL l m
    | [] => true
  | [], _ => true
end
theorem sameTL_take (l m : List T) (i : Nat) (a b : T) (h1 : l[i]? = some a) (h2 : m[i]? = some b) : sameTL (l.take (i + 1)) (m.take (i + 1)) = (sameTL (l.take i) (m.take i) && sameTr a b) := by
  induction l generalizing m i with
  | nil => simp at h1
  | cons x l ih =>
    cases m with
    | nil => simp at h2
    | cons y m =>
      cases i with
      | zero => simp at h1 h2; subst h1 h2; simp [sameTL]
      | succ i =>
        simp at h1 h2
        simp only [List.take_succ_cons, sameTL]
        rw [ih m i h1 h2, Bool.and_assoc]
theorem sameTL_false (l m : List T) (i : Nat) (a b : T) (h1 : l[i]? = some a) (h2 : m[i]? = some b) (h : sameTr a b = false) : sameTL l m = false := by
  induction l generalizing m i with
  | nil => simp at h1
  | cons x l ih =>
    cases m with
    | nil => simp at h2
    | cons y m =>
      cases i with
      | zero => simp at h1 h2; subst h1 h2; simp [sameTL, h]
      | succ i =>
        simp at h1 h2
        simp only [sameTL]
        rw [ih m i h1 h2, Bool.and_false]

set_option maxHeartbeats 2000000 in
set_option maxRecDepth 100000 in
theorem refSame_any (t : T) : ∀ (u : T) (w : World) (v x : Value), TIn w 0 t v → TIn w 0 u x → Calls Try.prog 16 #[v, x] w fun e w' => e = .returned (.bool (sameTr t u)) ∧ Below w.heap.size w w' := by
  induction t using T.ind with
  | _ kind s n k ih =>
  rintro ⟨kind2, s2, n2, k2⟩ w v x hv hx
  have hkl := len_cap hv
  have hul := len_cap hx
  obtain ⟨a, cap, rfl, hc1, hc2, hK⟩ := hv
  obtain ⟨ua, ucap, rfl, uc1, uc2, uK⟩ := hx
  simp only [T.kind, T.s, T.n, T.k] at hc1 hK hkl uc1 uK hul ⊢
  have HIH : Hid (∀ t ∈ k, ∀ (u : T) (w : World) (v x : Value), TIn w 0 t v → TIn w 0 u x → Calls Try.prog 16 #[v, x] w fun e w' => e = .returned (.bool (sameTr t u)) ∧ Below w.heap.size w w') := ih
  have HK := hidIn hK
  have HU := hidIn uK
  clear ih hK uK
  by_cases h0 : kind = 0
  · have HS : Hid (sameTr (.mk kind s n k) (.mk kind2 s2 n2 k2) = false) := by unfold Hid sameTr; simp [T.kind, T.s, T.n, T.k, h0]
    subst h0
    go_enter Try.func16, Try.ntmps16
    go_wp2_with fail
    go_ret
    exact ⟨by rw [HS.out]; rfl, below_alloc (below_alloc (Below.refl _ _) _) _⟩
  have h0' : (kind == 0) = false := by rw [beq_eq_false_iff_ne]; exact h0
  by_cases h1 : kind = kind2
  case neg =>
    have HS : Hid (sameTr (.mk kind s n k) (.mk kind2 s2 n2 k2) = false) := by unfold Hid sameTr; simp [T.kind, T.s, T.n, T.k, h1]
    have h1' : (kind == kind2) = false := by rw [beq_eq_false_iff_ne]; exact h1
    go_enter Try.func16, Try.ntmps16
    go_wp2_with fail
    go_ret
    exact ⟨by rw [HS.out]; rfl, below_alloc (below_alloc (Below.refl _ _) _) _⟩
  by_cases h2 : s = s2
  case neg =>
    have HS : Hid (sameTr (.mk kind s n k) (.mk kind2 s2 n2 k2) = false) := by unfold Hid sameTr; simp [T.kind, T.s, T.n, T.k, h2]
    have h2' : ¬ s.toList = s2.toList := fun e => h2 (toList_inj e)
    have h2'' : (s.toList == s2.toList) = false := by rw [beq_eq_false_iff_ne]; exact h2'
    go_enter Try.func16, Try.ntmps16
    go_wp2_with fail
    go_ret
    exact ⟨by rw [HS.out]; rfl, below_alloc (below_alloc (Below.refl _ _) _) _⟩
  by_cases h3 : n = n2
  case neg =>
    have HS : Hid (sameTr (.mk kind s n k) (.mk kind2 s2 n2 k2) = false) := by unfold Hid sameTr; simp [T.kind, T.s, T.n, T.k, h3]
    have h3' : (n == n2) = false := by rw [beq_eq_false_iff_ne]; exact h3
    go_enter Try.func16, Try.ntmps16
    go_wp2_with fail
    go_ret
    exact ⟨by rw [HS.out]; rfl, below_alloc (below_alloc (Below.refl _ _) _) _⟩
  by_cases h4 : k.length = k2.length
  case neg =>
    have HS : Hid (sameTr (.mk kind s n k) (.mk kind2 s2 n2 k2) = false) := by unfold Hid sameTr; simp [T.kind, T.s, T.n, T.k, h4]
    have h4' : ((k.length : Int) == (k2.length : Int)) = false := by rw [beq_eq_false_iff_ne]; omega
    have h4'' : ¬ (k.length : Int) = (k2.length : Int) := by omega
    have h4b : ((k.length : Int) != (k2.length : Int)) = true := by rw [bne, h4']; rfl
    go_enter Try.func16, Try.ntmps16
    go_wp2_with fail
    go_ret
    exact ⟨by rw [HS.out]; rfl, below_alloc (below_alloc (Below.refl _ _) _) _⟩
  have HS : Hid (sameTr (.mk kind s n k) (.mk kind s n k2) = sameTL k k2) := by unfold Hid sameTr; simp [T.kind, T.s, T.n, T.k, h0, h4]
  rw [← h1, ← h2, ← h3, ← h4]
  rw [← h4] at uc1 hul
  have H4 := hidIn h4
  clear h1 h2 h3 h4
  go_enter Try.func16, Try.ntmps16
  go_wp2_with fail
  obtain ⟨W, hW⟩ : ∃ W, W = (w.alloc (.cells #[.int .i64 kind, .string s, .int .i64 n, .slice a k.length cap] 29)).alloc (.cells #[.int .i64 kind, .string s, .int .i64 n, .slice ua k.length ucap] 29) := ⟨_, rfl⟩
  have HB : Hid (Below w.heap.size w W) := by rw [hW]; exact below_alloc (below_alloc (Below.refl _ _) _) _
  have HG : Hid (W.cell? ⟨w.heap.size, 3, none⟩ = some (.slice a k.length cap)) := by rw [hW]; exact (below_alloc (Below.refl _ _) _).cell (p := ⟨w.heap.size, 3, none⟩) (by simp) |>.trans ((cell_of_row _ _ _ _ _ _ (heap_alloc_new _ _)).trans rfl)
  have HG2 : Hid (W.cell? ⟨w.heap.size + 1, 3, none⟩ = some (.slice ua k.length ucap)) := by
    rw [hW]
    have := heap_alloc_new (w.alloc (.cells #[.int .i64 kind, .string s, .int .i64 n, .slice a k.length cap] 29)) (.cells #[.int .i64 kind, .string s, .int .i64 n, .slice ua k.length ucap] 29)
    rw [World.size_alloc] at this
    exact (cell_of_row _ _ _ _ _ _ this).trans rfl
  rw [← hW]
  clear hW
  have HKW : Hid (KAt W 0 k a 0) := HK.out.below HB.out
  have HUW : Hid (KAt W 0 k2 ua 0) := HU.out.below HB.out
  clear HK HU
  go_loopw [42] (fun s42 wr => ∃ i : Nat, i ≤ k.length ∧ s42 = .int .i64 i ∧ sameTL (k.take i) (k2.take i) = true ∧ Below W.heap.size W wr) (fun s42 _ => k.length - (intOf s42).toNat)
  case atStart => exact ⟨0, by omega, rfl, by simp [sameTL], Below.refl _ _⟩
  case round =>
    obtain ⟨i, hi, rfl, hso, hbr⟩ := hrel
    have HSO := hidIn hso
    have HBR := hidIn hbr
    clear hso
    by_cases hlt : i < k.length
    · have hlt' : (i : Int) < (k.length : Int) := by omega
      obtain ⟨t, hti⟩ : ∃ t, k[i]? = some t := ⟨_, List.getElem?_eq_getElem hlt⟩
      obtain ⟨u, hui⟩ : ∃ u, k2[i]? = some u := ⟨_, List.getElem?_eq_getElem (by have := H4.out; omega)⟩
      obtain ⟨b, o, ka, ca, rfl, c0, c1, c2, c3, ht⟩ := (HKW.out.below hbr).cells hti
      obtain ⟨b2, o2, kb, cb, rfl, d0, d1, d2, d3, hu⟩ := (HUW.out.below hbr).cells hui
      have g3 : wr.cell? ⟨w.heap.size, 3, none⟩ = some (.slice (some ⟨b, o, none⟩) k.length cap) := (hbr.cell (p := ⟨w.heap.size, 3, none⟩) (World.block_lt_of_cell? _ _ HG.out)).trans HG.out
      have g4 : wr.cell? ⟨w.heap.size + 1, 3, none⟩ = some (.slice (some ⟨b2, o2, none⟩) k.length ucap) := (hbr.cell (p := ⟨w.heap.size + 1, 3, none⟩) (World.block_lt_of_cell? _ _ HG2.out)).trans HG2.out
      have HM : Hid (t ∈ k) := List.mem_of_getElem? hti
      have HTI := hidIn ht
      have HUI := hidIn hu
      have HNX := hidIn (sameTL_take k k2 i t u hti hui)
      have HFL : Hid (sameTr t u = false → sameTL k k2 = false) := fun h => sameTL_false k k2 i t u hti hui h
      have HLT := World.block_lt_of_cell? _ _ c0
      have HLU := World.block_lt_of_cell? _ _ d0
      have HL3 := World.block_lt_of_cell? _ _ g3
      have HL4 := World.block_lt_of_cell? _ _ g4
      have HF : Hid (∀ w', Below wr.heap.size wr w' → w'.cell? ⟨w.heap.size, 3, none⟩ = some (.slice (some ⟨b, o, none⟩) k.length cap) ∧ w'.cell? ⟨w.heap.size + 1, 3, none⟩ = some (.slice (some ⟨b2, o2, none⟩) k.length ucap) ∧ (w'.cell? ⟨b, o + i * 4, none⟩ = some (.int .i64 t.kind) ∧ w'.cell? ⟨b, o + i * 4 + 1, none⟩ = some (.string t.s) ∧ w'.cell? ⟨b, o + i * 4 + 2, none⟩ = some (.int .i64 t.n) ∧ w'.cell? ⟨b, o + i * 4 + 3, none⟩ = some (.slice ka t.k.length ca)) ∧ (w'.cell? ⟨b2, o2 + i * 4, none⟩ = some (.int .i64 u.kind) ∧ w'.cell? ⟨b2, o2 + i * 4 + 1, none⟩ = some (.string u.s) ∧ w'.cell? ⟨b2, o2 + i * 4 + 2, none⟩ = some (.int .i64 u.n) ∧ w'.cell? ⟨b2, o2 + i * 4 + 3, none⟩ = some (.slice kb u.k.length cb))) := fun w' h =>
        ⟨(h.cell (p := ⟨w.heap.size, 3, none⟩) HL3).trans g3, (h.cell (p := ⟨w.heap.size + 1, 3, none⟩) HL4).trans g4, ⟨(h.cell (p := ⟨b, o + i * 4, none⟩) HLT).trans c0, (h.cell (p := ⟨b, o + i * 4 + 1, none⟩) HLT).trans c1, (h.cell (p := ⟨b, o + i * 4 + 2, none⟩) HLT).trans c2, (h.cell (p := ⟨b, o + i * 4 + 3, none⟩) HLT).trans c3⟩, ⟨(h.cell (p := ⟨b2, o2 + i * 4, none⟩) HLU).trans d0, (h.cell (p := ⟨b2, o2 + i * 4 + 1, none⟩) HLU).trans d1, (h.cell (p := ⟨b2, o2 + i * 4 + 2, none⟩) HLU).trans d2, (h.cell (p := ⟨b2, o2 + i * 4 + 3, none⟩) HLU).trans d3⟩⟩
      clear hti hui ht hu c0 c1 c2 c3 d0 d1 d2 d3 g3 g4 hbr HLT HLU HL3 HL4
      go_wp2_with fail
      refine wp_region_class (fun w' => Below wr.heap.size wr w') (by kernel_rfl) (by kernel_rfl) (below_drew (Below.refl _ _)) ?_
      generalize hops : (#[_, _, _, _, _, _, _, _, _, _, _, _] : Array Oper) = ops
      refine quiet_runs (.pointer (some ⟨w.heap.size, 3, none⟩)) rfl (fun w' hw' => ?_) ?_
      · go_simp
      simp only [Act.put, List.setIfInBounds_toArray, List.set_cons_zero, List.set_cons_succ]
      refine quiet_runs (.slice (some ⟨b, o, none⟩) k.length cap) rfl (fun w' hw' => ?_) ?_
      · obtain ⟨f0, f1, ⟨f2, f3, f4, f5⟩, f6, f7, f8, f9⟩ := HF.out w' hw'
        go_simp
      simp only [Act.put, List.setIfInBounds_toArray, List.set_cons_zero, List.set_cons_succ]
      refine quiet_runs (.int .i64 i) rfl (fun w' hw' => ?_) ?_
      · go_simp
      simp only [Act.put, List.setIfInBounds_toArray, List.set_cons_zero, List.set_cons_succ]
      refine quiet_runs (.pointer (some ⟨b, o + i * 4, none⟩)) rfl (fun w' hw' => ?_) ?_
      · go_simp
      simp only [Act.put, List.setIfInBounds_toArray, List.set_cons_zero, List.set_cons_succ]
      refine quiet_runs (.agg #[.int .i64 t.kind, .string t.s, .int .i64 t.n, .slice ka t.k.length ca]) rfl (fun w' hw' => ?_) ?_
      · obtain ⟨f0, f1, ⟨f2, f3, f4, f5⟩, f6, f7, f8, f9⟩ := HF.out w' hw'
        go_simp
      simp only [Act.put, List.setIfInBounds_toArray, List.set_cons_zero, List.set_cons_succ]
      refine quiet_runs (.pointer (some ⟨w.heap.size + 1, 3, none⟩)) rfl (fun w' hw' => ?_) ?_
      · go_simp
      simp only [Act.put, List.setIfInBounds_toArray, List.set_cons_zero, List.set_cons_succ]
      refine quiet_runs (.slice (some ⟨b2, o2, none⟩) k.length ucap) rfl (fun w' hw' => ?_) ?_
      · obtain ⟨f0, f1, ⟨f2, f3, f4, f5⟩, f6, f7, f8, f9⟩ := HF.out w' hw'
        go_simp
      simp only [Act.put, List.setIfInBounds_toArray, List.set_cons_zero, List.set_cons_succ]
      refine quiet_runs (.int .i64 i) rfl (fun w' hw' => ?_) ?_
      · go_simp
      simp only [Act.put, List.setIfInBounds_toArray, List.set_cons_zero, List.set_cons_succ]
      refine quiet_runs (.pointer (some ⟨b2, o2 + i * 4, none⟩)) rfl (fun w' hw' => ?_) ?_
      · go_simp
      simp only [Act.put, List.setIfInBounds_toArray, List.set_cons_zero, List.set_cons_succ]
      refine quiet_runs (.agg #[.int .i64 u.kind, .string u.s, .int .i64 u.n, .slice kb u.k.length cb]) rfl (fun w' hw' => ?_) ?_
      · obtain ⟨f0, f1, ⟨f2, f3, f4, f5⟩, f6, f7, f8, f9⟩ := HF.out w' hw'
        go_simp
      simp only [Act.put, List.setIfInBounds_toArray, List.set_cons_zero, List.set_cons_succ]
      refine quiet_calls 16 #[.agg #[.int .i64 t.kind, .string t.s, .int .i64 t.n, .slice ka t.k.length ca], .agg #[.int .i64 u.kind, .string u.s, .int .i64 u.n, .slice kb u.k.length cb]] (.bool (sameTr t u)) rfl (fun w' hw' => ?_) (fun w' hw' => ?_) ?_
      · go_simp
      · refine (HIH.out t HM.out u w' _ _ (HTI.out.below hw') (HUI.out.below hw')).mono ?_
        rintro e w3 ⟨rfl, hb3⟩
        exact ⟨rfl, hw'.trans (hb3.mono hw'.size)⟩
      simp only [Act.put, List.setIfInBounds_toArray, List.set_cons_zero, List.set_cons_succ]
      refine quiet_runs (.bool (!sameTr t u)) rfl (fun w' hw' => ?_) ?_
      · go_simp
      simp only [Act.put, List.setIfInBounds_toArray, List.set_cons_zero, List.set_cons_succ]
      refine wpQuiet_nil ?_
      intro w4 hw4
      have HB4 := hidIn (HBR.out.trans (hw4.mono HBR.out.size))
      clear hw4
      cases hst : sameTr t u with
      | true =>
        rw [hst] at HNX
        go_wp2_with fail
        go_roundw
        case rel => exact ⟨i + 1, by omega, by go_num, by rw [HNX.out, HSO.out]; rfl, HB4.out⟩
        case measure => simp [intOf]; omega
      | false =>
        have HFA := hidIn (HFL.out hst)
        go_wp2_with fail
        go_ret
        exact ⟨by rw [HS.out, HFA.out]; rfl, HB.out.trans (HB4.out.mono HB.out.size)⟩
    · have hle : i = k.length := by omega
      subst hle
      have HE : Hid (sameTL k k2 = true) := by
        have h := HSO.out
        rw [List.take_length] at h
        rw [show k.length = k2.length from H4.out, List.take_length] at h
        exact h
      go_wp2_with fail
      go_ret
      exact ⟨by rw [HS.out, HE.out]; rfl, HB.out.trans (HBR.out.mono HB.out.size)⟩

end Go.Proofs.Ytmhckbcddmdchaa
namespace Go.Proofs.Ytmhckbcddmdchaa
open Go.RowKit
set_option linter.unusedVariables false

mutual
/-- The names of a tree's Fixes, in order. -/
def T.nams : T → List ByteArray
  | .mk kind s _ k => if kind = 12 then [s] else namsL k
def namsL : List T → List ByteArray
  | [] => []
  | t :: l => t.nams ++ namsL l
end
theorem namsL_snoc (l : List T) (k : T) : namsL (l ++ [k]) = namsL l ++ k.nams := by
  induction l with
  | nil => simp [namsL]
  | cons a l ih => simp [namsL, ih]
theorem nams_cnt : ∀ t : T, t.nams.length ≤ t.cnt := by
  intro t
  induction t using T.ind with
  | _ kind s n k ih =>
    have h : (namsL k).length ≤ cntL k := by
      induction k with
      | nil => simp [namsL]
      | cons a l ihl =>
        have h1 := ih a (by simp)
        have h2 := ihl (fun t ht => ih t (by simp [ht]))
        simp only [namsL, cntL, List.length_append]
        omega
    unfold T.nams T.cnt
    split
    · simp
    · omega
theorem namsL_cnt (l : List T) : (namsL l).length ≤ cntL l := by
  induction l with
  | nil => simp [namsL]
  | cons a l ih => have := nams_cnt a; simp only [namsL, cntL, List.length_append]; omega
/-- A new list of one text is a row of the call's own. -/
theorem own_one (w : World) (s : ByteArray) : (w.alloc (.cells #[.string s] 9)).ownsRow w.heap.size 9 1 (.slice (some ⟨w.heap.size, 0, none⟩) 1 1) [s].length (strCells [s]) := by
  refine ⟨by simp [strCells], .inr ⟨w.heap.size, 1, #[.string s], rfl, Nat.le_refl _, heap_alloc_new _ _, by simp, by unfold maxLen; omega, by simp, by simp [strCells]⟩⟩

set_option maxHeartbeats 4000000 in
set_option maxRecDepth 100000 in
theorem refNames0_any (t : T) : t.cnt ≤ 999990 → ∀ (w : World) (v : Value), TIn w 0 t v → Calls Try.prog 38 #[v] w fun e w' => ∃ v', e = .returned v' ∧ w'.ownsRow w.heap.size 9 1 v' t.nams.length (strCells t.nams) ∧ Below w.heap.size w w' := by
  induction t using T.ind with
  | _ kind s n k ih =>
  intro hcnt w v hv
  have hkl := len_cap hv
  obtain ⟨a, cap, rfl, hc1, hc2, hK⟩ := hv
  simp only [T.kind, T.s, T.n, T.k] at hc1 hK hkl ⊢
  have hct : (T.mk kind s n k).cnt = cntL k + 1 := by rw [T.cnt]
  rw [hct] at hcnt
  have HIH : Hid (∀ t ∈ k, ∀ (w : World) (v : Value), TIn w 0 t v → Calls Try.prog 38 #[v] w fun e w' => ∃ v', e = .returned v' ∧ w'.ownsRow w.heap.size 9 1 v' t.nams.length (strCells t.nams) ∧ Below w.heap.size w w') := fun t ht => ih t ht (by have := cntL_mem k t ht; omega)
  have HK := hidIn hK
  have HCN := hidIn hcnt
  clear ih hK hct
  by_cases h12 : kind = 12
  · have HL : Hid ((T.mk kind s n k).nams = [s]) := by unfold Hid; rw [T.nams, if_pos h12]
    subst h12
    go_enter Try.func38, Try.ntmps38
    go_wp2_with fail
    go_ret
    refine ⟨_, rfl, ?_, below_alloc (below_alloc (Below.refl _ _) _) _⟩
    rw [HL.out]
    have h := own_one (w.alloc (.cells #[.int .i64 12, .string s, .int .i64 n, .slice a k.length cap] 29)) s
    rw [World.size_alloc] at h
    exact ownsRow_base h (by omega)
  · have HL : Hid ((T.mk kind s n k).nams = namsL k) := by unfold Hid; rw [T.nams, if_neg h12]
    have h12' : (kind == 12) = false := by rw [beq_eq_false_iff_ne]; exact h12
    clear h12
    go_enter Try.func38, Try.ntmps38
    go_wp2_with fail
    obtain ⟨W, hW⟩ : ∃ W, W = w.alloc (.cells #[.int .i64 kind, .string s, .int .i64 n, .slice a k.length cap] 29) := ⟨_, rfl⟩
    have HB : Hid (Below w.heap.size w W) := by rw [hW]; exact below_alloc (Below.refl _ _) _
    have HBK : Hid (W.heap[w.heap.size]? = some (.cells #[.int .i64 kind, .string s, .int .i64 n, .slice a k.length cap] 29 (0, 0))) := by rw [hW]; exact heap_alloc_new _ _
    rw [← hW]
    clear hW
    have HG : Hid (∀ X, Below W.heap.size W X → X.cell? ⟨w.heap.size, 3, none⟩ = some (.slice a k.length cap)) := fun X hX => (cell_of_row _ _ _ _ _ _ ((hX.block _ (Array.getElem?_eq_some_iff.1 HBK.out).1).trans HBK.out)).trans rfl
    have HKW : Hid (KAt W 0 k a 0) := HK.out.below HB.out
    clear HBK HK
    go_loopw [14, 3] (fun s14 s3 wr => ∃ i : Nat, i ≤ k.length ∧ s14 = .int .i64 i ∧ wr.ownsRow W.heap.size 9 1 s3 (namsL (k.take i)).length (strCells (namsL (k.take i))) ∧ Below W.heap.size W wr) (fun s14 _ _ => k.length - (intOf s14).toNat)
    case atStart => exact ⟨0, by omega, rfl, by simp only [List.take_zero, namsL]; exact World.ownsRow_nil _ _ _ _, Below.refl _ _⟩
    case round =>
      obtain ⟨i, hi, rfl, hrow, hbr⟩ := hrel
      have HROW := hidIn hrow
      have HBR := hidIn hbr
      by_cases hlt : i < k.length
      · have hlt' : (i : Int) < (k.length : Int) := by omega
        obtain ⟨t, hti⟩ : ∃ t, k[i]? = some t := ⟨_, List.getElem?_eq_getElem hlt⟩
        obtain ⟨b, o, ka, ca, rfl, c0, c1, c2, c3, ht⟩ := (HKW.out.below hbr).cells hti
        have g3 := HG.out wr hbr
        have HM : Hid (t ∈ k) := List.mem_of_getElem? hti
        have HTI := hidIn ht
        have htk := take_more _ _ _ hti
        have HT3 : Hid (namsL (k.take (i + 1)) = namsL (k.take i) ++ t.nams) := by unfold Hid; rw [htk, namsL_snoc]
        have HLEN : Hid ((namsL (k.take i)).length + t.nams.length ≤ 1000000) := by
          have h1 := nams_cnt t
          have h2 := namsL_cnt (k.take i)
          have h3 := cntL_take k (i + 1)
          rw [htk, cntL_snoc] at h3
          have := HCN.out
          show _ ≤ _
          omega
        clear hti htk ht hrow hbr
        generalize namsL (k.take i) = L at *
        go_wp2_with fail
        refine (HIH.out t HM.out wr _ HTI.out).mono ?_
        rintro e w4 ⟨v4, rfl, hrow4, hb4⟩
        have HB4 := hidIn (HBR.out.trans (hb4.mono HBR.out.size))
        have HROW4 := hidIn (ownsRow_below HROW.out hb4)
        have HNEW := hidIn hrow4
        clear hb4 hrow4 c0 c1 c2 c3 g3 HTI
        go_wp2_with (first
          | (at_builtin; refine wpList_append_rows _ rfl _ _ rfl W.heap.size _ L rfl HROW4.out wr.heap.size _ t.nams rfl HNEW.out HLEN.out HB4.out.size ?_; intro v5 w5 hown5 hgrow5 hloc5)
          | go_in)
        have HB5 : Hid (Below W.heap.size W w5) := HB4.out.grown hgrow5 HB4.out.size (fun j hj => (HROW4.out.lt j hj).1)
        have HOWN5 := hidIn hown5
        clear hown5 hgrow5 hloc5
        go_wp2_with fail
        go_roundw
        case rel => exact ⟨i + 1, by omega, by go_num, by rw [HT3.out]; exact HOWN5.out, HB5.out⟩
        case measure => simp [intOf]; omega
      · have hle : i = k.length := by omega
        subst hle
        have HE : Hid (wr.ownsRow W.heap.size 9 1 u3 (namsL k).length (strCells (namsL k))) := by have h := HROW.out; rw [List.take_length] at h; exact h
        clear hrow HROW hbr
        go_wp2_with fail
        go_ret
        refine ⟨_, rfl, ?_, HB.out.trans (HBR.out.mono HB.out.size)⟩
        rw [HL.out]
        exact ownsRow_base HE.out HB.out.size

end Go.Proofs.Ytmhckbcddmdchaa
namespace Go.Proofs.Ytmhckbcddmdchaa
open Go.RowKit
set_option linter.unusedVariables false

/-- A text is among the first of a list. -/
def inFirst (L : List ByteArray) (s : ByteArray) (j : Nat) : Bool := (L.take j).any (fun x => decide (x = s))
theorem inFirst_next (L : List ByteArray) (s : ByteArray) (j : Nat) (x : ByteArray) (h : L[j]? = some x) : inFirst L s (j + 1) = (inFirst L s j || decide (x = s)) := by
  unfold inFirst
  rw [take_more _ _ _ h, List.any_append]
  simp

theorem addAll_le (acc l : List ByteArray) : (addAll acc l).length ≤ acc.length + l.length := by
  induction l generalizing acc with
  | nil => simp [addAll]
  | cons x l ih =>
    have h1 := ih (addN acc x)
    have h2 := addN_length acc x
    have e : addAll acc (x :: l) = addAll (addN acc x) l := rfl
    rw [e]
    simp only [List.length_cons]
    omega

set_option maxHeartbeats 4000000 in
set_option maxRecDepth 100000 in
theorem refNames_any (t : T) (hcnt : t.cnt ≤ 999990) (w : World) (v : Value) (hv : TIn w 0 t v) : Calls Try.prog 14 #[v] w fun e w' => ∃ v', e = .returned v' ∧ w'.ownsRow w.heap.size 9 1 v' (addAll [] t.nams).length (strCells (addAll [] t.nams)) ∧ Below w.heap.size w w' := by
  have HV := hidIn hv
  obtain ⟨a, cap, rfl, hc1, hc2, hK⟩ := hv
  have HLEN : Hid (t.nams.length ≤ 999990) := by have := nams_cnt t; show _ ≤ _; omega
  clear hK
  go_enter Try.func14, Try.ntmps14
  go_wp2_with fail
  obtain ⟨W, hW⟩ : ∃ W, W = w.alloc (.cells #[.int .i64 t.kind, .string t.s, .int .i64 t.n, .slice a t.k.length cap] 29) := ⟨_, rfl⟩
  have HB : Hid (Below w.heap.size w W) := by rw [hW]; exact below_alloc (Below.refl _ _) _
  have HVW := hidIn (HV.out.below HB.out)
  rw [← hW]
  clear hW HV
  refine (refNames0_any t hcnt W _ HVW.out).mono ?_
  rintro e w1 ⟨v1, rfl, hown1, hb1⟩
  have HB1 := hidIn hb1
  have HO1 := hidIn hown1
  clear hb1
  obtain ⟨L, HL⟩ : ∃ L, Hid (t.nams = L) := ⟨_, rfl⟩
  rw [HL.out] at hown1 HLEN HO1
  obtain ⟨sa, sc, rfl, htx, hll, _⟩ := own_txt hown1
  obtain ⟨i0, gi, gz0, gz1, gz2⟩ := info_parts infoStr
  have HTX := hidIn htx
  clear hown1 hcnt htx
  have hLl := HLEN.out
  go_wp2_with fail
  go_loopw [11, 3] (fun s11 s3 wr => ∃ i : Nat, i ≤ L.length ∧ s11 = .int .i64 i ∧ wr.ownsRow w1.heap.size 9 1 s3 (addAll [] (L.take i)).length (strCells (addAll [] (L.take i))) ∧ Below w1.heap.size w1 wr) (fun s11 _ _ => L.length - (intOf s11).toNat)
  case atStart => exact ⟨0, by omega, rfl, by simp only [List.take_zero]; exact World.ownsRow_nil _ _ _ _, Below.refl _ _⟩
  case round =>
    obtain ⟨i, hi, rfl, hrow, hbr⟩ := hrel
    obtain ⟨wA, hwA⟩ : ∃ y, y = wr := ⟨_, rfl⟩
    subst hwA
    have HROW := hidIn hrow
    have HBA := hidIn hbr
    clear hrow
    by_cases hlt : i < L.length
    · have hlt' : (i : Int) < (L.length : Int) := by omega
      obtain ⟨s, hs⟩ : ∃ s, L[i]? = some s := ⟨_, List.getElem?_eq_getElem hlt⟩
      obtain ⟨g, rfl, k0⟩ := (HTX.out.below hbr) i s hs
      have HNX : Hid (addAll [] (L.take (i + 1)) = addN (addAll [] (L.take i)) s) := by unfold Hid; rw [take_more _ _ _ hs, addAll_append]; rfl
      have haln : (addAll [] (L.take i)).length ≤ i := by have := addAll_le [] (L.take i); simp at this; omega
      clear hs hbr
      generalize addAll [] (L.take i) = acc at *
      obtain ⟨ao, ac, rfl, hatx, hal, _⟩ := own_txt HROW.out
      have HATX := hidIn hatx
      clear hatx
      go_wp2_with fail
      go_loopw [17, 6] (fun s17 s6 wr => ∃ j : Nat, j ≤ acc.length ∧ s17 = .int .i64 j ∧ s6 = .bool (inFirst acc s j) ∧ wr = wA) (fun s17 _ _ => acc.length - (intOf s17).toNat)
      case atStart => exact ⟨0, by omega, rfl, by simp [inFirst], rfl⟩
      case round =>
        obtain ⟨j, hj, rfl, rfl, hwr⟩ := hrel
        subst hwr
        by_cases hjl : j < acc.length
        · have hjl' : (j : Int) < (acc.length : Int) := by omega
          obtain ⟨y, hy⟩ : ∃ y, acc[j]? = some y := ⟨_, List.getElem?_eq_getElem hjl⟩
          obtain ⟨g2, rfl, k1⟩ := HATX.out j y hy
          have HJ := hidIn (inFirst_next acc s j y hy)
          clear hy
          cases hin : inFirst acc s j with
          | true =>
            rw [hin] at HJ
            go_wp2_with fail
            go_roundw
            case rel => exact ⟨j + 1, by omega, by go_num, by rw [HJ.out]; rfl, trivial⟩
            case measure => simp [intOf]; omega
          | false =>
            rw [hin] at HJ
            by_cases hys : y = s
            · subst hys
              go_wp2_with fail
              go_roundw
              case rel => exact ⟨j + 1, by omega, by go_num, by rw [HJ.out]; simp, trivial⟩
              case measure => simp [intOf]; omega
            · have hys' : ¬ y.toList = s.toList := fun e => hys (toList_inj e)
              have hys2 : (y.toList == s.toList) = false := by rw [beq_eq_false_iff_ne]; exact hys'
              go_wp2_with fail
              go_roundw
              case rel => exact ⟨j + 1, by omega, by go_num, by rw [HJ.out]; simp [hys], trivial⟩
              case measure => simp [intOf]; omega
        · have hje : j = acc.length := by omega
          subst hje
          have HIN : Hid (inFirst acc s acc.length = inN acc s) := by unfold Hid inFirst inN; rw [List.take_length]
          rw [HIN.out]
          cases hin : inN acc s with
          | true =>
            have HAD : Hid (addN acc s = acc) := by unfold Hid addN; rw [if_pos hin]
            go_wp2_with fail
            go_roundw
            case rel => exact ⟨i + 1, by omega, by go_num, by rw [HNX.out, HAD.out]; exact HROW.out, HBA.out⟩
            case measure => simp [intOf]; omega
          | false =>
            have HAD : Hid (addN acc s = acc ++ [s]) := by unfold Hid addN; rw [if_neg (by rw [hin]; simp)]
            go_wp2_with (first
              | (at_builtin; refine wpList_append_own _ rfl _ _ 23 rfl w1.heap.size 9 i0 (.string ByteArray.empty) 1 16 Try.underlying23 gi gz0 gz1 gz2 rfl (by decide) _ _ _ rfl (HROW.out.alloc _) ⟨_, 0, none⟩ 1 1 [.string s] rfl rfl (cell_one_in rfl _ _) (by intro u hu; simp at hu; subst hu; rfl) (by unfold maxLen; omega) (by omega) (by have := HBA.out.size; simp; omega) ?_; intro v2 w2 hown2 hgrow2 _)
              | go_in)
            go_roundw
            case rel => exact ⟨i + 1, by omega, by go_num, by rw [HNX.out, HAD.out]; simpa [strCells] using hown2, ((HBA.out.alloc HBA.out.size _).grown hgrow2 (by have := HBA.out.size; simp; omega) (fun j hj => (HROW.out.lt j hj).1))⟩
            case measure => simp [intOf]; omega
    · have hle : i = L.length := by omega
      subst hle
      have HE : Hid (wA.ownsRow w1.heap.size 9 1 u3 (addAll [] L).length (strCells (addAll [] L))) := by have h := HROW.out; rw [List.take_length] at h; exact h
      go_wp2_with fail
      go_ret
      rw [HL.out]
      exact ⟨_, rfl, ownsRow_base HE.out (Nat.le_trans HB.out.size HB1.out.size), HB.out.trans ((HB1.out.trans (HBA.out.mono HB1.out.size)).mono HB.out.size)⟩

end Go.Proofs.Ytmhckbcddmdchaa
namespace Go.Proofs.Ytmhckbcddmdchaa
open Go.RowKit
set_option linter.unusedVariables false

theorem sameTr_mk (kind : Int) (s : ByteArray) (n : Int) (k : List T) (u : T) : sameTr (.mk kind s n k) u = (decide (kind ≠ 0) && (decide (kind = u.kind) && (decide (s = u.s) && (decide (n = u.n) && (decide (k.length = u.k.length) && sameTL k u.k))))) := by rw [sameTr]
theorem plain_same (a : O) : ∀ b, sameTr (plain a) (plain b) = sameO a b := by
  induction a with
  | const n => intro b; cases b <;> simp [plain, sameTr_mk, sameTL, sameO, T.kind, T.s, T.n, T.k] <;> (first | rfl | congr)
  | fix s => intro b; cases b <;> simp [plain, sameTr_mk, sameTL, sameO, T.kind, T.s, T.n, T.k] <;> (first | rfl | congr)
  | odd v => intro b; cases b <;> simp [plain, sameTr_mk, sameTL, sameO, T.kind, T.s, T.n, T.k]
  | neg o ih => intro b; cases b <;> simp [plain, sameTr_mk, sameTL, sameO, T.kind, T.s, T.n, T.k, ih]
  | add l r h1 h2 => intro b; cases b <;> simp [plain, sameTr_mk, sameTL, sameO, T.kind, T.s, T.n, T.k, h1, h2]
  | mul l r h1 h2 => intro b; cases b <;> simp [plain, sameTr_mk, sameTL, sameO, T.kind, T.s, T.n, T.k, h1, h2]
  | max l r h1 h2 => intro b; cases b <;> simp [plain, sameTr_mk, sameTL, sameO, T.kind, T.s, T.n, T.k, h1, h2]
theorem sameO_comm (a : O) : ∀ b, sameO a b = sameO b a := by
  induction a with
  | const n => intro b; cases b <;> simp [sameO, eq_comm]
  | fix s => intro b; cases b <;> simp [sameO, eq_comm]
  | odd v => intro b; cases b <;> simp [sameO]
  | neg o ih => intro b; cases b <;> simp [sameO, ih]
  | add l r h1 h2 => intro b; cases b <;> simp [sameO, h1, h2]
  | mul l r h1 h2 => intro b; cases b <;> simp [sameO, h1, h2]
  | max l r h1 h2 => intro b; cases b <;> simp [sameO, h1, h2]
theorem plain_nams (o : O) : (plain o).nams = o.all := by
  induction o <;> simp_all [plain, T.nams, namsL, O.all]
theorem plain_names (o : O) : addAll [] (plain o).nams = o.names := by rw [plain_nams]; rfl
theorem plain_chk (o : O) : chkT (plain o) true = chk o := by
  unfold chkT chk
  rw [plain_form, plain_nodes, plain_depth, plain_labs]
  simp [twice]
theorem plain_back (o : O) : plain (obsOf (plain o)) = plain o := by
  induction o with
  | const n => rfl
  | fix s => rfl
  | odd v => rfl
  | neg o ih => simp [plain, obsOf, obsL, ih]
  | add l r h1 h2 => simp [plain, obsOf, obsL, h1, h2]
  | mul l r h1 h2 => simp [plain, obsOf, obsL, h1, h2]
  | max l r h1 h2 => simp [plain, obsOf, obsL, h1, h2]

end Go.Proofs.Ytmhckbcddmdchaa
namespace Go.Proofs.Ytmhckbcddmdchaa
open Go.RowKit
set_option linter.unusedVariables false

theorem plainC_same (a : C) : ∀ b, sameTr (plainC a) (plainC b) = sameC a b := by
  induction a with
  | zero => intro b; cases b <;> simp [plainC, sameTr_mk, sameTL, sameC, T.kind, T.s, T.n, T.k]
  | one s => intro b; cases b <;> simp [plainC, sameTr_mk, sameTL, sameC, T.kind, T.s, T.n, T.k] <;> (first | rfl | congr)
  | odd v => intro b; cases b <;> simp [plainC, sameTr_mk, sameTL, sameC, T.kind, T.s, T.n, T.k]
  | give c ih => intro b; cases b <;> simp [plainC, sameTr_mk, sameTL, sameC, T.kind, T.s, T.n, T.k, ih]
  | and l r h1 h2 => intro b; cases b <;> simp [plainC, sameTr_mk, sameTL, sameC, T.kind, T.s, T.n, T.k, h1, h2]
  | or s l r h1 h2 => intro b; cases b <;> simp [plainC, sameTr_mk, sameTL, sameC, T.kind, T.s, T.n, T.k, h1, h2] <;> (first | rfl | congr)
  | scale o c h1 => intro b; cases b <;> simp [plainC, sameTr_mk, sameTL, sameC, T.kind, T.s, T.n, T.k, h1, plain_same]
  | when d c h1 => intro b; cases b <;> simp [plainC, sameTr_mk, sameTL, sameC, T.kind, T.s, T.n, T.k, h1] <;> (first | rfl | congr)
  | iff o l r h1 h2 => intro b; cases b <;> simp [plainC, sameTr_mk, sameTL, sameC, T.kind, T.s, T.n, T.k, h1, h2, plain_same]
theorem sameC_comm (a : C) : ∀ b, sameC a b = sameC b a := by
  induction a with
  | zero => intro b; cases b <;> simp [sameC]
  | one s => intro b; cases b <;> simp [sameC, eq_comm]
  | odd v => intro b; cases b <;> simp [sameC]
  | give c ih => intro b; cases b <;> simp [sameC, ih]
  | and l r h1 h2 => intro b; cases b <;> simp [sameC, h1, h2]
  | or s l r h1 h2 =>
    intro b
    cases b <;> simp [sameC]
    rename_i s2 l2 r2
    rw [h1, h2, show decide (s = s2) = decide (s2 = s) from by simp [eq_comm]]
  | scale o c h1 => intro b; cases b <;> simp [sameC, h1, sameO_comm]
  | when d c h1 =>
    intro b
    cases b <;> simp [sameC]
    rename_i d2 c2
    rw [h1, show decide (d = d2) = decide (d2 = d) from by simp [eq_comm]]
  | iff o l r h1 h2 => intro b; cases b <;> simp [sameC, h1, h2, sameO_comm]
theorem plainC_nams (c : C) : (plainC c).nams = c.all := by
  induction c <;> simp_all [plainC, T.nams, namsL, C.all, plain_nams]
theorem plainC_names (c : C) : addAll [] (plainC c).nams = c.names := by rw [plainC_nams]; rfl
theorem plainC_back (c : C) : plainC (termOf (plainC c)) = plainC c := by
  induction c with
  | zero => rfl
  | one s => rfl
  | odd v => rfl
  | give c ih => show plainC (.give (termOf (plainC c))) = _; simp [plainC, ih]
  | and l r h1 h2 => show plainC (.and (termOf (plainC l)) (termOf (plainC r))) = _; simp [plainC, h1, h2]
  | or s l r h1 h2 => show plainC (.or s (termOf (plainC l)) (termOf (plainC r))) = _; simp [plainC, h1, h2]
  | scale o c h1 => show plainC (.scale (obsOf (plain o)) (termOf (plainC c))) = _; simp [plainC, h1, plain_back]
  | when d c h1 => show plainC (.when d (termOf (plainC c))) = _; simp [plainC, h1]
  | iff o l r h1 h2 => show plainC (.iff (obsOf (plain o)) (termOf (plainC l)) (termOf (plainC r))) = _; simp [plainC, h1, h2, plain_back]

end Go.Proofs.Ytmhckbcddmdchaa
