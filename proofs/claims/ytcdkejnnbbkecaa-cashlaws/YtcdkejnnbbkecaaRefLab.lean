/- The document's own answer: the labels of a tree. -/
import Derived.Test.YtcdkejnnbbkecaaRefT
import Derived.Test.YtcdkejnnbbkecaaRows2
namespace Go.Proofs.Ytcdkejnnbbkecaa
open Go.RowKit
set_option linter.unusedVariables false

mutual
/-- The labels of a tree's Ors, in order. -/
def T.labs : T → List ByteArray
  | .mk kind s _ k => (if kind = 5 then [s] else []) ++ labsL k
def labsL : List T → List ByteArray
  | [] => []
  | t :: l => t.labs ++ labsL l
end
mutual
/-- How many trees there are in a tree. -/
def T.cnt : T → Nat
  | .mk _ _ _ k => cntL k + 1
def cntL : List T → Nat
  | [] => 0
  | t :: l => t.cnt + cntL l
end
theorem labsL_snoc (l : List T) (k : T) : labsL (l ++ [k]) = labsL l ++ k.labs := by
  induction l with
  | nil => simp [labsL]
  | cons a l ih => simp [labsL, ih]
theorem cntL_snoc (l : List T) (k : T) : cntL (l ++ [k]) = cntL l + k.cnt := by
  induction l with
  | nil => simp [cntL]
  | cons a l ih => simp [cntL, ih]; omega
theorem cntL_take (l : List T) (i : Nat) : cntL (l.take i) ≤ cntL l := by
  induction l generalizing i with
  | nil => simp [cntL]
  | cons a l ih => cases i with
    | zero => simp [cntL]
    | succ i => simp [cntL]; exact ih i
theorem cntL_mem (l : List T) (t : T) (h : t ∈ l) : t.cnt ≤ cntL l := by
  induction l with
  | nil => simp at h
  | cons a l ih =>
    simp only [List.mem_cons] at h
    simp only [cntL]
    rcases h with rfl | h
    · omega
    · have := ih h; omega
theorem labs_cnt : ∀ t : T, t.labs.length ≤ t.cnt := by
  intro t
  induction t using T.ind with
  | _ kind s n k ih =>
    have h : (labsL k).length ≤ cntL k := by
      induction k with
      | nil => simp [labsL]
      | cons a l ihl =>
        have h1 := ih a (by simp)
        have h2 := ihl (fun t ht => ih t (by simp [ht]))
        simp only [labsL, cntL, List.length_append]
        omega
    unfold T.labs T.cnt
    rw [List.length_append]
    split <;> simp <;> omega
theorem labsL_cnt (l : List T) : (labsL l).length ≤ cntL l := by
  induction l with
  | nil => simp [labsL]
  | cons a l ih => have := labs_cnt a; simp only [labsL, cntL, List.length_append]; omega

set_option maxHeartbeats 4000000 in
set_option maxRecDepth 100000 in
theorem refLabels_any (t : T) : t.cnt ≤ 999990 → ∀ (w : World) (v : Value), TIn w 0 t v → Calls Try.prog 31 #[v] w fun e w' => ∃ v', e = .returned v' ∧ w'.ownsRow w.heap.size 9 1 v' t.labs.length (strCells t.labs) ∧ Below w.heap.size w w' := by
  induction t using T.ind with
  | _ kind s n k ih =>
  intro hcnt w v hv
  have hkl := len_cap hv
  obtain ⟨a, cap, rfl, hc1, hc2, hK⟩ := hv
  simp only [T.kind, T.s, T.n, T.k] at hc1 hK hkl ⊢
  obtain ⟨i0, gi, gz0, gz1, gz2⟩ := info_parts infoStr
  have hct : (T.mk kind s n k).cnt = cntL k + 1 := by rw [T.cnt]
  rw [hct] at hcnt
  have HIH : Hid (∀ t ∈ k, ∀ (w : World) (v : Value), TIn w 0 t v → Calls Try.prog 31 #[v] w fun e w' => ∃ v', e = .returned v' ∧ w'.ownsRow w.heap.size 9 1 v' t.labs.length (strCells t.labs) ∧ Below w.heap.size w w') := fun t ht => ih t ht (by have := cntL_mem k t ht; omega)
  have HLT0 : Hid ((T.mk kind s n k).labs = (if kind = 5 then [s] else []) ++ labsL k) := by unfold Hid; rw [T.labs]
  have HK := hidIn hK
  have HCN := hidIn hcnt
  clear ih hK hct
  go_enter Try.func31, Try.ntmps31
  go_upto_if 7 with fail
  obtain ⟨W, hW⟩ : ∃ W, W = w.alloc (.cells #[.int .i64 kind, .string s, .int .i64 n, .slice a k.length cap] 30) := ⟨_, rfl⟩
  have HB : Hid (Below w.heap.size w W) := by rw [hW]; exact below_alloc (Below.refl _ _) _
  have HBK : Hid (W.heap[w.heap.size]? = some (.cells #[.int .i64 kind, .string s, .int .i64 n, .slice a k.length cap] 30 (0, 0))) := by rw [hW]; exact heap_alloc_new _ _
  rw [← hW]
  clear hW
  go_cut [3] (fun s3 wx => wx.ownsRow W.heap.size 9 1 s3 (if kind = 5 then [s] else []).length (strCells (if kind = 5 then [s] else [])) ∧ Below W.heap.size W wx)
  case first =>
    by_cases h5 : kind = 5
    · have h5' : (kind == 5) = true := by simp [h5]
      have hcl := (cell_of_row _ _ 1 _ _ _ HBK.out)
      rw [show (#[.int .i64 kind, .string s, .int .i64 n, .slice a k.length cap] : Array Value)[1]? = some (.string s) from rfl] at hcl
      have HIF : Hid ((if kind = 5 then [s] else []) = [s]) := by unfold Hid; rw [if_pos h5]
      clear h5
      go_wp2_with (first
        | (at_builtin; refine wpList_append_own _ rfl _ _ 23 rfl W.heap.size 9 i0 (.string ByteArray.empty) 1 16 Try.underlying23 gi gz0 gz1 gz2 rfl (by decide) _ _ _ rfl (World.ownsRow_nil _ _ _ _) ⟨W.heap.size, 0, none⟩ 1 1 [.string s] rfl rfl (cell_one_in rfl _ _) (by intro u hu; simp at hu; subst hu; rfl) (by unfold maxLen; omega) (by omega) (by simp) ?_; intro v2 w2 hown2 hgrow2 _)
        | go_in)
      go_meet
      case rel =>
        have h1 : Below W.heap.size W (W.alloc (.cells #[.string s] 9)) := below_alloc (Below.refl _ _) _
        exact ⟨by rw [HIF.out]; simpa [strCells] using hown2, h1.grown hgrow2 (by simp) (fun j hj => by cases hj)⟩
    · have h5' : (kind == 5) = false := by simp [h5]
      have HIF : Hid ((if kind = 5 then [s] else []) = ([] : List ByteArray)) := by unfold Hid; rw [if_neg h5]
      clear h5
      go_wp2_with fail
      go_meet
      case rel => exact ⟨by rw [HIF.out]; exact World.ownsRow_nil _ _ _ _, Below.refl _ _⟩
  case rest =>
    obtain ⟨hrow, hbx⟩ := hcut
    generalize hl0 : (if kind = 5 then [s] else []) = l0 at *
    have hl1 : l0.length ≤ 1 := by rw [← hl0]; split <;> simp
    clear hl0
    have HROW0 := hidIn hrow
    have HBX := hidIn hbx
    have HG : Hid (∀ X, Below W.heap.size W X → X.cell? ⟨w.heap.size, 3, none⟩ = some (.slice a k.length cap)) := fun X hX => (cell_of_row _ _ _ _ _ _ ((hX.block _ (Array.getElem?_eq_some_iff.1 HBK.out).1).trans HBK.out)).trans rfl
    have HKW : Hid (KAt W 0 k a 0) := HK.out.below HB.out
    have g3 := HG.out wc hbx
    clear hrow hbx HBK HK
    go_wp2_with fail
    clear g3
    go_loopw [16, 3] (fun s16 s3 wr => ∃ i : Nat, i ≤ k.length ∧ s16 = .int .i64 i ∧ wr.ownsRow W.heap.size 9 1 s3 (l0 ++ labsL (k.take i)).length (strCells (l0 ++ labsL (k.take i))) ∧ Below W.heap.size W wr) (fun s16 _ _ => k.length - (intOf s16).toNat)
    case atStart => exact ⟨0, by omega, rfl, by simpa [labsL] using HROW0.out, HBX.out⟩
    case round =>
      clear HROW0 HBX
      obtain ⟨i, hi, rfl, hrow, hbr⟩ := hrel
      have HROW := hidIn hrow
      have HBR := hidIn hbr
      by_cases hlt : i < k.length
      · have hlt' : (i : Int) < (k.length : Int) := by omega
        obtain ⟨t, hti⟩ : ∃ t, k[i]? = some t := ⟨_, List.getElem?_eq_getElem hlt⟩
        obtain ⟨b, o, ka, ca, rfl, c0, c1, c2, c3, ht⟩ := (HKW.out.below hbr).cells hti
        have g3 := HG.out wr hbr
        have HM : Hid (t ∈ k) := List.mem_of_getElem? hti
        have HTI := hidIn ht
        have htk := take_more _ _ _ hti
        have HT3 : Hid (l0 ++ labsL (k.take (i + 1)) = (l0 ++ labsL (k.take i)) ++ t.labs) := by unfold Hid; rw [htk, labsL_snoc, List.append_assoc]
        have HLEN : Hid ((l0 ++ labsL (k.take i)).length + t.labs.length ≤ 1000000) := by
          have h1 := labs_cnt t
          have h2 := labsL_cnt (k.take i)
          have h3 := cntL_take k (i + 1)
          rw [htk, cntL_snoc] at h3
          have := HCN.out
          rw [List.length_append]
          show _ ≤ _
          omega
        clear hti htk ht hrow hbr
        generalize l0 ++ labsL (k.take i) = L at *
        go_wp2_with fail
        refine (HIH.out t HM.out wr _ HTI.out).mono ?_
        rintro e w4 ⟨v4, rfl, hrow4, hb4⟩
        have HB4 := hidIn (HBR.out.trans (hb4.mono HBR.out.size))
        have HROW4 := hidIn (ownsRow_below HROW.out hb4)
        have HNEW := hidIn hrow4
        clear hb4 hrow4 c0 c1 c2 c3 g3 HTI
        go_wp2_with (first
          | (at_builtin; refine wpList_append_rows _ rfl _ _ rfl W.heap.size _ L rfl HROW4.out wr.heap.size _ t.labs rfl HNEW.out HLEN.out HB4.out.size ?_; intro v5 w5 hown5 hgrow5 hloc5)
          | go_in)
        have HB5 : Hid (Below W.heap.size W w5) := HB4.out.grown hgrow5 HB4.out.size (fun j hj => (HROW4.out.lt j hj).1)
        have HOWN5 := hidIn hown5
        clear hown5 hgrow5 hloc5
        go_wp2_with fail
        go_roundw
        case rel => exact ⟨i + 1, by omega, by go_num, by rw [HT3.out]; exact HOWN5.out, HB5.out⟩
        case measure => simp [intOf]; omega
      · have hle : i = k.length := by omega
        subst hle
        have HE : Hid (wr.ownsRow W.heap.size 9 1 u3 (l0 ++ labsL k).length (strCells (l0 ++ labsL k))) := by have h := HROW.out; rw [List.take_length] at h; exact h
        clear hrow HROW hbr
        go_wp2_with fail
        go_ret
        refine ⟨_, rfl, ?_, HB.out.trans (HBR.out.mono HB.out.size)⟩
        rw [HLT0.out]
        exact ownsRow_base HE.out HB.out.size

end Go.Proofs.Ytcdkejnnbbkecaa
