/- The document's own answers on trees: how many there are, how deep, whether they are of their form. -/
import Derived.Test.YtkioolbjmcpjpaaGreatDoorTree
namespace Go.Proofs.YtkioolbjmcpjpaaGreatDoor
open Go.RowKit
set_option linter.unusedVariables false

mutual
def T.nodes : T → Nat
  | .mk kind _ _ k => if kind = 0 then 0 else nodesL k + 1
def nodesL : List T → Nat
  | [] => 0
  | t :: l => t.nodes + nodesL l
end
mutual
def T.depth : T → Nat
  | .mk kind _ _ k => if kind = 0 then 0 else depthL k + 1
def depthL : List T → Nat
  | [] => 0
  | t :: l => Max.max t.depth (depthL l)
end
theorem nodesL_snoc (l : List T) (k : T) : nodesL (l ++ [k]) = nodesL l + k.nodes := by
  induction l with
  | nil => simp [nodesL]
  | cons a l ih => simp [nodesL, ih]; omega
theorem depthL_snoc (l : List T) (k : T) : depthL (l ++ [k]) = Max.max (depthL l) k.depth := by
  induction l with
  | nil => simp [depthL]
  | cons a l ih => simp only [List.cons_append, depthL, ih]; omega
theorem T_depth_nodes : ∀ t : T, t.depth ≤ t.nodes := by
  intro t
  induction t using T.ind with
  | _ kind s n k ih =>
    have h : depthL k ≤ nodesL k := by
      induction k with
      | nil => simp [depthL]
      | cons a l ihl =>
        have h1 := ih a (by simp)
        have h2 := ihl (fun t ht => ih t (by simp [ht]))
        simp only [depthL, nodesL]
        omega
    unfold T.depth T.nodes
    split <;> omega
theorem depthL_nodesL (l : List T) : depthL l ≤ nodesL l := by
  induction l with
  | nil => simp [depthL]
  | cons a l ih => have := T_depth_nodes a; simp only [depthL, nodesL]; omega
theorem nodesL_take (l : List T) (i : Nat) : nodesL (l.take i) ≤ nodesL l := by
  induction l generalizing i with
  | nil => simp [nodesL]
  | cons a l ih => cases i with
    | zero => simp [nodesL]
    | succ i => simp [nodesL]; exact ih i
theorem nodesL_mem (l : List T) (t : T) (h : t ∈ l) : t.nodes ≤ nodesL l := by
  induction l with
  | nil => simp at h
  | cons a l ih =>
    simp only [List.mem_cons] at h
    simp only [nodesL]
    rcases h with rfl | h
    · omega
    · have := ih h; omega
theorem len_cap {w : World} {B : Nat} {t : T} {v : Value} (h : TIn w B t v) : t.k.length ≤ 9223372036854775807 := by
  obtain ⟨_, cap, _, h1, h2, _⟩ := h
  omega

set_option maxHeartbeats 2000000 in
set_option maxRecDepth 100000 in
theorem refSize_any (t : T) : ∀ (w : World) (v : Value), TIn w 0 t v → t.nodes ≤ 1000000 → Calls Tryz.prog 85 #[v] w fun e w' => e = .returned (.tuple #[.int .i64 (t.nodes : Int), .int .i64 (t.depth : Int)]) ∧ Below w.heap.size w w' := by
  induction t using T.ind with
  | _ kind s n k ih =>
  intro w v hv hsz
  have hkl := len_cap hv
  obtain ⟨a, cap, rfl, hc1, hc2, hK⟩ := hv
  simp only [T.kind, T.s, T.n, T.k] at hc1 hK hkl ⊢
  have HIH : Hid (∀ t ∈ k, ∀ (w : World) (v : Value), TIn w 0 t v → t.nodes ≤ 1000000 → Calls Tryz.prog 85 #[v] w fun e w' => e = .returned (.tuple #[.int .i64 (t.nodes : Int), .int .i64 (t.depth : Int)]) ∧ Below w.heap.size w w') := ih
  clear ih
  by_cases h0 : kind = 0
  · subst h0
    have e1 : (T.mk 0 s n k).nodes = 0 := by unfold T.nodes; rw [if_pos rfl]
    have e2 : (T.mk 0 s n k).depth = 0 := by unfold T.depth; rw [if_pos rfl]
    rw [e1, e2]
    clear hsz e1 e2 hK
    go_enter Tryz.func85, Tryz.ntmps85
    go_wp2_with fail
    go_ret2
    exact ⟨rfl, below_alloc (Below.refl _ _) _⟩
  · have e1 : (T.mk kind s n k).nodes = nodesL k + 1 := by unfold T.nodes; rw [if_neg h0]
    have e2 : (T.mk kind s n k).depth = depthL k + 1 := by unfold T.depth; rw [if_neg h0]
    rw [e1] at hsz
    have HE : Hid ((T.mk kind s n k).nodes = nodesL k + 1 ∧ (T.mk kind s n k).depth = depthL k + 1) := ⟨e1, e2⟩
    have HZ : Hid (nodesL k + 1 ≤ 1000000) := hsz
    have h0' : (kind == 0) = false := by simpa using h0
    have HK : Hid (KAt w 0 k a 0) := hK
    clear e1 e2 hsz hK
    go_enter Tryz.func85, Tryz.ntmps85
    go_wp2_with fail
    obtain ⟨W, hW⟩ : ∃ W, W = w.alloc (.cells #[.int .i64 kind, .string s, .int .i64 n, .slice a k.length cap] 33) := ⟨_, rfl⟩
    have HB : Hid (Below w.heap.size w W) := by rw [hW]; exact below_alloc (Below.refl _ _) _
    have HG : Hid (W.cell? ⟨w.heap.size, 3, none⟩ = some (.slice a k.length cap)) := by rw [hW]; exact (cell_of_row _ _ _ _ _ _ (heap_alloc_new _ _)).trans rfl
    rw [← hW]
    clear hW
    have HKW : Hid (KAt W 0 k a 0) := HK.out.below HB.out
    clear HK
    go_loopw [15, 4, 5] (fun s15 s4 s5 wr => ∃ i : Nat, i ≤ k.length ∧ s15 = .int .i64 i ∧ s4 = .int .i64 ((nodesL (k.take i) : Nat) + 1 : Int) ∧ s5 = .int .i64 (depthL (k.take i) : Nat) ∧ Below W.heap.size W wr) (fun s15 _ _ _ => k.length - (intOf s15).toNat)
    case atStart => exact ⟨0, by omega, rfl, rfl, rfl, Below.refl _ _⟩
    case round =>
      obtain ⟨i, hi, rfl, rfl, rfl, hbr⟩ := hrel
      have hs1 := nodesL_take k i
      have hs2 := depthL_nodesL (k.take i)
      have hs3 : nodesL k + 1 ≤ 1000000 := HZ.out
      by_cases hlt : i < k.length
      · have hlt' : (i : Int) < (k.length : Int) := by omega
        obtain ⟨t, hti⟩ : ∃ t, k[i]? = some t := ⟨_, List.getElem?_eq_getElem hlt⟩
        obtain ⟨b, o, ka, ca, rfl, c0, c1, c2, c3, ht⟩ := (HKW.out.below hbr).cells hti
        have g3 : wr.cell? ⟨w.heap.size, 3, none⟩ = some (.slice (some ⟨b, o, none⟩) k.length cap) := (hbr.cell (p := ⟨w.heap.size, 3, none⟩) (World.block_lt_of_cell? _ _ HG.out)).trans HG.out
        have HM : Hid (t ∈ k) := List.mem_of_getElem? hti
        have hnm : t.nodes ≤ 1000000 := by have := nodesL_mem k t HM.out; omega
        have htk := take_more _ _ _ hti
        have HT1 : Hid (nodesL (k.take (i + 1)) = nodesL (k.take i) + t.nodes) := by unfold Hid; rw [htk, nodesL_snoc]
        have HT2 : Hid (depthL (k.take (i + 1)) = Max.max (depthL (k.take i)) t.depth) := by unfold Hid; rw [htk, depthL_snoc]
        have HTI : Hid (TIn wr 0 t (.agg #[.int .i64 t.kind, .string t.s, .int .i64 t.n, .slice ka t.k.length ca])) := ht
        have hs4 := nodesL_take k (i + 1)
        rw [HT1.out] at hs4
        have hs5 := T_depth_nodes t
        clear hti htk ht
        generalize nodesL (k.take i) = S at *
        generalize depthL (k.take i) = D at *
        go_wp2_with fail
        refine (HIH.out t HM.out wr _ HTI.out hnm).mono ?_
        rintro e w2 ⟨rfl, hb2⟩
        have HB2 : Hid (Below W.heap.size W w2) := hbr.trans (hb2.mono hbr.size)
        clear hb2 hbr c0 c1 c2 c3 g3 HTI
        go_wp2_with fail
        go_roundw
        case rel => exact ⟨i + 1, by omega, by go_num, by rw [HT1.out]; go_num, by rw [HT2.out]; go_num, HB2.out⟩
        case measure => simp [intOf]; omega
      · have hle : i = k.length := by omega
        subst hle
        rw [List.take_length]
        rw [List.take_length] at hs1 hs2
        go_wp2_with fail
        go_ret2
        exact ⟨by rw [HE.out.1, HE.out.2]; simp, HB.out.trans (hbr.mono HB.out.size)⟩

end Go.Proofs.YtkioolbjmcpjpaaGreatDoor
