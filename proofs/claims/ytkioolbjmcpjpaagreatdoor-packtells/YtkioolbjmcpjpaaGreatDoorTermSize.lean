/- How many terms and numbers a contract has, how deep: what package term answers. -/
import Derived.Test.YtkioolbjmcpjpaaGreatDoorTermOpen
namespace Go.Proofs.YtkioolbjmcpjpaaGreatDoor
open Go.RowKit
set_option linter.unusedVariables false

def C.nodes : C → Nat
  | .zero => 1
  | .one _ => 1
  | .give c => c.nodes + 1
  | .and l r => l.nodes + r.nodes + 1
  | .or _ l r => l.nodes + r.nodes + 1
  | .scale o c => o.nodes + c.nodes + 1
  | .when _ c => c.nodes + 1
  | .iff o l r => o.nodes + l.nodes + r.nodes + 1
  | .odd _ => 0
def C.depth : C → Nat
  | .zero => 1
  | .one _ => 1
  | .give c => c.depth + 1
  | .and l r => Max.max l.depth r.depth + 1
  | .or _ l r => Max.max l.depth r.depth + 1
  | .scale o c => Max.max o.depth c.depth + 1
  | .when _ c => c.depth + 1
  | .iff o l r => Max.max o.depth (Max.max l.depth r.depth) + 1
  | .odd _ => 0
def sumC : List C → Nat
  | [] => 0
  | k :: ks => k.nodes + sumC ks
def maxC : List C → Nat
  | [] => 0
  | k :: ks => Max.max k.depth (maxC ks)
theorem sumC_snoc (l : List C) (k : C) : sumC (l ++ [k]) = sumC l + k.nodes := by
  induction l with
  | nil => simp [sumC]
  | cons a l ih => simp [sumC, ih]; omega
theorem maxC_snoc (l : List C) (k : C) : maxC (l ++ [k]) = Max.max (maxC l) k.depth := by
  induction l with
  | nil => simp [maxC]
  | cons a l ih => simp only [List.cons_append, maxC, ih]; omega
theorem cnodes_kids (c : C) (h : c.kind ≠ 0) : c.nodes = sumN c.nums + sumC c.kids + 1 := by
  cases c <;> simp [C.nodes, C.kids, C.nums, sumN, sumC, C.kind] at h ⊢ <;> omega
theorem cdepth_kids (c : C) (h : c.kind ≠ 0) : c.depth = Max.max (maxD c.nums) (maxC c.kids) + 1 := by
  cases c <;> simp [C.depth, C.kids, C.nums, maxD, maxC, C.kind] at h ⊢ <;> omega
theorem cdepth_nodes (c : C) : c.depth ≤ c.nodes := by
  induction c with
  | scale o c h => have := depth_nodes o; simp only [C.depth, C.nodes]; omega
  | iff o l r h1 h2 => have := depth_nodes o; simp only [C.depth, C.nodes]; omega
  | _ => simp only [C.depth, C.nodes]; omega
theorem sumC_take (l : List C) (i : Nat) : sumC (l.take i) ≤ sumC l := by
  induction l generalizing i with
  | nil => simp [sumC]
  | cons a l ih => cases i with
    | zero => simp [sumC]
    | succ i => simp [sumC]; exact ih i
theorem maxC_sumC (l : List C) : maxC l ≤ sumC l := by
  induction l with
  | nil => simp [maxC]
  | cons a l ih => have := cdepth_nodes a; simp only [maxC, sumC]; omega
theorem codd_kids (c : C) (h : c.kind = 0) : c.kids = [] ∧ c.nums = [] ∧ c.nodes = 0 ∧ c.depth = 0 := by
  cases c <;> simp [C.kind, C.kids, C.nums, C.nodes, C.depth] at h ⊢
theorem cnodes_kid {c k : C} (h : k ∈ c.kids) : k.nodes < c.nodes := by
  cases c <;> simp [C.kids] at h
  case give => subst h; simp [C.nodes]
  case scale => subst h; simp [C.nodes]; omega
  case when => subst h; simp [C.nodes]
  all_goals rcases h with rfl | rfl <;> simp [C.nodes] <;> omega
theorem cnodes_num {c : C} {k : O} (h : k ∈ c.nums) : k.nodes < c.nodes := by
  cases c <;> simp [C.nums] at h
  all_goals subst h; simp [C.nodes]; omega

set_option maxHeartbeats 4000000 in
set_option maxRecDepth 100000 in
theorem sizeT_any (c : C) : c.Ok → c.nodes ≤ 1000000 → ∀ w : World, Calls Tryz.prog 88 #[c.val] w fun e w' => e = .returned (.tuple #[.int .i64 (c.nodes : Int), .int .i64 (c.depth : Int)]) ∧ Below w.heap.size w w' := by
  induction c using C.ind with
  | _ c ih =>
  intro hok hsz w
  have HIH : Hid (∀ k ∈ c.kids, ∀ w : World, Calls Tryz.prog 88 #[k.val] w fun e w' => e = .returned (.tuple #[.int .i64 (k.nodes : Int), .int .i64 (k.depth : Int)]) ∧ Below w.heap.size w w') :=
    fun k hk => ih k hk (hok.kid hk) (by have := cnodes_kid hk; omega)
  have HNH : Hid (∀ k ∈ c.nums, ∀ w : World, Calls Tryz.prog 127 #[k.val] w fun e w' => e = .returned (.tuple #[.int .i64 (k.nodes : Int), .int .i64 (k.depth : Int)]) ∧ Below w.heap.size w w') :=
    fun k hk => size_any k (hok.num hk) (by have := cnodes_num hk; omega)
  clear ih
  have h2 := c.kids_two
  have h1 := c.nums_one
  have HZ : Hid (c.nodes ≤ 1000000) := hsz
  clear hsz
  go_enter Tryz.func88, Tryz.ntmps88
  go_wp2_with fail
  refine (openT_any c w hok).mono ?_
  rintro e w1 ⟨a, b, rfl, hn, hk, hna, hnb, hb1⟩
  have HN : Hid (HasObs w1 a c.nums) := hn
  have HK : Hid (HasTerm w1 b c.kids) := hk
  clear hn hk hok hna hnb
  unfold headT
  by_cases h0 : c.kind = 0
  · obtain ⟨e1, e2, e3, e4⟩ := codd_kids c h0
    go_wp2_with fail
    go_ret2
    exact ⟨by rw [e3, e4]; rfl, below_alloc hb1 _⟩
  · have h0' : (c.kind == 0) = false := by simpa using h0
    have HS : Hid (c.nodes = sumN c.nums + sumC c.kids + 1) := cnodes_kids c h0
    have HD : Hid (c.depth = Max.max (maxD c.nums) (maxC c.kids) + 1) := cdepth_kids c h0
    have HB1 : Hid (Below w.heap.size w w1) := hb1
    clear hb1
    go_wp2_with fail
    go_loopw [26, 2, 3] (fun s26 s2 s3 wr => ∃ i : Nat, i ≤ c.nums.length ∧ s26 = .int .i64 i ∧ s2 = .int .i64 (sumN (c.nums.take i) : Nat) ∧ s3 = .int .i64 (maxD (c.nums.take i) : Nat) ∧ Below w1.heap.size w1 wr) (fun s26 _ _ _ => c.nums.length - (intOf s26).toNat)
    case atStart => exact ⟨0, by omega, rfl, rfl, rfl, below_alloc (Below.refl _ _) _⟩
    case round =>
      obtain ⟨i, hi, rfl, rfl, rfl, hbr⟩ := hrel
      have hs1 := sumN_take c.nums i
      have hs2 := maxD_sumN (c.nums.take i)
      have hs3 : sumN c.nums + sumC c.kids + 1 ≤ 1000000 := by have := HS.out; have := HZ.out; omega
      by_cases hlt : i < c.nums.length
      · have hlt' : (i : Int) < (c.nums.length : Int) := by omega
        obtain ⟨k, hki⟩ : ∃ k, c.nums[i]? = some k := ⟨_, List.getElem?_eq_getElem hlt⟩
        have HKI : Hid (c.nums[i]? = some k) := hki
        obtain ⟨p, rfl, hc⟩ := (HN.out.below hbr) i k hki
        have HM : Hid (k ∈ c.nums) := List.mem_of_getElem? hki
        have ht := take_more _ _ _ hki
        have HT1 : Hid (sumN (c.nums.take (i + 1)) = sumN (c.nums.take i) + k.nodes) := by unfold Hid; rw [ht, sumN_snoc]
        have HT2 : Hid (maxD (c.nums.take (i + 1)) = Max.max (maxD (c.nums.take i)) k.depth) := by unfold Hid; rw [ht, maxD_snoc]
        have hs4 := sumN_take c.nums (i + 1)
        rw [HT1.out] at hs4
        have hs5 := depth_nodes k
        clear hki ht
        generalize sumN (c.nums.take i) = S at *
        generalize maxD (c.nums.take i) = D at *
        go_wp2_with fail
        refine (HNH.out k HM.out wr).mono ?_
        rintro e w2 ⟨rfl, hb2⟩
        have HB2 : Hid (Below w1.heap.size w1 w2) := hbr.trans (hb2.mono hbr.size)
        clear hb2 hbr hc
        go_wp2_with fail
        go_roundw
        case rel => exact ⟨i + 1, by omega, by go_num, by rw [HT1.out]; go_num, by rw [HT2.out]; go_num, HB2.out⟩
        case measure => simp [intOf]; omega
      · have hle : i = c.nums.length := by omega
        subst hle
        rw [List.take_length]
        rw [List.take_length] at hs1 hs2
        obtain ⟨wA, hwA⟩ : ∃ y, y = wr := ⟨_, rfl⟩
        subst hwA
        have HBA : Hid (Below w1.heap.size w1 wA) := hbr
        clear hbr hlt
        have hnn : c.nums.length ≤ 1 := h1
        go_wp2_with fail
        go_loopw [44, 2, 3] (fun s44 s2 s3 wr => ∃ i : Nat, i ≤ c.kids.length ∧ s44 = .int .i64 i ∧ s2 = .int .i64 (sumN c.nums + sumC (c.kids.take i) : Nat) ∧ s3 = .int .i64 (Max.max (maxD c.nums) (maxC (c.kids.take i)) : Nat) ∧ Below w1.heap.size w1 wr) (fun s44 _ _ _ => c.kids.length - (intOf s44).toNat)
        case atStart => exact ⟨0, by omega, rfl, by simp [sumC], by simp [maxC], HBA.out⟩
        case round =>
          obtain ⟨i, hi, rfl, rfl, rfl, hbr⟩ := hrel
          have hq1 := sumC_take c.kids i
          have hq2 := maxC_sumC (c.kids.take i)
          by_cases hlt : i < c.kids.length
          · have hlt' : (i : Int) < (c.kids.length : Int) := by omega
            obtain ⟨k, hki⟩ : ∃ k, c.kids[i]? = some k := ⟨_, List.getElem?_eq_getElem hlt⟩
            obtain ⟨p, rfl, hc⟩ := (HK.out.below hbr) i k hki
            have HM : Hid (k ∈ c.kids) := List.mem_of_getElem? hki
            have ht := take_more _ _ _ hki
            have HT1 : Hid (sumC (c.kids.take (i + 1)) = sumC (c.kids.take i) + k.nodes) := by unfold Hid; rw [ht, sumC_snoc]
            have HT2 : Hid (maxC (c.kids.take (i + 1)) = Max.max (maxC (c.kids.take i)) k.depth) := by unfold Hid; rw [ht, maxC_snoc]
            have hs4 := sumC_take c.kids (i + 1)
            rw [HT1.out] at hs4
            have hs5 := cdepth_nodes k
            clear hki ht
            generalize sumC (c.kids.take i) = S at *
            generalize maxC (c.kids.take i) = D at *
            generalize sumN c.nums = S0 at *
            generalize maxD c.nums = D0 at *
            go_wp2_with fail
            refine (HIH.out k HM.out wr).mono ?_
            rintro e w2 ⟨rfl, hb2⟩
            have HB2 : Hid (Below w1.heap.size w1 w2) := hbr.trans (hb2.mono hbr.size)
            clear hb2 hbr hc
            go_wp2_with fail
            go_roundw
            case rel => exact ⟨i + 1, by omega, by go_num, by rw [HT1.out]; go_num, by rw [HT2.out]; go_num, HB2.out⟩
            case measure => simp [intOf]; omega
          · have hle : i = c.kids.length := by omega
            subst hle
            rw [List.take_length]
            rw [List.take_length] at hq1 hq2
            go_wp2_with fail
            go_ret2
            exact ⟨by rw [HS.out, HD.out]; simp, HB1.out.trans (hbr.mono HB1.out.size)⟩

end Go.Proofs.YtkioolbjmcpjpaaGreatDoor
