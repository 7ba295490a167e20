/- How many terms and numbers a contract has, how deep: what package term answers. -/
import Derived.Test.YtdlflpnjmldakaaTermOpen
namespace Go.Proofs.Ytdlflpnjmldakaa
open Go.RowKit
set_option linter.unusedVariables false

def C.nodes : C → Nat
  | .zero => 1
  | .one _ => 1
  | .give c => c.nodes + 1
  | .and l r => l.nodes + r.nodes + 1
  | .or _ l r => l.nodes + r.nodes + 1
  | .scale o c => o.nodes + c.nodes + 1
  | .when _ c => c.nodes + 1
  | .iff o l r => o.nodes + l.nodes + r.nodes + 1
  | .odd _ => 0
def C.depth : C → Nat
  | .zero => 1
  | .one _ => 1
  | .give c => c.depth + 1
  | .and l r => Max.max l.depth r.depth + 1
  | .or _ l r => Max.max l.depth r.depth + 1
  | .scale o c => Max.max o.depth c.depth + 1
  | .when _ c => c.depth + 1
  | .iff o l r => Max.max o.depth (Max.max l.depth r.depth) + 1
  | .odd _ => 0
def sumC : List C → Nat
  | [] => 0
  | k :: ks => k.nodes + sumC ks
def maxC : List C → Nat
  | [] => 0
  | k :: ks => Max.max k.depth (maxC ks)
theorem sumC_snoc (l : List C) (k : C) : sumC (l ++ [k]) = sumC l + k.nodes := by
  induction l with
  | nil => simp [sumC]
  | cons a l ih => simp [sumC, ih]; omega
theorem maxC_snoc (l : List C) (k : C) : maxC (l ++ [k]) = Max.max (maxC l) k.depth := by
  induction l with
  | nil => simp [maxC]
  | cons a l ih => simp only [List.cons_append, maxC, ih]; omega
theorem cnodes_kids (c : C) (h : c.kind ≠ 0) : c.nodes = sumN c.nums + sumC c.kids + 1 := by
  cases c <;> simp [C.nodes, C.kids, C.nums, sumN, sumC, C.kind] at h ⊢ <;> omega
theorem cdepth_kids (c : C) (h : c.kind ≠ 0) : c.depth = Max.max (maxD c.nums) (maxC c.kids) + 1 := by
  cases c <;> simp [C.depth, C.kids, C.nums, maxD, maxC, C.kind] at h ⊢ <;> omega
theorem cdepth_nodes (c : C) : c.depth ≤ c.nodes := by
  induction c with
  | scale o c h => have := depth_nodes o; simp only [C.depth, C.nodes]; omega
  | iff o l r h1 h2 => have := depth_nodes o; simp only [C.depth, C.nodes]; omega
  | _ => simp only [C.depth, C.nodes]; omega
theorem sumC_take (l : List C) (i : Nat) : sumC (l.take i) ≤ sumC l := by
  induction l generalizing i with
  | nil => simp [sumC]
  | cons a l ih => cases i with
    | zero => simp [sumC]
    | succ i => simp [sumC]; exact ih i
theorem maxC_sumC (l : List C) : maxC l ≤ sumC l := by
  induction l with
  | nil => simp [maxC]
  | cons a l ih => have := cdepth_nodes a; simp only [maxC, sumC]; omega
theorem codd_kids (c : C) (h : c.kind = 0) : c.kids = [] ∧ c.nums = [] ∧ c.nodes = 0 ∧ c.depth = 0 := by
  cases c <;> simp [C.kind, C.kids, C.nums, C.nodes, C.depth] at h ⊢
theorem cnodes_kid {c k : C} (h : k ∈ c.kids) : k.nodes < c.nodes := by
  cases c <;> simp [C.kids] at h
  case give => subst h; simp [C.nodes]
  case scale => subst h; simp [C.nodes]; omega
  case when => subst h; simp [C.nodes]
  all_goals rcases h with rfl | rfl <;> simp [C.nodes] <;> omega
theorem cnodes_num {c : C} {k : O} (h : k ∈ c.nums) : k.nodes < c.nodes := by
  cases c <;> simp [C.nums] at h
  all_goals subst h; simp [C.nodes]; omega

end Go.Proofs.Ytdlflpnjmldakaa
