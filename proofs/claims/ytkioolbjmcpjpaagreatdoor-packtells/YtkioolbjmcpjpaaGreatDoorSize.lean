/- How many numbers there are, how deep, whether they may stand there, and what stands within: what package obs answers. -/
import Derived.Test.YtkioolbjmcpjpaaGreatDoorObs
namespace Go.Proofs.YtkioolbjmcpjpaaGreatDoor
open Go.RowKit
set_option linter.unusedVariables false

def O.nodes : O → Nat
  | .const _ => 1
  | .fix _ => 1
  | .add l r => l.nodes + r.nodes + 1
  | .neg o => o.nodes + 1
  | .mul l r => l.nodes + r.nodes + 1
  | .max l r => l.nodes + r.nodes + 1
  | .odd _ => 0
def O.depth : O → Nat
  | .const _ => 1
  | .fix _ => 1
  | .add l r => Max.max l.depth r.depth + 1
  | .neg o => o.depth + 1
  | .mul l r => Max.max l.depth r.depth + 1
  | .max l r => Max.max l.depth r.depth + 1
  | .odd _ => 0
def sumN : List O → Nat
  | [] => 0
  | k :: ks => k.nodes + sumN ks
def maxD : List O → Nat
  | [] => 0
  | k :: ks => Max.max k.depth (maxD ks)
theorem sumN_snoc (l : List O) (k : O) : sumN (l ++ [k]) = sumN l + k.nodes := by
  induction l with
  | nil => simp [sumN]
  | cons a l ih => simp [sumN, ih]; omega
theorem maxD_snoc (l : List O) (k : O) : maxD (l ++ [k]) = Max.max (maxD l) k.depth := by
  induction l with
  | nil => simp [maxD]
  | cons a l ih => simp only [List.cons_append, maxD, ih]; omega
theorem nodes_kids (o : O) (h : o.kind ≠ 0) : o.nodes = sumN o.kids + 1 := by
  cases o <;> simp [O.nodes, O.kids, sumN, O.kind] at h ⊢
theorem depth_kids (o : O) (h : o.kind ≠ 0) : o.depth = maxD o.kids + 1 := by
  cases o <;> simp [O.depth, O.kids, maxD, O.kind] at h ⊢
theorem depth_nodes (o : O) : o.depth ≤ o.nodes := by
  induction o <;> simp [O.depth, O.nodes] <;> omega
theorem sumN_take (l : List O) (i : Nat) : sumN (l.take i) ≤ sumN l := by
  induction l generalizing i with
  | nil => simp [sumN]
  | cons a l ih => cases i with
    | zero => simp [sumN]
    | succ i => simp [sumN]; exact ih i
theorem maxD_sumN (l : List O) : maxD l ≤ sumN l := by
  induction l with
  | nil => simp [maxD]
  | cons a l ih => have := depth_nodes a; simp [maxD, sumN]; omega
theorem take_more {α : Type} (l : List α) (i : Nat) (k : α) (h : l[i]? = some k) : l.take (i + 1) = l.take i ++ [k] := by
  rw [List.take_add_one, h]; rfl
theorem odd_kids (o : O) (h : o.kind = 0) : o.kids = [] ∧ o.nodes = 0 ∧ o.depth = 0 := by
  cases o <;> simp [O.kind, O.kids, O.nodes, O.depth] at h ⊢
theorem nodes_kid {o k : O} (h : k ∈ o.kids) : k.nodes < o.nodes := by
  cases o <;> simp [O.kids] at h
  case neg => subst h; simp [O.nodes]
  all_goals rcases h with rfl | rfl <;> simp [O.nodes] <;> omega
theorem kids_two (o : O) : o.kids.length ≤ 2 := by cases o <;> simp [O.kids]

set_option maxHeartbeats 2000000 in
set_option maxRecDepth 100000 in
theorem size_any (o : O) : o.Ok → o.nodes ≤ 1000000 → ∀ w : World, Calls Tryz.prog 127 #[o.val] w fun e w' => e = .returned (.tuple #[.int .i64 (o.nodes : Int), .int .i64 (o.depth : Int)]) ∧ Below w.heap.size w w' := by
  induction o using O.ind with
  | _ o ih =>
  intro hok hsz w
  have HIH : Hid (∀ k ∈ o.kids, ∀ w : World, Calls Tryz.prog 127 #[k.val] w fun e w' => e = .returned (.tuple #[.int .i64 (k.nodes : Int), .int .i64 (k.depth : Int)]) ∧ Below w.heap.size w w') :=
    fun k hk => ih k hk (hok.kid hk) (by have := nodes_kid hk; omega)
  clear ih
  have h2 := kids_two o
  have HZ : Hid (o.nodes ≤ 1000000) := hsz
  clear hsz
  go_enter Tryz.func127, Tryz.ntmps127
  go_wp2_with fail
  refine (open_any o w hok).mono ?_
  rintro e w1 ⟨a, rfl, hk, hn, hb1⟩
  have HK : Hid (HasObs w1 a o.kids) := hk
  clear hn hk hok
  unfold headV
  by_cases h0 : o.kind = 0
  · obtain ⟨e1, e2, e3⟩ := odd_kids o h0
    go_wp2_with fail
    go_ret2
    exact ⟨by rw [e2, e3]; rfl, below_alloc hb1 _⟩
  · have h0' : (o.kind == 0) = false := by simpa using h0
    have HS : Hid (o.nodes = sumN o.kids + 1) := nodes_kids o h0
    have HD : Hid (o.depth = maxD o.kids + 1) := depth_kids o h0
    have HB1 : Hid (Below w.heap.size w w1) := hb1
    clear hb1
    go_wp2_with fail
    go_loopw [20, 2, 3] (fun s20 s2 s3 wr => ∃ i : Nat, i ≤ o.kids.length ∧ s20 = .int .i64 i ∧ s2 = .int .i64 (sumN (o.kids.take i) : Nat) ∧ s3 = .int .i64 (maxD (o.kids.take i) : Nat) ∧ Below w1.heap.size w1 wr) (fun s20 _ _ _ => o.kids.length - (intOf s20).toNat)
    case atStart => exact ⟨0, by omega, rfl, rfl, rfl, below_alloc (Below.refl _ _) _⟩
    case round =>
      obtain ⟨i, hi, rfl, rfl, rfl, hbr⟩ := hrel
      have hs1 := sumN_take o.kids i
      have hs2 := maxD_sumN (o.kids.take i)
      have hs3 : sumN o.kids ≤ 1000000 := by have := HS.out; have := HZ.out; omega
      by_cases hlt : i < o.kids.length
      · have hlt' : (i : Int) < (o.kids.length : Int) := by omega
        obtain ⟨k, hki⟩ : ∃ k, o.kids[i]? = some k := ⟨_, List.getElem?_eq_getElem hlt⟩
        have HKI : Hid (o.kids[i]? = some k) := hki
        obtain ⟨b, rfl, hc⟩ := (HK.out.below hbr) i k hki
        have HM : Hid (k ∈ o.kids) := List.mem_of_getElem? hki
        have ht := take_more _ _ _ hki
        have HT1 : Hid (sumN (o.kids.take (i + 1)) = sumN (o.kids.take i) + k.nodes) := by unfold Hid; rw [ht, sumN_snoc]
        have HT2 : Hid (maxD (o.kids.take (i + 1)) = Max.max (maxD (o.kids.take i)) k.depth) := by unfold Hid; rw [ht, maxD_snoc]
        have hs4 := sumN_take o.kids (i + 1)
        rw [HT1.out] at hs4
        have hs5 := depth_nodes k
        clear hki ht
        generalize sumN (o.kids.take i) = S at *
        generalize maxD (o.kids.take i) = D at *
        go_wp2_with fail
        refine (HIH.out k HM.out wr).mono ?_
        rintro e w2 ⟨rfl, hb2⟩
        have HB2 : Hid (Below w1.heap.size w1 w2) := hbr.trans (hb2.mono hbr.size)
        clear hb2 hbr hc
        go_wp2_with fail
        go_roundw
        case rel => exact ⟨i + 1, by omega, by go_num, by rw [HT1.out]; go_num, by rw [HT2.out]; go_num, HB2.out⟩
        case measure => simp [intOf]; omega
      · have hle : i = o.kids.length := by omega
        subst hle
        rw [List.take_length]
        rw [List.take_length] at hs1 hs2
        go_wp2_with fail
        go_ret2
        exact ⟨by rw [HS.out, HD.out]; simp, HB1.out.trans (hbr.mono HB1.out.size)⟩

/-! ### what may stand there -/
def mayB : O → Bool
  | .const n => vB n
  | .fix s => nameGo 0 (runesOf s)
  | .odd _ => false
  | _ => true
def formB : O → Bool
  | .const n => vB n
  | .fix s => nameGo 0 (runesOf s)
  | .add l r => formB l && formB r
  | .neg o => formB o
  | .mul l r => formB l && formB r
  | .max l r => formB l && formB r
  | .odd _ => false
theorem formB_kids (o : O) : formB o = (mayB o && o.kids.all formB) := by
  cases o <;> simp [formB, mayB, O.kids]

set_option maxHeartbeats 1000000 in
set_option maxRecDepth 100000 in
theorem mayStand_any (o : O) (w : World) : Calls Tryz.prog 191 #[headV o] w fun e w' => e = .returned (.bool (mayB o)) ∧ Below w.heap.size w w' := by
  unfold headV
  cases o
  case const n =>
    simp only [O.kind, O.num, O.name, mayB]
    go_enter Tryz.func191, Tryz.ntmps191
    go_wp2_with (go_at_call 79; refine calls_same (valid_any _ _) ?_)
    go_ret
    exact ⟨rfl, below_alloc (Below.refl _ _) _⟩
  case fix s =>
    simp only [O.kind, O.num, O.name, mayB]
    go_enter Tryz.func191, Tryz.ntmps191
    go_wp2_with fail
    refine (name_any _ _).mono ?_
    rintro e w1 ⟨rfl, pos, rfl⟩
    go_wp2_with fail
    go_ret
    refine ⟨rfl, ?_⟩
    have h : Below w.heap.size w (w.alloc (.cells #[.int .i64 2, .int .i64 0, .string s] 262)) := below_alloc (Below.refl _ _) _
    exact h.trans ((below_iter _ _ _).mono h.size)
  all_goals
    simp only [O.kind, O.num, O.name, mayB]
    go_enter Tryz.func191, Tryz.ntmps191
    go_wp2_with fail
    go_ret
    exact ⟨rfl, below_alloc (Below.refl _ _) _⟩

set_option maxHeartbeats 2000000 in
set_option maxRecDepth 100000 in
theorem formed_any (o : O) : o.Ok → ∀ w : World, Calls Tryz.prog 176 #[o.val] w fun e w' => e = .returned (.bool (formB o)) ∧ Below w.heap.size w w' := by
  induction o using O.ind with
  | _ o ih =>
  intro hok w
  have HIH : Hid (∀ k ∈ o.kids, ∀ w : World, Calls Tryz.prog 176 #[k.val] w fun e w' => e = .returned (.bool (formB k)) ∧ Below w.heap.size w w') :=
    fun k hk => ih k hk (hok.kid hk)
  clear ih
  have h2 := kids_two o
  have HF : Hid (formB o = (mayB o && o.kids.all formB)) := formB_kids o
  go_enter Tryz.func176, Tryz.ntmps176
  go_wp2_with fail
  refine (open_any o w hok).mono ?_
  rintro e w1 ⟨a, rfl, hk, hn, hb1⟩
  have HK : Hid (HasObs w1 a o.kids) := hk
  have HB1 : Hid (Below w.heap.size w w1) := hb1
  clear hn hk hok hb1
  have HMS : Hid (∀ w, Calls Tryz.prog 191 #[headV o] w fun e w' => e = .returned (.bool (mayB o)) ∧ Below w.heap.size w w') := mayStand_any o
  unfold headV
  go_wp2_with fail
  refine (HMS.out _).mono ?_
  rintro e w2 ⟨rfl, hb2⟩
  have HB2 : Hid (Below w1.heap.size w1 w2) := (below_alloc (Below.refl w1.heap.size w1) _).trans (hb2.mono (by simp))
  clear hb2 HMS
  cases hm : mayB o
  · go_wp2_with fail
    go_ret
    exact ⟨by rw [HF.out, hm]; rfl, HB1.out.trans (HB2.out.mono HB1.out.size)⟩
  · go_wp2_with fail
    go_loopw [17] (fun s17 wr => ∃ i : Nat, i ≤ o.kids.length ∧ s17 = .int .i64 i ∧ Hid ((o.kids.take i).all formB = true) ∧ Below w1.heap.size w1 wr) (fun s17 _ => o.kids.length - (intOf s17).toNat)
    case atStart => exact ⟨0, by omega, rfl, rfl, HB2.out⟩
    case round =>
      obtain ⟨i, hi, rfl, HA, hbr⟩ := hrel
      by_cases hlt : i < o.kids.length
      · have hlt' : (i : Int) < (o.kids.length : Int) := by omega
        obtain ⟨k, hki⟩ : ∃ k, o.kids[i]? = some k := ⟨_, List.getElem?_eq_getElem hlt⟩
        obtain ⟨b, rfl, hc⟩ := (HK.out.below hbr) i k hki
        have HM : Hid (k ∈ o.kids) := List.mem_of_getElem? hki
        have HT : Hid (o.kids.take (i + 1) = o.kids.take i ++ [k]) := take_more _ _ _ hki
        clear hki
        go_wp2_with fail
        refine (HIH.out k HM.out wr).mono ?_
        rintro e w3 ⟨rfl, hb3⟩
        have HB3 : Hid (Below w1.heap.size w1 w3) := hbr.trans (hb3.mono hbr.size)
        clear hb3 hbr hc
        cases hf : formB k
        · go_wp2_with fail
          go_ret
          refine ⟨ret_bool ?_, HB1.out.trans (HB3.out.mono HB1.out.size)⟩
          have : o.kids.all formB = false := by
            rw [List.all_eq_false]
            exact ⟨k, HM.out, by rw [hf]; simp⟩
          rw [HF.out, this]; simp
        · go_wp2_with fail
          go_roundw
          case rel => exact ⟨i + 1, by omega, by go_num, by unfold Hid; rw [HT.out, List.all_append, HA.out]; simp [hf], HB3.out⟩
          case measure => simp [intOf]; omega
      · have hle : i = o.kids.length := by omega
        subst hle
        have HA2 : Hid (o.kids.all formB = true) := by have := HA.out; rwa [List.take_length] at this
        clear HA
        go_wp2_with fail
        go_ret
        exact ⟨by rw [HF.out, HA2.out, hm]; rfl, HB1.out.trans (hbr.mono HB1.out.size)⟩

/-- What Check answers. -/
def chk (o : O) : Int := if formB o = true then (if 60 < o.nodes ∨ 12 < o.depth then 5 else 0) else 2

set_option maxHeartbeats 1000000 in
set_option maxRecDepth 100000 in
theorem check_any (o : O) (hok : o.Ok) (hsz : o.nodes ≤ 1000000) (w : World) : Calls Tryz.prog 150 #[o.val] w fun e w' => e = .returned (.int .i64 (chk o)) ∧ Below w.heap.size w w' := by
  go_enter Tryz.func150, Tryz.ntmps150
  go_wp2_with fail
  refine (formed_any o hok w).mono ?_
  rintro e w1 ⟨rfl, hb1⟩
  have hd := depth_nodes o
  cases hf : formB o
  · go_wp2_with fail
    go_ret
    exact ⟨by unfold chk; rw [if_neg (by rw [hf]; simp)]; rfl, hb1⟩
  · go_wp2_with fail
    refine (size_any o hok hsz w1).mono ?_
    rintro e w2 ⟨rfl, hb2⟩
    have HC : Hid (chk o = if 60 < o.nodes ∨ 12 < o.depth then 5 else 0) := by unfold Hid chk; rw [if_pos hf]
    by_cases h1 : 60 < o.nodes
    · have h1' : (60 : Int) < (o.nodes : Int) := by omega
      go_wp2_with fail
      go_ret
      exact ⟨by rw [HC.out, if_pos (.inl h1)]; rfl, hb1.trans (hb2.mono hb1.size)⟩
    · have h1' : ¬ (60 : Int) < (o.nodes : Int) := by omega
      have h1d : decide ((60 : Int) < (o.nodes : Int)) = false := by simpa using h1'
      by_cases h2 : 12 < o.depth
      · have h2' : (12 : Int) < (o.depth : Int) := by omega
        go_wp2_with fail
        go_ret
        exact ⟨by rw [HC.out, if_pos (.inr h2)]; rfl, hb1.trans (hb2.mono hb1.size)⟩
      · have h2' : ¬ (12 : Int) < (o.depth : Int) := by omega
        go_wp2_with fail
        go_ret
        exact ⟨by rw [HC.out, if_neg (by omega)]; rfl, hb1.trans (hb2.mono hb1.size)⟩

end Go.Proofs.YtkioolbjmcpjpaaGreatDoor
