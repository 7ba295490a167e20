/- The names that stand in a contract, each once, in their order: what package term answers. -/
import Derived.Test.YtmhckbcddmdchaaTermCheck
namespace Go.Proofs.Ytmhckbcddmdchaa
open Go.RowKit Go.Maps
set_option linter.unusedVariables false

def namStep (st : List ByteArray) (c : C) : List ByteArray := addAll st (allL c.nums)
/-- The names of a contract's Fixes, in the order of a walk. -/
def C.all : C → List ByteArray
  | .give c => c.all
  | .and l r => l.all ++ r.all
  | .or _ l r => l.all ++ r.all
  | .scale o c => o.all ++ c.all
  | .when _ c => c.all
  | .iff o l r => o.all ++ (l.all ++ r.all)
  | _ => []
theorem names_fold (c : C) : ∀ st, c.pre.foldl namStep st = addAll st c.all := by
  induction c <;> intro st <;> simp_all [C.pre, namStep, C.nums, C.all, allL, addAll]
def C.names (c : C) : List ByteArray := addAll [] c.all
theorem addAll_id (acc : List ByteArray) : ∀ l : List ByteArray, (∀ s ∈ l, s ∈ acc) → addAll acc l = acc := by
  intro l
  induction l with
  | nil => intro _; rfl
  | cons s l ih =>
    intro h
    have h1 : addN acc s = acc := by unfold addN; rw [if_pos ((inN_iff acc s).2 (h s (by simp)))]
    show addAll (addN acc s) l = acc
    rw [h1]
    exact ih (fun t ht => h t (by simp [ht]))
theorem mem_addN (acc : List ByteArray) (s t : ByteArray) : t ∈ addN acc s ↔ t ∈ acc ∨ t = s := by
  unfold addN
  split
  · rename_i h
    have := (inN_iff acc s).1 h
    constructor
    · exact .inl
    · rintro (h | rfl); exact h; exact this
  · simp
theorem addN_twice (acc : List ByteArray) (s : ByteArray) (h : s ∈ acc) : addN acc s = acc := by unfold addN; rw [if_pos ((inN_iff acc s).2 h)]
theorem mem_addAll : ∀ (l acc : List ByteArray) (t : ByteArray), t ∈ addAll acc l ↔ t ∈ acc ∨ t ∈ l := by
  intro l
  induction l with
  | nil => intro acc t; simp [addAll]
  | cons s l ih =>
    intro acc t
    show t ∈ addAll (addN acc s) l ↔ _
    rw [ih, mem_addN]
    simp only [List.mem_cons]
    constructor
    · rintro ((h | h) | h); exact .inl h; exact .inr (.inl h); exact .inr (.inr h)
    · rintro (h | h | h); exact .inl (.inl h); exact .inl (.inr h); exact .inr h
/-- Adding what is each once is adding all. -/
theorem addAll_once : ∀ (l acc pre : List ByteArray), (∀ s ∈ pre, s ∈ acc) → addAll acc (addAll pre l) = addAll acc l := by
  intro l
  induction l with
  | nil => intro acc pre h; exact addAll_id acc pre h
  | cons s l ih =>
    intro acc pre h
    show addAll acc (addAll (addN pre s) l) = addAll (addN acc s) l
    by_cases hs : s ∈ pre
    · rw [addN_twice pre s hs, ih acc pre h, addN_twice acc s (h s hs)]
    · have e : addN pre s = pre ++ [s] := by
        unfold addN
        rw [if_neg (fun e => hs ((inN_iff pre s).1 e))]
      have hc : ∀ (l pre : List ByteArray), ∃ m, addAll pre l = pre ++ m := by
        intro l
        induction l with
        | nil => intro pre; exact ⟨[], by simp [addAll]⟩
        | cons x l ihl =>
          intro pre
          obtain ⟨m, hm⟩ := ihl (addN pre x)
          show ∃ m, addAll (addN pre x) l = pre ++ m
          rw [hm]
          unfold addN
          split
          · exact ⟨m, rfl⟩
          · exact ⟨[x] ++ m, by simp⟩
      obtain ⟨m, hm⟩ := hc l (addN pre s)
      rw [hm, e, addAll_append, addAll_append, addAll_id acc pre h]
      have h2 : addAll acc [s] = addN acc s := rfl
      rw [h2]
      have h3 := ih (addN acc s) (addN pre s) (fun t ht => by
        rw [mem_addN] at ht ⊢
        rcases ht with ht | ht
        · exact .inl (h t ht)
        · exact .inr ht)
      rw [hm, e, addAll_append, addAll_append] at h3
      rw [addAll_id (addN acc s) pre (fun t ht => (mem_addN acc s t).2 (.inl (h t ht)))] at h3
      have h4 : addAll (addN acc s) [s] = addN acc s := addN_twice _ _ ((mem_addN acc s s).2 (.inr rfl))
      rw [h4] at h3
      exact h3

/-- What is kept while names are gathered. -/
def NamInv (V : Nat) (own : Nat → Prop) (st : List ByteArray) (w : World) : Prop :=
  ∃ v, own = (fun k => k = V ∨ k = V + 1 ∨ v.ownBlock = some k) ∧ w.heap[V]? = some (.cells #[v] 23 (0, 0)) ∧ w.heap[V + 2]? = some (.cells #[.map (some (V + 1))] 95 (0, 0)) ∧ NIn w (V + 1) v st ∧ v.ownBlock ≠ some (V + 2)

theorem names_ok (o : O) (h : o.Ok) : ∀ s ∈ o.all, s.size ≤ 2147483648 := by
  induction o with
  | fix s => intro t ht; simp [O.all] at ht; subst ht; exact h
  | neg o ih => exact ih h
  | add l r h1 h2 => intro s hs; simp only [O.all, List.mem_append] at hs; rcases hs with hs | hs; exact h1 h.1 s hs; exact h2 h.2 s hs
  | mul l r h1 h2 => intro s hs; simp only [O.all, List.mem_append] at hs; rcases hs with hs | hs; exact h1 h.1 s hs; exact h2 h.2 s hs
  | max l r h1 h2 => intro s hs; simp only [O.all, List.mem_append] at hs; rcases hs with hs | hs; exact h1 h.1 s hs; exact h2 h.2 s hs
  | _ => intro s hs; simp [O.all] at hs
theorem onames_ok (o : O) (h : o.Ok) : ∀ s ∈ o.names, s.size ≤ 2147483648 := by
  intro s hs
  unfold O.names at hs
  rw [mem_addAll] at hs
  rcases hs with hs | hs
  · simp at hs
  · exact names_ok o h s hs

theorem nam_fin {V : Nat} {v v2 : Value} {acc : List ByteArray} {w W wA wB : World} (hBW : Below w.heap.size w W) (hXA : Below W.heap.size W wA) (hG : Grew (V + 1) v.ownBlock wA wB) (hin : NIn wB (V + 1) v2 acc) (hloc : v2.ownBlock = v.ownBlock ∨ ∀ k, v2.ownBlock = some k → wA.heap.size ≤ k) (hVB : wB.heap[V]? = some (.cells #[v] 23 (0, 0))) (h3 : w.heap[V + 2]? = some (.cells #[.map (some (V + 1))] 95 (0, 0))) (h5 : v.ownBlock ≠ some (V + 2)) :
    ∃ own', NamInv V own' acc (wB.setCell ⟨V, 0, none⟩ v2) ∧ Dyn (fun k => k = V ∨ k = V + 1 ∨ v.ownBlock = some k) w own' (wB.setCell ⟨V, 0, none⟩ v2) := by
  have hlt := (Array.getElem?_eq_some_iff.1 h3).1
  have s1 := hBW.size
  have s2 := hXA.size
  have s3 := hG.size
  refine ⟨fun k => k = V ∨ k = V + 1 ∨ v2.ownBlock = some k, ⟨v2, rfl, heap_setCell_same wB V 0 _ _ _ hVB, ?_, ⟨ownsRow_setCell_below hin.1 (a := ⟨V, 0, none⟩) (by show V < V + 1 + 1; omega) v2, hin.2.1.setCell (by show V + 1 ≠ V; omega) _, by rw [World.size_setCell]; exact hin.2.2⟩, ?_⟩, hG.os.trans (hXA.os.trans hBW.os), hG.tape.trans (hXA.tape.trans hBW.tape), hG.output.trans (hXA.output.trans hBW.output), by rw [World.size_setCell]; omega, fun k hk hno => ?_, fun k hk => ?_⟩
  · rw [heap_setCell_other wB ⟨V, 0, none⟩ (V + 2) _ (by show V + 2 ≠ V; omega)]
    exact (hG.block (V + 2) (by omega) (by omega) h5).trans ((hXA.block (V + 2) (by omega)).trans ((hBW.block (V + 2) hlt).trans h3))
  · rcases hloc with h | h
    · rw [h]; exact h5
    · intro e; have := h _ e; omega
  · have k1 : k ≠ V := fun e => hno (.inl e)
    have k2 : k ≠ V + 1 := fun e => hno (.inr (.inl e))
    have k3 : v.ownBlock ≠ some k := fun e => hno (.inr (.inr e))
    rw [heap_setCell_other wB ⟨V, 0, none⟩ k _ k1]
    exact (hG.block k (by omega) k2 k3).trans ((hXA.block k (by omega)).trans (hBW.block k hk))
  · rcases hk with hk | hk | hk
    · exact .inl (.inl hk)
    · exact .inl (.inr (.inl hk))
    · rcases hloc with h | h
      · rw [h] at hk; exact .inl (.inr (.inr hk))
      · have := h k hk; exact .inr (by omega)

set_option maxHeartbeats 2000000 in
set_option maxRecDepth 100000 in
theorem names1_any (V : Nat) : Shows 46 #[.pointer (some ⟨V, 0, none⟩), .pointer (some ⟨V + 2, 0, none⟩)] (NamInv V) namStep List.length := by
  refine ⟨enters_of Try.func46 (by kernel_rfl) rfl, ?_, ?_, ?_, ?_⟩
  · rintro own st w w' ⟨v, h1, h2, h3, h4, h5⟩ hb
    exact ⟨v, h1, (hb.block V (Array.getElem?_eq_some_iff.1 h2).1).trans h2, (hb.block (V + 2) (Array.getElem?_eq_some_iff.1 h3).1).trans h3, h4.below hb, h5⟩
  · rintro own st w ⟨v, h1, h2, h3, h4, h5⟩ b hb
    subst h1
    rcases hb with rfl | rfl | hb
    · exact (Array.getElem?_eq_some_iff.1 h2).1
    · have := (Array.getElem?_eq_some_iff.1 h3).1; omega
    · exact (h4.row b hb).2
  · intro st c
    unfold namStep
    have h1 := addAll_length (allL c.nums) st
    have h2 := allL_length c.nums
    unfold C.own
    omega
  · rintro own st w c a ⟨v, rfl, h2, h3, h4, h5⟩ hok hn hna hsz
    show Calls Try.prog 46 #[headT c, .slice a c.nums.length c.nums.length, .pointer (some ⟨V, 0, none⟩), .pointer (some ⟨V + 2, 0, none⟩)] w _
    have HINV := hidIn (show NamInv V (fun k => k = V ∨ k = V + 1 ∨ v.ownBlock = some k) st w from ⟨v, rfl, h2, h3, h4, h5⟩)
    unfold headT
    match hcn : c.nums, c.nums_one with
    | [], _ =>
      have HST : Hid (namStep st c = st) := by unfold Hid namStep; rw [hcn]; rfl
      simp only [List.length_nil]
      clear hn hna h2 h3 h4 h5 hok hsz
      go_enter Try.func46, Try.ntmps46
      go_wp2_with fail
      refine wp_loop_rounds 1 ?_
      rw [rounds_succ]
      go_wp2_with fail
      go_end0
      obtain ⟨v, h1, h2, h3, h4, h5⟩ := HINV.out
      have hb : Below w.heap.size w (w.alloc (.cells #[.int .i64 c.kind, .string c.text, .int .i64 c.day] 98)) := below_alloc (Below.refl _ _) _
      refine ⟨rfl, _, ?_, Dyn.of_below hb⟩
      rw [HST.out]
      exact ⟨v, h1, heap_keeps h2 _, heap_keeps h3 _, h4.below hb, h5⟩
    | [o], _ =>
      have HST : Hid (namStep st c = addAll st o.names) := by
        unfold Hid namStep O.names
        rw [hcn, addAll_once _ _ _ (by simp)]
        simp [allL]
      have HOK : Hid o.Ok := hok.num (by rw [hcn]; simp)
      have HOZ : Hid (st.length + o.nodes ≤ 999999) := by
        have : c.own = sumN c.nums + 1 := rfl
        rw [hcn] at this
        simp [sumN] at this
        show _ ≤ _
        omega
      have HON : Hid (o.names.length ≤ o.nodes) := by
        have h1 := addAll_length o.all []
        have h2 := all_nodes o
        show (addAll [] o.all).length ≤ _
        simp at h1
        omega
      rw [hcn] at hn
      obtain ⟨nb, rfl, hnc⟩ := hn 0 o rfl
      simp only [List.length_cons, List.length_nil]
      obtain ⟨ao, cap, rfl⟩ := own_shape h4.1
      obtain ⟨W, hW⟩ : ∃ W, W = w.alloc (.cells #[.int .i64 c.kind, .string c.text, .int .i64 c.day] 98) := ⟨_, rfl⟩
      have HBW : Hid (Below w.heap.size w W) := by rw [hW]; exact below_alloc (Below.refl _ _) _
      have hnW : W.cell? ⟨nb, 0, none⟩ = some o.val := (HBW.out.cell (p := ⟨nb, 0, none⟩) (World.block_lt_of_cell? _ _ hnc)).trans hnc
      have HVX : Hid (∀ X, Below W.heap.size W X → X.cell? ⟨V, 0, none⟩ = some (.slice ao st.length cap) ∧ X.cell? ⟨V + 2, 0, none⟩ = some (.map (some (V + 1))) ∧ NIn X (V + 1) (.slice ao st.length cap) st) := fun X hX => by
        have hx : Below w.heap.size w X := HBW.out.trans (hX.mono HBW.out.size)
        exact ⟨(cell_of_row _ _ _ _ _ _ ((hx.block V (Array.getElem?_eq_some_iff.1 h2).1).trans h2)).trans rfl, (cell_of_row _ _ _ _ _ _ ((hx.block (V + 2) (Array.getElem?_eq_some_iff.1 h3).1).trans h3)).trans rfl, h4.below hx⟩
      have HROW : Hid (∀ k, (Value.slice ao st.length cap).ownBlock = some k → k < w.heap.size) := fun k hk => (h4.row k hk).2
      have HV3 : Hid (V + 2 < w.heap.size) := (Array.getElem?_eq_some_iff.1 h3).1
      have HH2 := hidIn h2
      have HH3 := hidIn h3
      have HH5 := hidIn h5
      clear hna h2 h3 h4 h5 hok hsz hn hnc hcn
      go_enter Try.func46, Try.ntmps46
      go_wp2_with fail
      rw [← hW]
      clear hW
      have qv := o.one' HOK.out
      refine wp_loop_rounds 2 ?_
      rw [rounds_succ]
      go_wp2_with fail
      obtain ⟨d0, d1, _⟩ := HVX.out W (Below.refl _ _)
      go_region_with (first
        | (go_at_call 13; refine (names_any o HOK.out (by have := HOZ.out; omega) _).mono ?_; rintro e wA ⟨vA, rfl, hownA, hbA⟩; have hxA : Below W.heap.size W wA := (below_drew (Below.refl _ _)).trans hbA; have HXA := hidIn hxA; obtain ⟨k0, k1, hinA⟩ := HVX.out wA hxA; have HINA := hidIn hinA; have hlA := hownA.lt; obtain ⟨aA, cA, rfl, htxA, _, hobA⟩ := own_txt hownA; have HTXA := hidIn htxA; have HGA : Hid (∀ g, aA = some ⟨g, 0, none⟩ → W.heap.size ≤ g) := (fun g e => (hlA g (hobA g e)).1); clear hbA hxA hinA hlA hownA htxA hobA)
        | (go_at_call 47; refine (addNew_any o.names (onames_ok o HOK.out) (V + 1) _ st wA HINA.out (by have := HOZ.out; have := HON.out; omega) aA cA HTXA.out (fun g e => ⟨by have := HGA.out g e; have := HV3.out; have := HBW.out.size; omega, fun e2 => by have := HGA.out g e; have := HROW.out g e2; have := HBW.out.size; omega⟩)).mono ?_; rintro e wB ⟨v2, rfl, hin2, hg2, hloc2⟩; have HIN2 := hidIn hin2; have HG2 := hidIn hg2; have HL2 := hidIn hloc2; obtain ⟨a2, c2, rfl⟩ := own_shape hin2.1; have hVB : wB.heap[V]? = some (.cells #[.slice ao st.length cap] 23 (0, 0)) := (hg2.block V (by have := HV3.out; have := HBW.out.size; have := HXA.out.size; omega) (by omega) (fun e => by have := (HINA.out.row V e).1; omega)).trans ((HXA.out.block V (by have := HV3.out; have := HBW.out.size; omega)).trans ((HBW.out.block V (by have := HV3.out; omega)).trans HH2.out)); have HVB := hidIn hVB; have l0 := cell_of_row _ _ 0 _ _ _ hVB; have l1 := frozen_of_row _ _ 0 _ _ hVB; clear hin2 hg2 hloc2 hVB))
      all_goals
        go_wp2_with fail
        rw [rounds_succ]
        go_wp2_with fail
        go_end0
        refine ⟨rfl, ?_⟩
        rw [HST.out]
        exact nam_fin HBW.out HXA.out HG2.out HIN2.out HL2.out HVB.out HH3.out HH5.out
    | _ :: _ :: _, h => exact absurd h (by simp)

set_option maxHeartbeats 1000000 in
set_option maxRecDepth 100000 in
theorem namesT_any (c : C) (hok : c.Ok) (hsz : c.weight ≤ 1000000) (w : World) : Calls Try.prog 24 #[c.val] w fun e w' => ∃ v, e = .returned v ∧ w'.ownsRow w.heap.size 9 1 v c.names.length (strCells c.names) ∧ Below w.heap.size w w' := by
  have hmf : ∀ (fn : Fn) (first cap : Array Value) (w : World), (Instr.makeFunc fn first cap).run Try.prog w = .ok (.func fn first cap) w := fun _ _ _ _ => rfl
  have hmm := @run_makeMap Try.prog
  have HI : Hid (NamInv w.heap.size (fun k => k = w.heap.size ∨ k = w.heap.size + 1 ∨ (Value.slice none 0 0).ownBlock = some k) [] (((w.alloc (.cells #[.slice none 0 0] 23)).alloc (.map #[] 0)).alloc (.cells #[.map (some (w.heap.size + 1))] 95))) := by
    refine ⟨.slice none 0 0, rfl, heap_keeps (heap_keeps (heap_alloc_new _ _) _) _, heap_at (by simp), ?_, by simp [Value.ownBlock]⟩
    have h : NIn ((w.alloc (.cells #[.slice none 0 0] 23)).alloc (.map #[] 0)) (w.heap.size + 1) (.slice none 0 0) [] := by
      have hm := World.ownsMap_made (w.alloc (.cells #[.slice none 0 0] 23)) Try.prog 9 (unitElem (H := Unit))
      rw [World.size_alloc] at hm
      exact ⟨World.ownsRow_nil _ _ _ _, hm, by simp⟩
    exact h.below (below_alloc (Below.refl _ _) _)
  have HBA : Hid (Below w.heap.size w (((w.alloc (.cells #[.slice none 0 0] 23)).alloc (.map #[] 0)).alloc (.cells #[.map (some (w.heap.size + 1))] 95))) := below_alloc (below_alloc (below_alloc (Below.refl _ _) _) _) _
  go_enter Try.func24, Try.ntmps24
  go_wp2_with fail
  refine (walk_any (names1_any w.heap.size) c hok _ [] _ HI.out (by simpa using hsz)).mono ?_
  rintro e w1 ⟨rfl, own1, ⟨v, rfl, hv, hv2, hin, _⟩, hd⟩
  rw [names_fold] at hin
  have hc : w1.cell? ⟨w.heap.size, 0, none⟩ = some v := (cell_of_row _ _ _ _ _ _ hv).trans rfl
  have HROW := hidIn hin.1
  obtain ⟨ao, cap, rfl⟩ := own_shape hin.1
  clear hin hv hv2
  go_wp2_with fail
  go_ret
  refine ⟨_, rfl, ownsRow_base HROW.out (by omega), HBA.out.trans (hd.below HBA.out.size (fun k hk => ?_))⟩
  rcases hk with rfl | rfl | hk
  · exact Nat.le_refl _
  · omega
  · cases hk

end Go.Proofs.Ytmhckbcddmdchaa
