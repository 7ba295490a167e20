/- The names that stand in a contract, each once, in their order: what package term answers. -/
import Derived.Test.YtngjlkdpplmpaaaCl1
import Derived.Laws.AppendOwnNone
import Derived.Test.YtngjlkdpplmpaaaRefT
import Derived.OwnWalk
import Derived.Test.YtngjlkdpplmpaaaRefN
import Derived.Test.YtngjlkdpplmpaaaGrowL
namespace Go.Proofs.Ytngjlkdpplmpaaa
open Go.RowKit Go.Maps
set_option linter.unusedVariables false

def namStep (st : List ByteArray) (c : C) : List ByteArray := addAll st (allL c.nums)
/-- The names of a contract's Fixes, in the order of a walk. -/
def C.all : C → List ByteArray
  | .give c => c.all
  | .and l r => l.all ++ r.all
  | .or _ l r => l.all ++ r.all
  | .scale o c => o.all ++ c.all
  | .when _ c => c.all
  | .iff o l r => o.all ++ (l.all ++ r.all)
  | _ => []
theorem names_fold (c : C) : ∀ st, c.pre.foldl namStep st = addAll st c.all := by
  induction c <;> intro st <;> simp_all [C.pre, namStep, C.nums, C.all, allL, addAll]
def C.names (c : C) : List ByteArray := addAll [] c.all
theorem addAll_id (acc : List ByteArray) : ∀ l : List ByteArray, (∀ s ∈ l, s ∈ acc) → addAll acc l = acc := by
  intro l
  induction l with
  | nil => intro _; rfl
  | cons s l ih =>
    intro h
    have h1 : addN acc s = acc := by unfold addN; rw [if_pos ((inN_iff acc s).2 (h s (by simp)))]
    show addAll (addN acc s) l = acc
    rw [h1]
    exact ih (fun t ht => h t (by simp [ht]))
theorem mem_addN (acc : List ByteArray) (s t : ByteArray) : t ∈ addN acc s ↔ t ∈ acc ∨ t = s := by
  unfold addN
  split
  · rename_i h
    have := (inN_iff acc s).1 h
    constructor
    · exact .inl
    · rintro (h | rfl); exact h; exact this
  · simp
theorem addN_twice (acc : List ByteArray) (s : ByteArray) (h : s ∈ acc) : addN acc s = acc := by unfold addN; rw [if_pos ((inN_iff acc s).2 h)]
theorem mem_addAll : ∀ (l acc : List ByteArray) (t : ByteArray), t ∈ addAll acc l ↔ t ∈ acc ∨ t ∈ l := by
  intro l
  induction l with
  | nil => intro acc t; simp [addAll]
  | cons s l ih =>
    intro acc t
    show t ∈ addAll (addN acc s) l ↔ _
    rw [ih, mem_addN]
    simp only [List.mem_cons]
    constructor
    · rintro ((h | h) | h); exact .inl h; exact .inr (.inl h); exact .inr (.inr h)
    · rintro (h | h | h); exact .inl (.inl h); exact .inl (.inr h); exact .inr h
/-- Adding what is each once is adding all. -/
theorem addAll_once : ∀ (l acc pre : List ByteArray), (∀ s ∈ pre, s ∈ acc) → addAll acc (addAll pre l) = addAll acc l := by
  intro l
  induction l with
  | nil => intro acc pre h; exact addAll_id acc pre h
  | cons s l ih =>
    intro acc pre h
    show addAll acc (addAll (addN pre s) l) = addAll (addN acc s) l
    by_cases hs : s ∈ pre
    · rw [addN_twice pre s hs, ih acc pre h, addN_twice acc s (h s hs)]
    · have e : addN pre s = pre ++ [s] := by
        unfold addN
        rw [if_neg (fun e => hs ((inN_iff pre s).1 e))]
      have hc : ∀ (l pre : List ByteArray), ∃ m, addAll pre l = pre ++ m := by
        intro l
        induction l with
        | nil => intro pre; exact ⟨[], by simp [addAll]⟩
        | cons x l ihl =>
          intro pre
          obtain ⟨m, hm⟩ := ihl (addN pre x)
          show ∃ m, addAll (addN pre x) l = pre ++ m
          rw [hm]
          unfold addN
          split
          · exact ⟨m, rfl⟩
          · exact ⟨[x] ++ m, by simp⟩
      obtain ⟨m, hm⟩ := hc l (addN pre s)
      rw [hm, e, addAll_append, addAll_append, addAll_id acc pre h]
      have h2 : addAll acc [s] = addN acc s := rfl
      rw [h2]
      have h3 := ih (addN acc s) (addN pre s) (fun t ht => by
        rw [mem_addN] at ht ⊢
        rcases ht with ht | ht
        · exact .inl (h t ht)
        · exact .inr ht)
      rw [hm, e, addAll_append, addAll_append] at h3
      rw [addAll_id (addN acc s) pre (fun t ht => (mem_addN acc s t).2 (.inl (h t ht)))] at h3
      have h4 : addAll (addN acc s) [s] = addN acc s := addN_twice _ _ ((mem_addN acc s s).2 (.inr rfl))
      rw [h4] at h3
      exact h3

/-- What is kept while names are gathered. -/
def NamInv (V : Nat) (own : Nat → Prop) (st : List ByteArray) (w : World) : Prop :=
  ∃ v, own = (fun k => k = V ∨ k = V + 1 ∨ v.ownBlock = some k) ∧ w.heap[V]? = some (.cells #[v] 67 (0, 0)) ∧ w.heap[V + 2]? = some (.cells #[.map (some (V + 1))] 171 (0, 0)) ∧ NIn w (V + 1) v st ∧ v.ownBlock ≠ some (V + 2)

theorem names_ok (o : O) (h : o.Ok) : ∀ s ∈ o.all, s.size ≤ 2147483648 := by
  induction o with
  | fix s => intro t ht; simp [O.all] at ht; subst ht; exact h
  | neg o ih => exact ih h
  | add l r h1 h2 => intro s hs; simp only [O.all, List.mem_append] at hs; rcases hs with hs | hs; exact h1 h.1 s hs; exact h2 h.2 s hs
  | mul l r h1 h2 => intro s hs; simp only [O.all, List.mem_append] at hs; rcases hs with hs | hs; exact h1 h.1 s hs; exact h2 h.2 s hs
  | max l r h1 h2 => intro s hs; simp only [O.all, List.mem_append] at hs; rcases hs with hs | hs; exact h1 h.1 s hs; exact h2 h.2 s hs
  | _ => intro s hs; simp [O.all] at hs
theorem onames_ok (o : O) (h : o.Ok) : ∀ s ∈ o.names, s.size ≤ 2147483648 := by
  intro s hs
  unfold O.names at hs
  rw [mem_addAll] at hs
  rcases hs with hs | hs
  · simp at hs
  · exact names_ok o h s hs

theorem nam_fin {V : Nat} {v v2 : Value} {acc : List ByteArray} {w W wA wB : World} (hBW : Below w.heap.size w W) (hXA : Below W.heap.size W wA) (hG : Grew (V + 1) v.ownBlock wA wB) (hin : NIn wB (V + 1) v2 acc) (hloc : v2.ownBlock = v.ownBlock ∨ ∀ k, v2.ownBlock = some k → wA.heap.size ≤ k) (hVB : wB.heap[V]? = some (.cells #[v] 67 (0, 0))) (h3 : w.heap[V + 2]? = some (.cells #[.map (some (V + 1))] 171 (0, 0))) (h5 : v.ownBlock ≠ some (V + 2)) :
    ∃ own', NamInv V own' acc (wB.setCell ⟨V, 0, none⟩ v2) ∧ Dyn (fun k => k = V ∨ k = V + 1 ∨ v.ownBlock = some k) w own' (wB.setCell ⟨V, 0, none⟩ v2) := by
  have hlt := (Array.getElem?_eq_some_iff.1 h3).1
  have s1 := hBW.size
  have s2 := hXA.size
  have s3 := hG.size
  refine ⟨fun k => k = V ∨ k = V + 1 ∨ v2.ownBlock = some k, ⟨v2, rfl, heap_setCell_same wB V 0 _ _ _ hVB, ?_, ⟨ownsRow_setCell_below hin.1 (a := ⟨V, 0, none⟩) (by show V < V + 1 + 1; omega) v2, hin.2.1.setCell (by show V + 1 ≠ V; omega) _, by rw [World.size_setCell]; exact hin.2.2⟩, ?_⟩, hG.os.trans (hXA.os.trans hBW.os), hG.tape.trans (hXA.tape.trans hBW.tape), hG.output.trans (hXA.output.trans hBW.output), by rw [World.size_setCell]; omega, fun k hk hno => ?_, fun k hk => ?_⟩
  · rw [heap_setCell_other wB ⟨V, 0, none⟩ (V + 2) _ (by show V + 2 ≠ V; omega)]
    exact (hG.block (V + 2) (by omega) (by omega) h5).trans ((hXA.block (V + 2) (by omega)).trans ((hBW.block (V + 2) hlt).trans h3))
  · rcases hloc with h | h
    · rw [h]; exact h5
    · intro e; have := h _ e; omega
  · have k1 : k ≠ V := fun e => hno (.inl e)
    have k2 : k ≠ V + 1 := fun e => hno (.inr (.inl e))
    have k3 : v.ownBlock ≠ some k := fun e => hno (.inr (.inr e))
    rw [heap_setCell_other wB ⟨V, 0, none⟩ k _ k1]
    exact (hG.block k (by omega) k2 k3).trans ((hXA.block k (by omega)).trans (hBW.block k hk))
  · rcases hk with hk | hk | hk
    · exact .inl (.inl hk)
    · exact .inl (.inr (.inl hk))
    · rcases hloc with h | h
      · rw [h] at hk; exact .inl (.inr (.inr hk))
      · have := h k hk; exact .inr (by omega)

end Go.Proofs.Ytngjlkdpplmpaaa
namespace Go.Proofs.Ytngjlkdpplmpaaa
open Go.RowKit
set_option linter.unusedVariables false

theorem ownsRow_below {w w' : World} {B e size n : Nat} {v : Value} {xs : List Value} (h : w.ownsRow B e size v n xs) (hb : Below w.heap.size w w') : w'.ownsRow B e size v n xs :=
  h.kept (grown_of_below hb none) (by cases hv : v.ownBlock <;> simp)
theorem grownBy_refl (w : World) (r : Option Nat) : w.grownBy w r := grown_of_below (Below.refl _ _) r
theorem wpList_append_rows {ops : Array Oper} {rest : List Oper} {o : Oper} {a : Act} {Q : Exit → Act → World → Prop} (w : World) (hgd : o.guard = none) (s x : Operand)
    (ho : o.op = .call { callee := .builtin .append, args := #[s, x], argTypes := #[67, 67] })
    (base : Nat) (v : Value) (l : List ByteArray) (hs : a.eval s = v) (hown : w.ownsRow base 9 1 v l.length (strCells l))
    (B : Nat) (xv : Value) (m : List ByteArray) (hx : a.eval x = xv) (hox : w.ownsRow B 9 1 xv m.length (strCells m)) (hlen : l.length + m.length ≤ 1000000) (hbase : base ≤ w.heap.size)
    (h : ∀ v' w', w'.ownsRow base 9 1 v' (l ++ m).length (strCells (l ++ m)) → w.grownBy w' v.ownBlock → (v'.ownBlock = v.ownBlock ∨ v'.ownBlock = some w.heap.size) → wpList Try.prog ops Q rest (a.put o.dst v') w') : wpList Try.prog ops Q (o :: rest) a w := by
  obtain ⟨i0, gi, gz0, gz1, gz2⟩ := info_parts infoStr
  have hox2 := hox
  rcases hox2.2 with ⟨rfl, h0⟩ | ⟨g, cap, cur, rfl, hb, hg, hnc, hcm, _⟩
  · have hm : m = [] := List.length_eq_zero_iff.1 h0
    subst hm
    refine wpList_append_own_none hgd s x 67 ho base 9 i0 1 Try.underlying67 gi v l.length (strCells l) hs hown hx ?_
    exact h v w (by simpa using hown) (grownBy_refl w _) (.inl rfl)
  · refine wpList_append_own_at w hgd s x 67 ho base 9 i0 (.string ByteArray.empty) 1 16 Try.underlying67 gi gz0 gz1 gz2 rfl (by decide) v l.length (strCells l) hs hown ⟨g, 0, none⟩ m.length cap (strCells m) hx (by simp [strCells]) ?_ ?_ (by unfold maxLen; omega) (by omega) hbase ?_
    · intro j u hj
      rw [Addr.add_lit, Nat.zero_add]
      have hjl : j < m.length := by
        have := (List.getElem?_eq_some_iff.1 hj).1
        simpa [strCells] using this
      rw [hox.cellAt j (by omega)]
      exact hj
    · intro u hu
      obtain ⟨t, _, rfl⟩ := List.mem_map.1 hu
      rfl
    · intro v' w' h1 h2 _ h3
      refine h v' w' ?_ h2 h3
      simpa [strCells] using h1
/-- The labels of contracts, one behind the other. -/
def labL : List C → List ByteArray
  | [] => []
  | k :: l => k.labels ++ labL l
theorem labL_snoc (l : List C) (k : C) : labL (l ++ [k]) = labL l ++ k.labels := by
  induction l with
  | nil => simp [labL]
  | cons a l ih => simp [labL, ih]
theorem labels_kids (c : C) : c.labels = (if c.kind = 5 then [c.text] else []) ++ labL c.kids := by
  cases c <;> simp [C.labels, C.kind, C.text, C.kids, labL]
theorem labL_weight (l : List C) : (labL l).length ≤ weightL l := by
  induction l with
  | nil => simp [labL]
  | cons a l ih => have := labels_weight a; simp [labL, weightL]; omega
/-- What an assertion to one of api's types with two or three fields tells of a contract. -/
theorem or_part (c : C) (h : c.Ok) : ∃ (s : ByteArray) (l r : Value) (b : Bool), (∀ xT w, (Instr.typeAssert c.val xT 32 true).run Try.prog w = .ok (.tuple #[.agg #[.string s, l, r], .bool b]) w) ∧ One' l ∧ One' r ∧ ((b = true ∧ c.kind = 5 ∧ s = c.text) ∨ (b = false ∧ c.kind ≠ 5)) := by
  have hn : One' Value.nilIface := ⟨rfl, rfl⟩
  cases c with
  | or s l r => exact ⟨s, l.val, r.val, true, fun xT w => isOr _ xT w, l.one' h.2.1, r.one' h.2.2, .inl ⟨rfl, rfl, rfl⟩⟩
  | odd v =>
    rcases h with rfl | ⟨t, x, rfl, _, _, _, _, h5, _⟩
    · exact ⟨_, _, _, false, fun xT w => nilOr xT w, hn, hn, .inr ⟨rfl, by simp [C.kind]⟩⟩
    · exact ⟨_, _, _, false, fun xT w => notOr t x xT w h5, hn, hn, .inr ⟨rfl, by simp [C.kind]⟩⟩
  | _ => exact ⟨_, _, _, false, fun xT w => notOr _ _ xT w (by decide), hn, hn, .inr ⟨rfl, by simp [C.kind]⟩⟩
theorem scale_part (c : C) (h : c.Ok) : ∃ (l r : Value) (b : Bool), (∀ xT w, (Instr.typeAssert c.val xT 30 true).run Try.prog w = .ok (.tuple #[.agg #[l, r], .bool b]) w) ∧ One' l ∧ One' r ∧ ((b = true ∧ c.kind = 6) ∨ (b = false ∧ c.kind ≠ 6)) := by
  have hn : One' Value.nilIface := ⟨rfl, rfl⟩
  cases c with
  | scale o c => exact ⟨o.val, c.val, true, fun xT w => isScale _ xT w, o.one' h.1, c.one' h.2, .inl ⟨rfl, rfl⟩⟩
  | odd v =>
    rcases h with rfl | ⟨t, x, rfl, _, _, _, _, _, h6, _⟩
    · exact ⟨_, _, false, fun xT w => nilScale xT w, hn, hn, .inr ⟨rfl, by simp [C.kind]⟩⟩
    · exact ⟨_, _, false, fun xT w => notScale t x xT w h6, hn, hn, .inr ⟨rfl, by simp [C.kind]⟩⟩
  | _ => exact ⟨_, _, false, fun xT w => notScale _ _ xT w (by decide), hn, hn, .inr ⟨rfl, by simp [C.kind]⟩⟩
theorem if_part (c : C) (h : c.Ok) : ∃ (o l r : Value) (b : Bool), (∀ xT w, (Instr.typeAssert c.val xT 54 true).run Try.prog w = .ok (.tuple #[.agg #[o, l, r], .bool b]) w) ∧ One' o ∧ One' l ∧ One' r ∧ ((b = true ∧ c.kind = 8) ∨ (b = false ∧ c.kind ≠ 8)) := by
  have hn : One' Value.nilIface := ⟨rfl, rfl⟩
  cases c with
  | iff o l r => exact ⟨o.val, l.val, r.val, true, fun xT w => isIf _ xT w, o.one' h.1, l.one' h.2.1, r.one' h.2.2, .inl ⟨rfl, rfl⟩⟩
  | odd v =>
    rcases h with rfl | ⟨t, x, rfl, _, _, _, _, _, _, _, h8⟩
    · exact ⟨_, _, _, false, fun xT w => nilIf xT w, hn, hn, hn, .inr ⟨rfl, by simp [C.kind]⟩⟩
    · exact ⟨_, _, _, false, fun xT w => notIf t x xT w h8, hn, hn, hn, .inr ⟨rfl, by simp [C.kind]⟩⟩
  | _ => exact ⟨_, _, _, false, fun xT w => notIf _ _ xT w (by decide), hn, hn, hn, .inr ⟨rfl, by simp [C.kind]⟩⟩
theorem plain_parts (c : C) (h6 : c.kind ≠ 6) (h8 : c.kind ≠ 8) : c.nums = [] := by
  cases c <;> simp [C.nums, C.kind] at h6 h8 ⊢

end Go.Proofs.Ytngjlkdpplmpaaa
namespace Go.Proofs.Ytngjlkdpplmpaaa
open Go.RowKit
set_option linter.unusedVariables false

mutual
/-- The labels of a tree's Ors, in order. -/
def T.labs : T → List ByteArray
  | .mk kind s _ k => (if kind = 5 then [s] else []) ++ labsL k
def labsL : List T → List ByteArray
  | [] => []
  | t :: l => t.labs ++ labsL l
end
mutual
/-- How many trees there are in a tree. -/
def T.cnt : T → Nat
  | .mk _ _ _ k => cntL k + 1
def cntL : List T → Nat
  | [] => 0
  | t :: l => t.cnt + cntL l
end
theorem labsL_snoc (l : List T) (k : T) : labsL (l ++ [k]) = labsL l ++ k.labs := by
  induction l with
  | nil => simp [labsL]
  | cons a l ih => simp [labsL, ih]
theorem cntL_snoc (l : List T) (k : T) : cntL (l ++ [k]) = cntL l + k.cnt := by
  induction l with
  | nil => simp [cntL]
  | cons a l ih => simp [cntL, ih]; omega
theorem cntL_take (l : List T) (i : Nat) : cntL (l.take i) ≤ cntL l := by
  induction l generalizing i with
  | nil => simp [cntL]
  | cons a l ih => cases i with
    | zero => simp [cntL]
    | succ i => simp [cntL]; exact ih i
theorem cntL_mem (l : List T) (t : T) (h : t ∈ l) : t.cnt ≤ cntL l := by
  induction l with
  | nil => simp at h
  | cons a l ih =>
    simp only [List.mem_cons] at h
    simp only [cntL]
    rcases h with rfl | h
    · omega
    · have := ih h; omega
theorem labs_cnt : ∀ t : T, t.labs.length ≤ t.cnt := by
  intro t
  induction t using T.ind with
  | _ kind s n k ih =>
    have h : (labsL k).length ≤ cntL k := by
      induction k with
      | nil => simp [labsL]
      | cons a l ihl =>
        have h1 := ih a (by simp)
        have h2 := ihl (fun t ht => ih t (by simp [ht]))
        simp only [labsL, cntL, List.length_append]
        omega
    unfold T.labs T.cnt
    rw [List.length_append]
    split <;> simp <;> omega
theorem labsL_cnt (l : List T) : (labsL l).length ≤ cntL l := by
  induction l with
  | nil => simp [labsL]
  | cons a l ih => have := labs_cnt a; simp only [labsL, cntL, List.length_append]; omega

set_option maxHeartbeats 4000000 in
set_option maxRecDepth 100000 in
theorem refLabels_any (t : T) : t.cnt ≤ 999990 → ∀ (w : World) (v : Value), TIn w 0 t v → Calls Try.prog 62 #[v] w fun e w' => ∃ v', e = .returned v' ∧ w'.ownsRow w.heap.size 9 1 v' t.labs.length (strCells t.labs) ∧ Below w.heap.size w w' := by
  induction t using T.ind with
  | _ kind s n k ih =>
  intro hcnt w v hv
  have hkl := len_cap hv
  obtain ⟨a, cap, rfl, hc1, hc2, hK⟩ := hv
  simp only [T.kind, T.s, T.n, T.k] at hc1 hK hkl ⊢
  obtain ⟨i0, gi, gz0, gz1, gz2⟩ := info_parts infoStr
  have hct : (T.mk kind s n k).cnt = cntL k + 1 := by rw [T.cnt]
  rw [hct] at hcnt
  have HIH : Hid (∀ t ∈ k, ∀ (w : World) (v : Value), TIn w 0 t v → Calls Try.prog 62 #[v] w fun e w' => ∃ v', e = .returned v' ∧ w'.ownsRow w.heap.size 9 1 v' t.labs.length (strCells t.labs) ∧ Below w.heap.size w w') := fun t ht => ih t ht (by have := cntL_mem k t ht; omega)
  have HLT0 : Hid ((T.mk kind s n k).labs = (if kind = 5 then [s] else []) ++ labsL k) := by unfold Hid; rw [T.labs]
  have HK := hidIn hK
  have HCN := hidIn hcnt
  clear ih hK hct
  go_enter Try.func62, Try.ntmps62
  go_upto_if 7 with fail
  obtain ⟨W, hW⟩ : ∃ W, W = w.alloc (.cells #[.int .i64 kind, .string s, .int .i64 n, .slice a k.length cap] 72) := ⟨_, rfl⟩
  have HB : Hid (Below w.heap.size w W) := by rw [hW]; exact below_alloc (Below.refl _ _) _
  have HBK : Hid (W.heap[w.heap.size]? = some (.cells #[.int .i64 kind, .string s, .int .i64 n, .slice a k.length cap] 72 (0, 0))) := by rw [hW]; exact heap_alloc_new _ _
  rw [← hW]
  clear hW
  go_cut [3] (fun s3 wx => wx.ownsRow W.heap.size 9 1 s3 (if kind = 5 then [s] else []).length (strCells (if kind = 5 then [s] else [])) ∧ Below W.heap.size W wx)
  case first =>
    by_cases h5 : kind = 5
    · have h5' : (kind == 5) = true := by simp [h5]
      have hcl := (cell_of_row _ _ 1 _ _ _ HBK.out)
      rw [show (#[.int .i64 kind, .string s, .int .i64 n, .slice a k.length cap] : Array Value)[1]? = some (.string s) from rfl] at hcl
      have HIF : Hid ((if kind = 5 then [s] else []) = [s]) := by unfold Hid; rw [if_pos h5]
      clear h5
      go_wp2_with (first
        | (at_builtin; refine wpList_append_own _ rfl _ _ 67 rfl W.heap.size 9 i0 (.string ByteArray.empty) 1 16 Try.underlying67 gi gz0 gz1 gz2 rfl (by decide) _ _ _ rfl (World.ownsRow_nil _ _ _ _) ⟨W.heap.size, 0, none⟩ 1 1 [.string s] rfl rfl (cell_one_in rfl _ _) (by intro u hu; simp at hu; subst hu; rfl) (by unfold maxLen; omega) (by omega) (by simp) ?_; intro v2 w2 hown2 hgrow2 _)
        | go_in)
      go_meet
      case rel =>
        have h1 : Below W.heap.size W (W.alloc (.cells #[.string s] 9)) := below_alloc (Below.refl _ _) _
        exact ⟨by rw [HIF.out]; simpa [strCells] using hown2, h1.grown hgrow2 (by simp) (fun j hj => by cases hj)⟩
    · have h5' : (kind == 5) = false := by simp [h5]
      have HIF : Hid ((if kind = 5 then [s] else []) = ([] : List ByteArray)) := by unfold Hid; rw [if_neg h5]
      clear h5
      go_wp2_with fail
      go_meet
      case rel => exact ⟨by rw [HIF.out]; exact World.ownsRow_nil _ _ _ _, Below.refl _ _⟩
  case rest =>
    obtain ⟨hrow, hbx⟩ := hcut
    generalize hl0 : (if kind = 5 then [s] else []) = l0 at *
    have hl1 : l0.length ≤ 1 := by rw [← hl0]; split <;> simp
    clear hl0
    have HROW0 := hidIn hrow
    have HBX := hidIn hbx
    have HG : Hid (∀ X, Below W.heap.size W X → X.cell? ⟨w.heap.size, 3, none⟩ = some (.slice a k.length cap)) := fun X hX => (cell_of_row _ _ _ _ _ _ ((hX.block _ (Array.getElem?_eq_some_iff.1 HBK.out).1).trans HBK.out)).trans rfl
    have HKW : Hid (KAt W 0 k a 0) := HK.out.below HB.out
    have g3 := HG.out wc hbx
    clear hrow hbx HBK HK
    go_wp2_with fail
    clear g3
    go_loopw [16, 3] (fun s16 s3 wr => ∃ i : Nat, i ≤ k.length ∧ s16 = .int .i64 i ∧ wr.ownsRow W.heap.size 9 1 s3 (l0 ++ labsL (k.take i)).length (strCells (l0 ++ labsL (k.take i))) ∧ Below W.heap.size W wr) (fun s16 _ _ => k.length - (intOf s16).toNat)
    case atStart => exact ⟨0, by omega, rfl, by simpa [labsL] using HROW0.out, HBX.out⟩
    case round =>
      clear HROW0 HBX
      obtain ⟨i, hi, rfl, hrow, hbr⟩ := hrel
      have HROW := hidIn hrow
      have HBR := hidIn hbr
      by_cases hlt : i < k.length
      · have hlt' : (i : Int) < (k.length : Int) := by omega
        obtain ⟨t, hti⟩ : ∃ t, k[i]? = some t := ⟨_, List.getElem?_eq_getElem hlt⟩
        obtain ⟨b, o, ka, ca, rfl, c0, c1, c2, c3, ht⟩ := (HKW.out.below hbr).cells hti
        have g3 := HG.out wr hbr
        have HM : Hid (t ∈ k) := List.mem_of_getElem? hti
        have HTI := hidIn ht
        have htk := take_more _ _ _ hti
        have HT3 : Hid (l0 ++ labsL (k.take (i + 1)) = (l0 ++ labsL (k.take i)) ++ t.labs) := by unfold Hid; rw [htk, labsL_snoc, List.append_assoc]
        have HLEN : Hid ((l0 ++ labsL (k.take i)).length + t.labs.length ≤ 1000000) := by
          have h1 := labs_cnt t
          have h2 := labsL_cnt (k.take i)
          have h3 := cntL_take k (i + 1)
          rw [htk, cntL_snoc] at h3
          have := HCN.out
          rw [List.length_append]
          show _ ≤ _
          omega
        clear hti htk ht hrow hbr
        generalize l0 ++ labsL (k.take i) = L at *
        go_wp2_with fail
        refine (HIH.out t HM.out wr _ HTI.out).mono ?_
        rintro e w4 ⟨v4, rfl, hrow4, hb4⟩
        have HB4 := hidIn (HBR.out.trans (hb4.mono HBR.out.size))
        have HROW4 := hidIn (ownsRow_below HROW.out hb4)
        have HNEW := hidIn hrow4
        clear hb4 hrow4 c0 c1 c2 c3 g3 HTI
        go_wp2_with (first
          | (at_builtin; refine wpList_append_rows _ rfl _ _ rfl W.heap.size _ L rfl HROW4.out wr.heap.size _ t.labs rfl HNEW.out HLEN.out HB4.out.size ?_; intro v5 w5 hown5 hgrow5 hloc5)
          | go_in)
        have HB5 : Hid (Below W.heap.size W w5) := HB4.out.grown hgrow5 HB4.out.size (fun j hj => (HROW4.out.lt j hj).1)
        have HOWN5 := hidIn hown5
        clear hown5 hgrow5 hloc5
        go_wp2_with fail
        go_roundw
        case rel => exact ⟨i + 1, by omega, by go_num, by rw [HT3.out]; exact HOWN5.out, HB5.out⟩
        case measure => simp [intOf]; omega
      · have hle : i = k.length := by omega
        subst hle
        have HE : Hid (wr.ownsRow W.heap.size 9 1 u3 (l0 ++ labsL k).length (strCells (l0 ++ labsL k))) := by have h := HROW.out; rw [List.take_length] at h; exact h
        clear hrow HROW hbr
        go_wp2_with fail
        go_ret
        refine ⟨_, rfl, ?_, HB.out.trans (HBR.out.mono HB.out.size)⟩
        rw [HLT0.out]
        exact ownsRow_base HE.out HB.out.size

end Go.Proofs.Ytngjlkdpplmpaaa
namespace Go.Proofs.Ytngjlkdpplmpaaa
open Go.RowKit
set_option linter.unusedVariables false

theorem addAll_len : ∀ (l acc : List ByteArray), (addAll acc l).length < acc.length + l.length ↔ ¬ (l.Nodup ∧ ∀ s ∈ l, s ∉ acc) := by
  intro l
  induction l with
  | nil => intro acc; simp [addAll]
  | cons s l ih =>
    intro acc
    show (addAll (addN acc s) l).length < _ ↔ _
    by_cases hs : s ∈ acc
    · rw [addN_twice acc s hs]
      have h := addAll_length l acc
      constructor
      · intro _ hn
        exact hn.2 s (by simp) hs
      · intro _
        simp only [List.length_cons]
        omega
    · have e : addN acc s = acc ++ [s] := by
        unfold addN
        rw [if_neg (fun e => hs ((inN_iff acc s).1 e))]
      have h := ih (acc ++ [s])
      rw [e]
      have hl : (acc ++ [s]).length + l.length = acc.length + (s :: l).length := by simp; omega
      rw [hl] at h
      rw [h]
      constructor
      · intro hn hc
        apply hn
        refine ⟨(List.nodup_cons.1 hc.1).2, fun x hx => ?_⟩
        simp only [List.mem_append, List.mem_singleton, not_or]
        exact ⟨hc.2 x (by simp [hx]), fun ex => (List.nodup_cons.1 hc.1).1 (ex ▸ hx)⟩
      · intro hn hc
        apply hn
        refine ⟨List.nodup_cons.2 ⟨fun hx => ?_, hc.1⟩, fun x hx => ?_⟩
        · have := hc.2 s hx
          simp at this
        · simp only [List.mem_cons] at hx
          rcases hx with rfl | hx
          · exact hs
          · have := hc.2 x hx
            simp only [List.mem_append, List.mem_singleton, not_or] at this
            exact this.1
theorem twice_iff (l : List ByteArray) : twice l = true ↔ ¬ l.Nodup := by
  have h := addAll_len l []
  simp only [List.length_nil, Nat.zero_add, List.not_mem_nil, not_false_eq_true, implies_true, and_true] at h
  unfold twice
  rw [decide_eq_true_iff]
  exact h
/-- What the document's Check answers. -/
def chkT (t : T) (nb : Bool) : Int := if formT t nb = true then (if 60 < t.nodes ∨ 12 < t.depth then 5 else if twice t.labs = true then 4 else 0) else 2
theorem nodup_take {l : List ByteArray} {i : Nat} {s : ByteArray} (h : (l.take i).Nodup) (hs : l[i]? = some s) (hn : ∀ b, b < i → l[b]? ≠ some s) : (l.take (i + 1)).Nodup := by
  rw [take_more _ _ _ hs, List.nodup_append]
  refine ⟨h, by simp, fun x hx y hy => ?_⟩
  simp at hy
  subst hy
  intro e
  subst e
  obtain ⟨b, hb, he⟩ := List.mem_iff_getElem.1 hx
  rw [List.length_take] at hb
  refine hn b (by omega) ?_
  rw [← he, List.getElem_take]
  exact List.getElem?_eq_getElem (by omega)
theorem nodup_get {l : List ByteArray} (h : l.Nodup) {i j : Nat} {s : ByteArray} (hi : l[i]? = some s) (hj : l[j]? = some s) : i = j := by
  obtain ⟨h1, e1⟩ := List.getElem?_eq_some_iff.1 hi
  obtain ⟨h2, e2⟩ := List.getElem?_eq_some_iff.1 hj
  exact (List.getElem_inj h).1 (e1.trans e2.symm)

set_option maxHeartbeats 4000000 in
set_option maxRecDepth 100000 in
theorem refCheck_any (t : T) (hsz : t.Sized) (hcnt : t.cnt ≤ 999990) (hnd : t.nodes ≤ 1000000) (nb : Bool) (w : World) (v : Value) (hv : TIn w 0 t v) : Calls Try.prog 38 #[v, .bool nb] w fun e w' => e = .returned (.int .i64 (chkT t nb)) ∧ Below w.heap.size w w' := by
  have HV := hidIn hv
  have hdn := T_depth_nodes t
  obtain ⟨a, cap, rfl, hc1, hc2, hK⟩ := hv
  have HSZ := hidIn hsz
  have HLN := hidIn (labs_cnt t)
  have HCN := hidIn hcnt
  obtain ⟨W, hW⟩ : ∃ W, W = w.alloc (.cells #[.int .i64 t.kind, .string t.s, .int .i64 t.n, .slice a t.k.length cap] 72) := ⟨_, rfl⟩
  have HB : Hid (Below w.heap.size w W) := by rw [hW]; exact below_alloc (Below.refl _ _) _
  have HBK : Hid (W.heap[w.heap.size]? = some (.cells #[.int .i64 t.kind, .string t.s, .int .i64 t.n, .slice a t.k.length cap] 72 (0, 0))) := by rw [hW]; exact heap_alloc_new _ _
  have HF : Hid (∀ X, Below W.heap.size W X → (X.cell? ⟨w.heap.size, 0, none⟩ = some (.int .i64 t.kind) ∧ X.cell? ⟨w.heap.size, 1, none⟩ = some (.string t.s) ∧ X.cell? ⟨w.heap.size, 2, none⟩ = some (.int .i64 t.n) ∧ X.cell? ⟨w.heap.size, 3, none⟩ = some (.slice a t.k.length cap)) ∧ TIn X 0 t (.agg #[.int .i64 t.kind, .string t.s, .int .i64 t.n, .slice a t.k.length cap])) := fun X hX => by
    have h := (hX.block _ (Array.getElem?_eq_some_iff.1 HBK.out).1).trans HBK.out
    exact ⟨⟨(cell_of_row _ _ _ _ _ _ h).trans rfl, (cell_of_row _ _ _ _ _ _ h).trans rfl, (cell_of_row _ _ _ _ _ _ h).trans rfl, (cell_of_row _ _ _ _ _ _ h).trans rfl⟩, (HV.out.below HB.out).below hX⟩
  clear hK hsz hcnt
  go_enter Try.func38, Try.ntmps38
  go_wp2_with fail
  rw [← hW]
  clear hW HBK HV
  refine (form_any t HSZ.out nb W _ (HF.out W (Below.refl _ _)).2).mono ?_
  rintro e w1 ⟨rfl, hb1⟩
  obtain ⟨⟨c0, c1, c2, c3⟩, t1⟩ := HF.out w1 hb1
  have HT1 := hidIn t1
  have HB1 := hidIn hb1
  clear t1 hb1
  cases hf : formT t nb
  · go_wp2_with fail
    go_ret
    exact ⟨by unfold chkT; rw [if_neg (by rw [hf]; simp)]; rfl, HB.out.trans (HB1.out.mono HB.out.size)⟩
  · have HC : Hid (chkT t nb = if 60 < t.nodes ∨ 12 < t.depth then 5 else if twice t.labs = true then 4 else 0) := by unfold Hid chkT; rw [if_pos hf]
    go_wp2_with fail
    refine (refSize_any t w1 _ HT1.out hnd).mono ?_
    rintro e w2 ⟨rfl, hb2⟩
    have hx2 := HB1.out.trans (hb2.mono HB1.out.size)
    have HX2 := hidIn hx2
    obtain ⟨⟨d0, d1, d2, d3⟩, t2⟩ := HF.out w2 hx2
    have HT2 := hidIn t2
    have HB2 := hidIn (HB.out.trans (hx2.mono HB.out.size))
    clear t2 hb2 hx2 c0 c1 c2 c3
    by_cases h1 : 60 < t.nodes
    · have h1' : (60 : Int) < (t.nodes : Int) := by omega
      go_wp2_with fail
      go_ret
      exact ⟨by rw [HC.out, if_pos (.inl h1)]; rfl, HB2.out⟩
    · have h1' : ¬ (60 : Int) < (t.nodes : Int) := by omega
      have h1d : decide ((60 : Int) < (t.nodes : Int)) = false := by simpa using h1'
      by_cases h2 : 12 < t.depth
      · have h2' : (12 : Int) < (t.depth : Int) := by omega
        go_wp2_with fail
        go_ret
        exact ⟨by rw [HC.out, if_pos (.inr h2)]; rfl, HB2.out⟩
      · have h2' : ¬ (12 : Int) < (t.depth : Int) := by omega
        have HC2 : Hid (chkT t nb = if twice t.labs = true then 4 else 0) := by unfold Hid; rw [HC.out, if_neg (by omega)]
        go_wp2_with fail
        refine (refLabels_any t HCN.out w2 _ HT2.out).mono ?_
        rintro e w3 ⟨v3, rfl, hrow3, hb3⟩
        have HB3 := hidIn (HB2.out.trans (hb3.mono HB2.out.size))
        obtain ⟨ao, lc, rfl, htx, hll, _⟩ := own_txt hrow3
        have HTX := hidIn htx
        have hlen : t.labs.length ≤ 1000000 := by have := HLN.out; have := HCN.out; omega
        clear hrow3 hb3 htx d0 d1 d2 d3 HC HT1 HT2 HX2 HB2
        generalize t.labs = l at *
        go_wp2_with fail
        go_loopw [29] (fun s29 wr => ∃ i : Nat, i ≤ l.length ∧ s29 = .int .i64 i ∧ Hid ((l.take i).Nodup) ∧ Below w3.heap.size w3 wr) (fun s29 _ => l.length - (intOf s29).toNat)
        case atStart => exact ⟨0, by omega, rfl, by unfold Hid; simp, Below.refl _ _⟩
        case round =>
          obtain ⟨i, hi, rfl, HN, hbr⟩ := hrel
          obtain ⟨wA, hwA⟩ : ∃ y, y = wr := ⟨_, rfl⟩
          subst hwA
          have HBA := hidIn hbr
          clear hbr
          by_cases hlt : i < l.length
          · have hlt' : (i : Int) < (l.length : Int) := by omega
            obtain ⟨s, hs⟩ : ∃ s, l[i]? = some s := ⟨_, List.getElem?_eq_getElem hlt⟩
            have HS := hidIn hs
            clear hs
            go_wp2_with fail
            go_loopw [9] (fun s9 wr => ∃ j : Nat, j ≤ i ∧ s9 = .int .i64 j ∧ Hid (∀ b, b < j → l[b]? ≠ some s) ∧ Below w3.heap.size w3 wr) (fun s9 _ => i - (intOf s9).toNat)
            case atStart => exact ⟨0, by omega, rfl, by intro b hb; omega, HBA.out⟩
            case round =>
              obtain ⟨j, hj, rfl, HJ, hbr⟩ := hrel
              by_cases hjl : j < i
              · have hjl' : (j : Int) < (i : Int) := by omega
                have hjl2 : (j : Int) < (l.length : Int) := by omega
                obtain ⟨y, hy⟩ : ∃ y, l[j]? = some y := ⟨_, List.getElem?_eq_getElem (by omega)⟩
                obtain ⟨g, rfl, k0⟩ := (HTX.out.below hbr) i s HS.out
                obtain ⟨g', eg, k1⟩ := (HTX.out.below hbr) j y hy
                have hgg : g' = g := by injection eg with eg; injection eg with eg; exact eg.symm
                subst hgg
                have HY := hidIn hy
                clear hy eg
                by_cases he : s = y
                · subst he
                  have HTW : Hid (twice l = true) := (twice_iff l).2 (fun hn => by have := nodup_get hn HS.out HY.out; omega)
                  go_wp2_with fail
                  go_quiet (fail)
                  go_wp2_with fail
                  go_ret
                  exact ⟨by rw [HC2.out, HTW.out]; rfl, HB3.out.trans ((below_drewN hbr _).mono HB3.out.size)⟩
                · have he' : ¬ s.toList = y.toList := fun e => he (toList_inj e)
                  have heb : (s.toList == y.toList) = false := by rw [beq_eq_false_iff_ne]; exact he'
                  go_wp2_with fail
                  go_quiet (fail)
                  go_wp2_with fail
                  go_roundw
                  case rel =>
                    refine ⟨j + 1, by omega, by go_num, fun b hb => ?_, below_drewN hbr _⟩
                    by_cases hbj : b = j
                    · subst hbj
                      rw [HY.out]
                      intro e
                      injection e with e
                      exact he e.symm
                    · exact HJ.out b (by omega)
                  case measure => simp [intOf]; omega
              · have hji : j = i := by omega
                subst hji
                have HN2 : Hid ((l.take (j + 1)).Nodup) := nodup_take HN.out HS.out HJ.out
                clear HJ HN hjl
                go_wp2_with fail
                go_roundw
                case rel => exact ⟨j + 1, by omega, by go_num, HN2, hbr⟩
                case measure => simp [intOf]; omega
          · have hle : i = l.length := by omega
            subst hle
            have HTW : Hid (twice l = false) := by
              have h := HN.out
              rw [List.take_length] at h
              show twice l = false
              cases ht : twice l
              · rfl
              · exact absurd h ((twice_iff l).1 ht)
            clear HN hlt
            go_wp2_with fail
            go_ret
            exact ⟨by rw [HC2.out, HTW.out]; rfl, HB3.out.trans (HBA.out.mono HB3.out.size)⟩

end Go.Proofs.Ytngjlkdpplmpaaa
namespace Go.Proofs.Ytngjlkdpplmpaaa.Ca
open Go.RowKit Wd Cn Vl
set_option linter.unusedVariables false

/-- A payment. -/
structure Fl where
  day : Int
  cur : ByteArray
  amt : Int
/-- What is waited for. -/
structure Wt where
  ch : Bool
  name : ByteArray
  label : ByteArray
  day : Int
  side : Int
theorem wt_iff (a b : Wt) : (a.ch = b.ch ∧ a.name = b.name ∧ a.label = b.label ∧ a.day = b.day ∧ a.side = b.side) ↔ a = b := by
  cases a; cases b; simp
instance : DecidableEq Wt := fun a b => decidable_of_iff _ (wt_iff a b)
/-- What a walk meets: payments, waits (each as often as it is met), the first error. -/
structure Ck where
  f : List Fl
  w : List Wt
  e : Int
def Ck.seq (a b : Ck) : Ck := if a.e ≠ 0 then a else ⟨a.f ++ b.f, a.w ++ b.w, b.e⟩
def side (k : Int) : Int := if 0 < k then 0 else 1
def nameW (d : Int) (s : ByteArray) : Wt := ⟨false, s, ByteArray.empty, d, 0⟩
def chW (d : Int) (s : ByteArray) (k : Int) : Wt := ⟨true, ByteArray.empty, s, d, side k⟩
def waitN (K : KW) (d : Int) (o : O) : List Wt := (lackN K d o.names).map (nameW d)
def ck (K : KW) (id : ByteArray) : C → Int → Int → Ck
  | .zero, _, _ => ⟨[], [], 0⟩
  | .one s, d, k => ⟨[⟨d, s, k⟩], [], 0⟩
  | .give c, d, k => ck K id c d (-k)
  | .and l r, d, k => (ck K id l d k).seq (ck K id r d k)
  | .when d' c, d, k => ck K id c (Max.max d d') k
  | .or s l r, d, k => match K.chosen (id, s) with
    | none => ⟨[], [chW d s k], 0⟩
    | some p => if p.1 = 0 then ck K id l (Max.max d p.2) k else ck K id r (Max.max d p.2) k
  | .scale o c, d, k => if (rk K d o).e ≠ 0 then ⟨[], [], (rk K d o).e⟩ else if (rk K d o).known = true then (if (mulR k (rk K d o).n).2 = true then (if (mulR k (rk K d o).n).1 = 0 then ⟨[], [], 0⟩ else ck K id c d (mulR k (rk K d o).n).1) else ⟨[], [], 6⟩) else ⟨[], waitN K d o, 0⟩
  | .iff o l r, d, k => if (rk K d o).e ≠ 0 then ⟨[], [], (rk K d o).e⟩ else if (rk K d o).known = true then (if 0 < (rk K d o).n then ck K id l d k else ck K id r d k) else ⟨[], waitN K d o, 0⟩
  | .odd _, _, _ => ⟨[], [], 0⟩

/-- A wait more, but once. -/
def putW (W : List Wt) (y : Wt) : List Wt := if y ∈ W then W else W ++ [y]
def addW (W ys : List Wt) : List Wt := ys.foldl putW W
/-- As the document keeps them: a name's but once. -/
def putR (W : List Wt) (y : Wt) : List Wt := if y.ch = false ∧ y ∈ W then W else W ++ [y]
def addRf (W ys : List Wt) : List Wt := ys.foldl putR W
theorem addW_app (W a b : List Wt) : addW W (a ++ b) = addW (addW W a) b := by simp [addW]
theorem addRf_app (W a b : List Wt) : addRf W (a ++ b) = addRf (addRf W a) b := by simp [addRf]
theorem addW_nil (W : List Wt) : addW W [] = W := rfl
theorem addRf_nil (W : List Wt) : addRf W [] = W := rfl
theorem putW_len (W : List Wt) (y : Wt) : (putW W y).length ≤ W.length + 1 := by unfold putW; split <;> simp
theorem putR_len (W : List Wt) (y : Wt) : (putR W y).length ≤ W.length + 1 := by unfold putR; split <;> simp
theorem addW_len (ys : List Wt) : ∀ W, (addW W ys).length ≤ W.length + ys.length := by
  induction ys with
  | nil => intro W; simp [addW]
  | cons y ys ih => intro W; have h1 := ih (putW W y); have h2 := putW_len W y; simp only [addW, List.foldl_cons, List.length_cons] at h1 ⊢; omega
theorem addRf_len (ys : List Wt) : ∀ W, (addRf W ys).length ≤ W.length + ys.length := by
  induction ys with
  | nil => intro W; simp [addRf]
  | cons y ys ih => intro W; have h1 := ih (putR W y); have h2 := putR_len W y; simp only [addRf, List.foldl_cons, List.length_cons] at h1 ⊢; omega
theorem putW_mem (W : List Wt) (y z : Wt) : z ∈ putW W y ↔ z ∈ W ∨ z = y := by
  unfold putW
  split
  · rename_i h
    exact ⟨.inl, fun h1 => h1.elim id (fun e => by rw [e]; exact h)⟩
  · simp
theorem addW_mem (ys : List Wt) : ∀ (W : List Wt) (z : Wt), z ∈ addW W ys ↔ z ∈ W ∨ z ∈ ys := by
  induction ys with
  | nil => intro W z; simp [addW]
  | cons y ys ih =>
    intro W z
    have h := ih (putW W y) z
    simp only [addW, List.foldl_cons, List.mem_cons] at h ⊢
    rw [h, putW_mem, or_assoc]

/-! ### labels stand once, so the document's waits are the program's -/
def chLab (ys : List Wt) : List ByteArray := (ys.filter (·.ch)).map (·.label)
theorem chLab_app (a b : List Wt) : chLab (a ++ b) = chLab a ++ chLab b := by simp [chLab]
theorem chLab_names (d : Int) (l : List ByteArray) : chLab (l.map (nameW d)) = [] := by
  induction l with
  | nil => rfl
  | cons s l ih => simp [chLab, nameW]
theorem ck_labels (K : KW) (id : ByteArray) (c : C) : ∀ d k, (chLab (ck K id c d k).w).Sublist c.labels := by
  induction c with
  | zero => intro d k; exact List.nil_sublist _
  | one s => intro d k; exact List.nil_sublist _
  | odd v => intro d k; exact List.nil_sublist _
  | give c ih => intro d k; exact ih d (-k)
  | when d' c ih => intro d k; exact ih _ k
  | and l r hl hr =>
    intro d k
    simp only [ck, Ck.seq, C.labels]
    split
    · exact (hl d k).trans (List.sublist_append_left _ _)
    · simp only [chLab_app]
      exact (hl d k).append (hr d k)
  | or s l r hl hr =>
    intro d k
    simp only [ck, C.labels]
    cases K.chosen (id, s) with
    | none => simp [chLab, chW]
    | some p =>
      simp only
      split
      · exact ((hl _ k).trans (List.sublist_append_left _ _)).cons _
      · exact ((hr _ k).trans (List.sublist_append_right _ _)).cons _
  | scale o c ih =>
    intro d k
    simp only [ck, C.labels]
    split
    · exact List.nil_sublist _
    · split
      · split
        · split
          · exact List.nil_sublist _
          · exact ih _ _
        · exact List.nil_sublist _
      · show (chLab (waitN K d o)).Sublist _
        unfold waitN
        rw [chLab_names]
        exact List.nil_sublist _
  | iff o l r hl hr =>
    intro d k
    simp only [ck, C.labels]
    split
    · exact List.nil_sublist _
    · split
      · split
        · exact (hl _ k).trans (List.sublist_append_left _ _)
        · exact (hr _ k).trans (List.sublist_append_right _ _)
      · show (chLab (waitN K d o)).Sublist _
        unfold waitN
        rw [chLab_names]
        exact List.nil_sublist _
theorem addRf_eq (ys : List Wt) : ∀ W : List Wt, (chLab ys).Nodup → (∀ z ∈ W, z.ch = true → z.label ∉ chLab ys) → addRf W ys = addW W ys := by
  induction ys with
  | nil => intro W _ _; rfl
  | cons y ys ih =>
    intro W hn hd
    have e : putR W y = putW W y := by
      unfold putR putW
      cases hy : y.ch
      · simp
      · rw [if_neg (by simp)]
        rw [if_neg (fun hm => hd y hm hy (by simp [chLab, hy]))]
    show addRf (putR W y) ys = addW (putW W y) ys
    rw [e]
    refine ih _ ?_ ?_
    · cases hy : y.ch
      · simpa [chLab, hy] using hn
      · simp [chLab, hy] at hn; exact hn.2
    · intro z hz hc
      rcases (putW_mem W y z).1 hz with h | h
      · intro h2
        refine hd z h hc ?_
        cases hy : y.ch
        · simpa [chLab, hy] using h2
        · simp only [chLab, List.filter_cons, hy, if_true, List.map_cons, List.mem_cons]; exact .inr h2
      · subst h
        simp [chLab, hc] at hn
        intro h2
        obtain ⟨u, hu, hl⟩ := List.mem_map.1 h2
        rw [List.mem_filter] at hu
        exact hn.1 u hu.1 hu.2 hl
/-- The waits of a contract whose labels stand once. -/
theorem ck_once (K : KW) (id : ByteArray) (c : C) (d k : Int) (h : twice c.labels = false) : addRf [] (ck K id c d k).w = addW [] (ck K id c d k).w := by
  refine addRf_eq _ _ ?_ (by simp)
  refine (ck_labels K id c d k).nodup ?_
  apply Classical.byContradiction
  intro hn
  rw [(twice_iff c.labels).2 hn] at h
  cases h

/-! ### how much -/
theorem lackN_len (K : KW) (d : Int) (o : O) : (waitN K d o).length ≤ o.nodes := by
  unfold waitN
  rw [List.length_map]
  exact Nat.le_trans (lackN_length _ _ _) (names_length o)
theorem ck_len (K : KW) (id : ByteArray) (c : C) : ∀ d k, (ck K id c d k).f.length ≤ c.weight ∧ (ck K id c d k).w.length ≤ c.weight := by
  induction c with
  | zero => intro d k; simp [ck]
  | one s => intro d k; simp [ck, C.weight]
  | odd v => intro d k; simp [ck]
  | give c ih => intro d k; have := ih d (-k); simp only [ck, C.weight]; omega
  | when d' c ih => intro d k; have := ih (Max.max d d') k; simp only [ck, C.weight]; omega
  | and l r hl hr =>
    intro d k
    have h1 := hl d k
    have h2 := hr d k
    simp only [ck, Ck.seq, C.weight]
    split
    · omega
    · simp only [List.length_append]; omega
  | or s l r hl hr =>
    intro d k
    simp only [ck, C.weight]
    cases K.chosen (id, s) with
    | none => simp
    | some p =>
      have h1 := hl (Max.max d p.2) k
      have h2 := hr (Max.max d p.2) k
      simp only
      split <;> omega
  | scale o c ih =>
    intro d k
    have h1 := ih d (mulR k (rk K d o).n).1
    have h2 := lackN_len K d o
    simp only [ck, C.weight]
    split
    · simp
    · split
      · split
        · split
          · simp
          · omega
        · simp
      · simp only [List.length_nil]; omega
  | iff o l r hl hr =>
    intro d k
    have h1 := hl d k
    have h3 := hr d k
    have h2 := lackN_len K d o
    simp only [ck, C.weight]
    split
    · simp
    · split
      · split <;> omega
      · simp only [List.length_nil]; omega

/-! ### so many times -/
def Fl.times (n : Int) (x : Fl) : Fl := ⟨x.day, x.cur, n * x.amt⟩
def Wt.turn (n : Int) (y : Wt) : Wt := if y.ch = true ∧ n < 0 then ⟨y.ch, y.name, y.label, y.day, 1 - y.side⟩ else y
theorem turn_name (n d : Int) (s : ByteArray) : (nameW d s).turn n = nameW d s := by simp [Wt.turn, nameW]
theorem vB_less (n y : Int) (hn : n ≠ 0) (h : vB (n * y) = true) : vB y = true := by
  rw [vB_iff] at *
  have h1 : (n * y).natAbs = n.natAbs * y.natAbs := Int.natAbs_mul n y
  have h2 : 1 ≤ n.natAbs := by omega
  have h3 : y.natAbs ≤ n.natAbs * y.natAbs := Nat.le_mul_of_pos_left _ h2
  omega
theorem side_times (n k : Int) (hn : n ≠ 0) (hk : k ≠ 0) : side (n * k) = if n < 0 then 1 - side k else side k := by
  unfold side
  rcases Int.lt_or_gt_of_ne hn with h | h
  · rcases Int.lt_or_gt_of_ne hk with g | g
    · have := Int.mul_pos_of_neg_of_neg h g
      rw [if_pos this, if_pos h, if_neg (by omega)]; rfl
    · have := Int.mul_neg_of_neg_of_pos h g
      rw [if_neg (by omega), if_pos h, if_pos g]; rfl
  · rcases Int.lt_or_gt_of_ne hk with g | g
    · have := Int.mul_neg_of_pos_of_neg h g
      rw [if_neg (by omega), if_neg (by omega), if_neg (by omega)]
    · have := Int.mul_pos h g
      rw [if_pos this, if_neg (by omega), if_pos g]
theorem turn_ch (n d k : Int) (s : ByteArray) (hn : n ≠ 0) (hk : k ≠ 0) : (chW d s k).turn n = chW d s (n * k) := by
  unfold chW
  rw [side_times n k hn hk]
  unfold Wt.turn
  by_cases h : n < 0
  · rw [if_pos ⟨rfl, h⟩, if_pos h]
  · rw [if_neg (fun x => h x.2), if_neg h]
theorem mulR_iff (a b : Int) : (mulR a b).2 = true ↔ vB a = true ∧ vB b = true ∧ vB (a * b) = true := by
  unfold mulR
  split
  · rename_i h; simp only [Bool.and_eq_true] at h; simp [h]
  · rename_i h; simp only [Bool.and_eq_true] at h; simp; intro x y; cases hz : vB (a * b)
    · rfl
    · exact absurd ⟨⟨x, y⟩, hz⟩ h
theorem mulR_val (a b : Int) (h : (mulR a b).2 = true) : (mulR a b).1 = a * b := by
  obtain ⟨h1, h2, h3⟩ := (mulR_iff a b).1 h
  unfold mulR
  rw [h1, h2, h3]
  rfl
theorem ck_times (K : KW) (hK : KW.Vals K) (id : ByteArray) (n : Int) (hn : n ≠ 0) (c : C) : formC c = true → ∀ d k, k ≠ 0 → (ck K id c d (n * k)).e = 0 →
    (ck K id c d k).e = 0 ∧ (ck K id c d (n * k)).f = (ck K id c d k).f.map (Fl.times n) ∧ (ck K id c d (n * k)).w = (ck K id c d k).w.map (Wt.turn n) := by
  induction c with
  | zero => intro _ d k _ _; exact ⟨rfl, rfl, rfl⟩
  | one s => intro _ d k _ _; exact ⟨rfl, rfl, rfl⟩
  | odd v => intro _ d k _ _; exact ⟨rfl, rfl, rfl⟩
  | give c ih =>
    intro hf d k hk he
    simp only [ck] at he ⊢
    rw [show -(n * k) = n * (-k) by rw [Int.mul_neg]] at he ⊢
    exact ih hf d (-k) (by omega) he
  | when d' c ih =>
    intro hf d k hk he
    simp only [formC, Bool.and_eq_true] at hf
    exact ih hf.2 _ k hk he
  | and l r hl hr =>
    intro hf d k hk he
    simp only [formC, Bool.and_eq_true] at hf
    simp only [ck, Ck.seq] at he ⊢
    split at he
    · rename_i h; exact absurd he h
    · rename_i h
      have h0 : (ck K id l d (n * k)).e = 0 := by simpa using h
      obtain ⟨a1, a2, a3⟩ := hl hf.1 d k hk h0
      obtain ⟨b1, b2, b3⟩ := hr hf.2 d k hk he
      rw [if_neg h, if_neg (by simpa using a1)]
      exact ⟨b1, by simp only [List.map_append, a2, b2], by simp only [List.map_append, a3, b3]⟩
  | or s l r hl hr =>
    intro hf d k hk he
    simp only [formC, Bool.and_eq_true] at hf
    simp only [ck] at he ⊢
    cases hx : K.chosen (id, s) with
    | none =>
      refine ⟨rfl, rfl, ?_⟩
      simp only [List.map_cons, List.map_nil]
      rw [turn_ch n d k s hn hk]
    | some p =>
      rw [hx] at he
      simp only at he ⊢
      split at he
      · rename_i h; rw [if_pos h, if_pos h]; exact hl hf.1.2 _ k hk he
      · rename_i h; rw [if_neg h, if_neg h]; exact hr hf.2 _ k hk he
  | scale o c ih =>
    intro hf d k hk he
    simp only [formC, Bool.and_eq_true] at hf
    simp only [ck] at he ⊢
    split at he
    · rename_i h; exact absurd he h
    · rename_i h
      rw [if_neg h, if_neg h]
      split at he
      · rename_i h1
        rw [if_pos h1, if_pos h1]
        split at he
        · rename_i h2
          obtain ⟨g1, g2, g3⟩ := (mulR_iff _ _).1 h2
          have e1 := mulR_val _ _ h2
          rw [Int.mul_assoc] at g3 e1
          have h3 : (mulR k (rk K d o).n).2 = true := (mulR_iff _ _).2 ⟨vB_less n k hn g1, g2, vB_less n _ hn g3⟩
          have e2 := mulR_val _ _ h3
          rw [if_pos h2, if_pos h3, e1, e2]
          rw [e1] at he
          by_cases h4 : k * (rk K d o).n = 0
          · rw [if_pos h4, h4, Int.mul_zero, if_pos rfl]; exact ⟨rfl, rfl, rfl⟩
          · have h5 : n * (k * (rk K d o).n) ≠ 0 := Int.mul_ne_zero hn h4
            rw [if_neg h5] at he
            rw [if_neg h4, if_neg h5]
            exact ih hf.2 d _ h4 he
        · cases he
      · rename_i h1
        rw [if_neg h1, if_neg h1]
        refine ⟨rfl, rfl, ?_⟩
        unfold waitN
        rw [List.map_map]
        refine (List.map_congr_left fun s _ => ?_)
        exact (turn_name n d s).symm
  | iff o l r hl hr =>
    intro hf d k hk he
    simp only [formC, Bool.and_eq_true] at hf
    simp only [ck] at he ⊢
    split at he
    · rename_i h; exact absurd he h
    · rename_i h
      rw [if_neg h, if_neg h]
      split at he
      · rename_i h1
        rw [if_pos h1, if_pos h1]
        split at he
        · rename_i h2; rw [if_pos h2, if_pos h2]; exact hl hf.1.2 d k hk he
        · rename_i h2; rw [if_neg h2, if_neg h2]; exact hr hf.2 d k hk he
      · rename_i h1
        rw [if_neg h1, if_neg h1]
        refine ⟨rfl, rfl, ?_⟩
        unfold waitN
        rw [List.map_map]
        refine (List.map_congr_left fun s _ => ?_)
        exact (turn_name n d s).symm
theorem turn_turn (n : Int) (y : Wt) : (y.turn n).turn n = y := by
  unfold Wt.turn
  by_cases h : y.ch = true ∧ n < 0
  · rw [if_pos h, if_pos ⟨h.1, h.2⟩]
    cases y
    simp only [Wt.mk.injEq, true_and]
    omega
  · rw [if_neg h, if_neg h]
theorem turn_inj (n : Int) {a b : Wt} (h : a.turn n = b.turn n) : a = b := by
  rw [← turn_turn n a, h, turn_turn]
theorem addW_turn (n : Int) (ys : List Wt) : ∀ W, addW (W.map (Wt.turn n)) (ys.map (Wt.turn n)) = (addW W ys).map (Wt.turn n) := by
  induction ys with
  | nil => intro W; rfl
  | cons y ys ih =>
    intro W
    show addW (putW (W.map (Wt.turn n)) (y.turn n)) (ys.map (Wt.turn n)) = (addW (putW W y) ys).map (Wt.turn n)
    rw [← ih (putW W y)]
    congr 1
    unfold putW
    by_cases h : y ∈ W
    · rw [if_pos h, if_pos (List.mem_map_of_mem h)]
    · rw [if_neg h, if_neg (fun hm => by obtain ⟨z, hz, e⟩ := List.mem_map.1 hm; rw [turn_inj n e] at hz; exact h hz)]
      simp

end Go.Proofs.Ytngjlkdpplmpaaa.Ca
namespace Go.Proofs.Ytngjlkdpplmpaaa.Ca
open Go.RowKit Wd Cn Vl
set_option linter.unusedVariables false

/-- What was chosen is in range. -/
def KW.Chs (K : KW) : Prop := ∀ q ∈ K.C, (q.2.1 = 0 ∨ q.2.1 = 1) ∧ 0 ≤ q.2.2 ∧ q.2.2 ≤ 10000
theorem chs_at {K : KW} (h : KW.Chs K) {p : ByteArray × ByteArray} {v : Int × Int} (hf : K.chosen p = some v) : (v.1 = 0 ∨ v.1 = 1) ∧ 0 ≤ v.2 ∧ v.2 ≤ 10000 :=
  h _ (find_some K.C p v hf)
theorem dayB_iff (d : Int) : dayB d = true ↔ 0 ≤ d ∧ d ≤ 10000 := by simp [dayB]

/-- The error is that of an amount that is too great, or none. -/
theorem ck_errs (K : KW) (hK : KW.Vals K) (id : ByteArray) (c : C) : formC c = true → ∀ d k, (ck K id c d k).e = 0 ∨ (ck K id c d k).e = 6 := by
  induction c with
  | zero => intro _ d k; exact .inl rfl
  | one s => intro _ d k; exact .inl rfl
  | odd v => intro _ d k; exact .inl rfl
  | give c ih => intro hf d k; exact ih hf d (-k)
  | when d' c ih => intro hf d k; simp only [formC, Bool.and_eq_true] at hf; exact ih hf.2 _ k
  | and l r hl hr =>
    intro hf d k
    simp only [formC, Bool.and_eq_true] at hf
    simp only [ck, Ck.seq]
    split
    · exact hl hf.1 d k
    · exact hr hf.2 d k
  | or s l r hl hr =>
    intro hf d k
    simp only [formC, Bool.and_eq_true] at hf
    simp only [ck]
    cases K.chosen (id, s) with
    | none => exact .inl rfl
    | some p =>
      simp only
      split
      · exact hl hf.1.2 _ k
      · exact hr hf.2 _ k
  | scale o c ih =>
    intro hf d k
    simp only [formC, Bool.and_eq_true] at hf
    simp only [ck]
    split
    · exact (rk_good hK d o hf.1).errs
    · split
      · split
        · split
          · exact .inl rfl
          · exact ih hf.2 _ _
        · exact .inr rfl
      · exact .inl rfl
  | iff o l r hl hr =>
    intro hf d k
    simp only [formC, Bool.and_eq_true] at hf
    simp only [ck]
    split
    · exact (rk_good hK d o hf.1.1).errs
    · split
      · split
        · exact hl hf.1.2 d k
        · exact hr hf.2 d k
      · exact .inl rfl

def Fl.In (d : Int) (x : Fl) : Prop := d ≤ x.day ∧ x.day ≤ 10000 ∧ x.amt ≠ 0 ∧ vB x.amt = true
theorem Fl.In.mono {d d' : Int} {x : Fl} (h : x.In d') (hd : d ≤ d') : x.In d := ⟨Int.le_trans hd h.1, h.2⟩
/-- What is paid is paid on a day from d on, and is not nothing. -/
theorem ck_flows (K : KW) (hC : KW.Chs K) (id : ByteArray) (c : C) : formC c = true → ∀ d k, d ≤ 10000 → k ≠ 0 → vB k = true → ∀ x ∈ (ck K id c d k).f, x.In d := by
  induction c with
  | zero => intro _ d k _ _ _ x hx; simp [ck] at hx
  | one s => intro _ d k hd hk hv x hx; simp [ck] at hx; subst hx; exact ⟨Int.le_refl _, hd, hk, hv⟩
  | odd v => intro _ d k _ _ _ x hx; simp [ck] at hx
  | give c ih => intro hf d k hd hk hv x hx; exact ih hf d (-k) hd (by omega) (vB_neg k hv) x hx
  | when d' c ih =>
    intro hf d k hd hk hv x hx
    simp only [formC, Bool.and_eq_true] at hf
    have h1 := (dayB_iff d').1 hf.1
    exact (ih hf.2 (Max.max d d') k (by omega) hk hv x hx).mono (by omega)
  | and l r hl hr =>
    intro hf d k hd hk hv x hx
    simp only [formC, Bool.and_eq_true] at hf
    simp only [ck, Ck.seq] at hx
    split at hx
    · exact hl hf.1 d k hd hk hv x hx
    · rcases List.mem_append.1 hx with h | h
      · exact hl hf.1 d k hd hk hv x h
      · exact hr hf.2 d k hd hk hv x h
  | or s l r hl hr =>
    intro hf d k hd hk hv x hx
    simp only [formC, Bool.and_eq_true] at hf
    simp only [ck] at hx
    cases hx2 : K.chosen (id, s) with
    | none => rw [hx2] at hx; simp at hx
    | some p =>
      rw [hx2] at hx
      have h1 := chs_at hC hx2
      simp only at hx
      split at hx
      · exact (hl hf.1.2 (Max.max d p.2) k (by omega) hk hv x hx).mono (by omega)
      · exact (hr hf.2 (Max.max d p.2) k (by omega) hk hv x hx).mono (by omega)
  | scale o c ih =>
    intro hf d k hd hk hv x hx
    simp only [formC, Bool.and_eq_true] at hf
    simp only [ck] at hx
    split at hx
    · simp at hx
    · split at hx
      · split at hx
        · rename_i h2
          split at hx
          · simp at hx
          · rename_i h3
            exact ih hf.2 d _ hd h3 (mulR_in _ _ h2) x hx
        · simp at hx
      · simp at hx
  | iff o l r hl hr =>
    intro hf d k hd hk hv x hx
    simp only [formC, Bool.and_eq_true] at hf
    simp only [ck] at hx
    split at hx
    · simp at hx
    · split at hx
      · split at hx
        · exact hl hf.1.2 d k hd hk hv x hx
        · exact hr hf.2 d k hd hk hv x hx
      · simp at hx

/-- What is waited for: a day that may be; a choice that is not made, or a name that is not fixed. -/
structure Wt.In (K : KW) (id : ByteArray) (labels : List ByteArray) (d : Int) (y : Wt) : Prop where
  lo : d ≤ y.day
  hi : y.day ≤ 10000
  side : y.side = 0 ∨ y.side = 1
  ch : y.ch = true → y.name = ByteArray.empty ∧ y.label ∈ labels ∧ K.chosen (id, y.label) = none
  nm : y.ch = false → y.label = ByteArray.empty ∧ y.side = 0 ∧ nameGo 0 (runesOf y.name) = true ∧ y.name.size ≤ 2147483648 ∧ K.fixed (y.name, y.day) = none
theorem Wt.In.mono {K : KW} {id : ByteArray} {l l' : List ByteArray} {d d' : Int} {y : Wt} (h : y.In K id l' d') (hd : d ≤ d') (hl : ∀ s ∈ l', s ∈ l) : y.In K id l d :=
  ⟨Int.le_trans hd h.lo, h.hi, h.side, fun x => ⟨(h.ch x).1, hl _ (h.ch x).2.1, (h.ch x).2.2⟩, h.nm⟩
theorem side_in (k : Int) : side k = 0 ∨ side k = 1 := by unfold side; split <;> simp
theorem waitN_in (K : KW) (id : ByteArray) (l : List ByteArray) (d : Int) (hd : d ≤ 10000) (o : O) (hok : o.Ok) (hf : formB o = true) : ∀ y ∈ waitN K d o, y.In K id l d := by
  intro y hy
  obtain ⟨s, hs, rfl⟩ := List.mem_map.1 hy
  have h := lack_mem hs
  exact ⟨Int.le_refl _, hd, .inl rfl, fun h => (by cases h), fun _ => ⟨rfl, rfl, names_form o hf s h.1, Vl.names_small o hok s h.1, h.2⟩⟩
theorem ck_waits (K : KW) (hC : KW.Chs K) (id : ByteArray) (c : C) : formC c = true → c.Ok → ∀ d k, d ≤ 10000 → ∀ y ∈ (ck K id c d k).w, y.In K id c.labels d := by
  induction c with
  | zero => intro _ _ d k _ x hx; simp [ck] at hx
  | one s => intro _ _ d k _ x hx; simp [ck] at hx
  | odd v => intro _ _ d k _ x hx; simp [ck] at hx
  | give c ih => intro hf hok d k hd x hx; exact ih hf hok d (-k) hd x hx
  | when d' c ih =>
    intro hf hok d k hd x hx
    simp only [formC, Bool.and_eq_true] at hf
    have h1 := (dayB_iff d').1 hf.1
    exact (ih hf.2 hok.2 (Max.max d d') k (by omega) x hx).mono (by omega) (fun _ h => h)
  | and l r hl hr =>
    intro hf hok d k hd x hx
    simp only [formC, Bool.and_eq_true] at hf
    simp only [ck, Ck.seq] at hx
    have hL : ∀ x ∈ (ck K id l d k).w, x.In K id (C.and l r).labels d := fun x h => (hl hf.1 hok.1 d k hd x h).mono (Int.le_refl _) (fun s h => by simp [C.labels, h])
    have hR : ∀ x ∈ (ck K id r d k).w, x.In K id (C.and l r).labels d := fun x h => (hr hf.2 hok.2 d k hd x h).mono (Int.le_refl _) (fun s h => by simp [C.labels, h])
    split at hx
    · exact hL x hx
    · rcases List.mem_append.1 hx with h | h
      · exact hL x h
      · exact hR x h
  | or s l r hl hr =>
    intro hf hok d k hd x hx
    simp only [formC, Bool.and_eq_true] at hf
    simp only [ck] at hx
    cases hx2 : K.chosen (id, s) with
    | none =>
      rw [hx2] at hx
      simp at hx
      subst hx
      exact ⟨Int.le_refl _, hd, side_in k, fun _ => ⟨rfl, by simp [chW, C.labels], hx2⟩, fun h => (by cases h)⟩
    | some p =>
      rw [hx2] at hx
      have h1 := chs_at hC hx2
      simp only at hx
      split at hx
      · exact (hl hf.1.2 hok.2.1 (Max.max d p.2) k (by omega) x hx).mono (by omega) (fun s h => by simp [C.labels, h])
      · exact (hr hf.2 hok.2.2 (Max.max d p.2) k (by omega) x hx).mono (by omega) (fun s h => by simp [C.labels, h])
  | scale o c ih =>
    intro hf hok d k hd x hx
    simp only [formC, Bool.and_eq_true] at hf
    simp only [ck] at hx
    split at hx
    · simp at hx
    · split at hx
      · split at hx
        · split at hx
          · simp at hx
          · exact ih hf.2 hok.2 d _ hd x hx
        · simp at hx
      · exact waitN_in K id _ d hd o hok.1 hf.1 x hx
  | iff o l r hl hr =>
    intro hf hok d k hd x hx
    simp only [formC, Bool.and_eq_true] at hf
    simp only [ck] at hx
    split at hx
    · simp at hx
    · split at hx
      · split at hx
        · exact (hl hf.1.2 hok.2.1 d k hd x hx).mono (Int.le_refl _) (fun s h => by simp [C.labels, h])
        · exact (hr hf.2 hok.2.2 d k hd x hx).mono (Int.le_refl _) (fun s h => by simp [C.labels, h])
      · exact waitN_in K id _ d hd o hok.1 hf.1.1 x hx

/-! ### what is known grows -/
def ExtW (K K' : KW) : Prop := Ext K K' ∧ ∀ p v, K.chosen p = some v → K'.chosen p = some v
theorem ck_grows (K K' : KW) (hK : KW.Vals K) (hx : ExtW K K') (id : ByteArray) (c : C) : formC c = true → ∀ d k, (ck K id c d k).e = 0 → (ck K' id c d k).e = 0 → (ck K id c d k).f.Sublist (ck K' id c d k).f := by
  induction c with
  | zero => intro _ d k _ _; exact List.Sublist.refl _
  | one s => intro _ d k _ _; exact List.Sublist.refl _
  | odd v => intro _ d k _ _; exact List.Sublist.refl _
  | give c ih => intro hf d k; exact ih hf d (-k)
  | when d' c ih => intro hf d k; simp only [formC, Bool.and_eq_true] at hf; exact ih hf.2 _ k
  | and l r hl hr =>
    intro hf d k h1 h2
    simp only [formC, Bool.and_eq_true] at hf
    simp only [ck, Ck.seq] at h1 h2 ⊢
    split at h1
    · rename_i h; exact absurd h1 h
    · rename_i h
      split at h2
      · rename_i g; exact absurd h2 g
      · rename_i g
        rw [if_neg h, if_neg g]
        exact (hl hf.1 d k (by simpa using h) (by simpa using g)).append (hr hf.2 d k h1 h2)
  | or s l r hl hr =>
    intro hf d k h1 h2
    simp only [formC, Bool.and_eq_true] at hf
    simp only [ck] at h1 h2 ⊢
    cases hq : K.chosen (id, s) with
    | none => exact List.nil_sublist _
    | some p =>
      rw [hq] at h1
      rw [hx.2 _ _ hq] at h2 ⊢
      simp only at h1 h2 ⊢
      split at h1
      · rename_i h; rw [if_pos h] at h2 ⊢; rw [if_pos h]; exact hl hf.1.2 _ k h1 h2
      · rename_i h; rw [if_neg h] at h2 ⊢; rw [if_neg h]; exact hr hf.2 _ k h1 h2
  | scale o c ih =>
    intro hf d k h1 h2
    simp only [formC, Bool.and_eq_true] at hf
    simp only [ck] at h1 h2 ⊢
    split at h1
    · rename_i h; exact absurd h1 h
    · rename_i h
      rw [if_neg h]
      split at h1
      · rename_i g
        rw [rk_ext hK hx.1 d o hf.1 g, if_neg h, if_pos g] at h2
        rw [if_pos g, rk_ext hK hx.1 d o hf.1 g, if_neg h, if_pos g]
        split at h1
        · rename_i m
          rw [if_pos m] at h2 ⊢
          split at h1
          · rename_i z; rw [if_pos z]; exact List.nil_sublist _
          · rename_i z; rw [if_neg z] at h2 ⊢; rw [if_neg z]; rw [if_pos m]; exact ih hf.2 _ _ h1 h2
        · cases h1
      · rename_i g
        rw [if_neg g]
        exact List.nil_sublist _
  | iff o l r hl hr =>
    intro hf d k h1 h2
    simp only [formC, Bool.and_eq_true] at hf
    simp only [ck] at h1 h2 ⊢
    split at h1
    · rename_i h; exact absurd h1 h
    · rename_i h
      rw [if_neg h]
      split at h1
      · rename_i g
        rw [rk_ext hK hx.1 d o hf.1.1 g, if_neg h, if_pos g] at h2
        rw [if_pos g, rk_ext hK hx.1 d o hf.1.1 g, if_neg h, if_pos g]
        split at h1
        · rename_i z; rw [if_pos z] at h2 ⊢; rw [if_pos z]; exact hl hf.1.2 _ _ h1 h2
        · rename_i z; rw [if_neg z] at h2 ⊢; rw [if_neg z]; exact hr hf.2 _ _ h1 h2
      · rename_i g
        rw [if_neg g]
        exact List.nil_sublist _

/-! ### a row met in another, one by one -/
instance : DecidableEq Fl := fun a b => decidable_of_iff (a.day = b.day ∧ a.cur = b.cur ∧ a.amt = b.amt) (by cases a; cases b; simp)
/-- How many of a are met in b, in their order, k of them already. -/
def metN (a : List Fl) (b : List Fl) (k : Nat) : Nat := b.foldl (fun k x => if a[k]? = some x then k + 1 else k) k
theorem met_all (a : List Fl) : ∀ (b : List Fl) (k : Nat), k ≤ a.length → (a.drop k).Sublist b → metN a b k = a.length := by
  intro b
  induction b with
  | nil =>
    intro k hk h
    have := List.sublist_nil.1 h
    rw [List.drop_eq_nil_iff] at this
    show k = _
    omega
  | cons x b ih =>
    intro k hk h
    show metN a b (if a[k]? = some x then k + 1 else k) = _
    by_cases hlt : k < a.length
    · rw [List.drop_eq_getElem_cons hlt] at h
      split
      · rename_i e
        rw [List.getElem?_eq_getElem hlt] at e
        injection e with e
        rw [e] at h
        exact ih (k + 1) hlt (List.cons_sublist_cons.1 h)
      · rename_i e
        rw [List.getElem?_eq_getElem hlt] at e
        refine ih k hk ?_
        rw [List.drop_eq_getElem_cons hlt]
        cases h with
        | cons _ h => exact h
        | cons_cons _ h => exact absurd rfl e
    · have hk' : k = a.length := by omega
      subst hk'
      rw [List.getElem?_eq_none (Nat.le_refl _), if_neg (by simp)]
      exact ih _ (Nat.le_refl _) (by rw [List.drop_length]; exact List.nil_sublist _)

end Go.Proofs.Ytngjlkdpplmpaaa.Ca
namespace Go.Proofs.Ytngjlkdpplmpaaa.Wd
open Go.RowKit Go.Maps
set_option linter.unusedVariables false

def rF (F : List ((ByteArray × Int) × Int)) : List Value := F.flatMap fun q => [.string q.1.1, .int .i64 q.1.2, .int .i64 q.2]
def rC (C : List ((ByteArray × ByteArray) × (Int × Int))) : List Value := C.flatMap fun q => [.string q.1.1, .string q.1.2, .int .i64 q.2.1, .int .i64 q.2.2]
theorem rF_app (a b : List ((ByteArray × Int) × Int)) : rF (a ++ b) = rF a ++ rF b := by simp [rF]
theorem rC_app (a b : List ((ByteArray × ByteArray) × (Int × Int))) : rC (a ++ b) = rC a ++ rC b := by simp [rC]
theorem rF_at : ∀ (F : List ((ByteArray × Int) × Int)) (i : Nat) (h : i < F.length), (rF F)[i * 3]? = some (.string F[i].1.1) ∧ (rF F)[i * 3 + 1]? = some (.int .i64 F[i].1.2) ∧ (rF F)[i * 3 + 2]? = some (.int .i64 F[i].2)
  | [], i, h => by simp at h
  | q :: F, 0, _ => by simp [rF]
  | q :: F, i + 1, h => by
    have ih := rF_at F i (by simpa using h)
    have e : rF (q :: F) = [.string q.1.1, .int .i64 q.1.2, .int .i64 q.2] ++ rF F := by simp [rF]
    rw [e, show (i + 1) * 3 = 3 + i * 3 by omega, show 3 + i * 3 + 1 = 3 + (i * 3 + 1) by omega, show 3 + i * 3 + 2 = 3 + (i * 3 + 2) by omega]
    rw [List.getElem?_append_right (by simp), List.getElem?_append_right (by simp), List.getElem?_append_right (by simp)]
    simpa using ih
theorem rC_at : ∀ (F : List ((ByteArray × ByteArray) × (Int × Int))) (i : Nat) (h : i < F.length), (rC F)[i * 4]? = some (.string F[i].1.1) ∧ (rC F)[i * 4 + 1]? = some (.string F[i].1.2) ∧ (rC F)[i * 4 + 2]? = some (.int .i64 F[i].2.1) ∧ (rC F)[i * 4 + 3]? = some (.int .i64 F[i].2.2)
  | [], i, h => by simp at h
  | q :: F, 0, _ => by simp [rC]
  | q :: F, i + 1, h => by
    have ih := rC_at F i (by simpa using h)
    have e : rC (q :: F) = [.string q.1.1, .string q.1.2, .int .i64 q.2.1, .int .i64 q.2.2] ++ rC F := by simp [rC]
    rw [e, show (i + 1) * 4 = 4 + i * 4 by omega, show 4 + i * 4 + 1 = 4 + (i * 4 + 1) by omega, show 4 + i * 4 + 2 = 4 + (i * 4 + 2) by omega, show 4 + i * 4 + 3 = 4 + (i * 4 + 3) by omega]
    rw [List.getElem?_append_right (by simp), List.getElem?_append_right (by simp), List.getElem?_append_right (by simp), List.getElem?_append_right (by simp)]
    simpa using ih

/-- The document's world in memory, from block B on. -/
structure RIn (w : World) (B r : Nat) (K : KW) (vF vC : Value) : Prop where
  blk : w.heap[r]? = some (.cells #[vF, vC] 109)
  rf : w.ownsRow B 180 3 vF K.F.length (rF K.F)
  rc : w.ownsRow B 148 4 vC K.C.length (rC K.C)
  hr : B ≤ r
theorem row_shape {w : World} {B : Nat} {e : TypeId} {size n : Nat} {v : Value} {xs : List Value} (h : w.ownsRow B e size v n xs) : ∃ ao cap, v = .slice ao n cap := by
  rcases h.2 with ⟨rfl, h0⟩ | ⟨g, cap, cur, rfl, _⟩
  · subst h0; exact ⟨_, _, rfl⟩
  · exact ⟨_, _, rfl⟩
theorem row_cells {w : World} {B : Nat} {e : TypeId} {size n : Nat} {v : Value} {xs : List Value} (h : w.ownsRow B e size v n xs) (hn : 0 < n) : ∃ g cap, v = .slice (some ⟨g, 0, none⟩) n cap ∧ g < w.heap.size ∧ ∀ j u, xs[j]? = some u → w.cell? ⟨g, j, none⟩ = some u := by
  have hc := fun g hg => h.cells (g := g) hg
  have hlt := h.lt
  rcases h.2 with ⟨rfl, h0⟩ | ⟨g, cap, cur, rfl, _⟩
  · omega
  · refine ⟨g, cap, rfl, (hlt g rfl).2, fun j u hu => ?_⟩
    have := hc g rfl j u hu
    rw [Addr.add_lit, Nat.zero_add] at this
    exact this

theorem toList_loop (b : ByteArray) : ∀ n i r, b.size - i = n → ByteArray.toList.loop b i r = r.reverse ++ b.data.toList.drop i := by
  have hs : b.data.toList.length = b.size := by simp
  intro n
  induction n with
  | zero =>
    intro i r h
    rw [ByteArray.toList.loop, if_neg (by omega), List.drop_eq_nil_of_le (by omega)]
    simp
  | succ n ih =>
    intro i r h
    have hi : i < b.size := by omega
    rw [ByteArray.toList.loop, if_pos hi, ih (i + 1) _ (by omega), List.drop_eq_getElem_cons (by omega : i < b.data.toList.length)]
    have hg : b.get! i = b.data.toList[i]'(by omega) := by
      cases b with
      | mk d => simp [ByteArray.get!]; exact getElem!_pos d i hi
    simp [hg]
theorem bytes_inj {a b : ByteArray} (h : a.toList = b.toList) : a = b := by
  unfold ByteArray.toList at h
  rw [toList_loop a _ 0 [] rfl, toList_loop b _ 0 [] rfl] at h
  simp at h
  cases a; cases b
  simp at h
  rw [h]
theorem find_first {α β : Type} [DecidableEq α] : ∀ (l : List (α × β)) (p : α) (i : Nat) (q : α × β), l[i]? = some q → q.1 = p → (∀ j (hj : j < l.length), j < i → l[j].1 ≠ p) → (l.find? fun q => decide (q.1 = p)).map (·.2) = some q.2
  | [], p, i, q, h, _, _ => by simp at h
  | x :: l, p, 0, q, h, hq, _ => by
    simp at h
    subst h
    simp [hq]
  | x :: l, p, i + 1, q, h, hq, hn => by
    have h0 := hn 0 (by simp) (by omega)
    simp only [List.getElem_cons_zero] at h0
    rw [List.find?_cons_of_neg (by simpa using h0)]
    refine find_first l p i q (by simpa using h) hq (fun j hj hji => ?_)
    have := hn (j + 1) (by simpa using hj) (by omega)
    simpa using this
theorem hidInW {p : Prop} (h : p) : Hid p := h
set_option maxHeartbeats 2000000 in
set_option maxRecDepth 100000 in
theorem refFixed_any (w : World) (B r : Nat) (K : KW) (vF vC : Value) (h : RIn w B r K vF vC) (s : ByteArray) (d : Int) (hlen : K.F.length ≤ 1000000) :
    Calls Try.prog 87 #[.pointer (some ⟨r, 0, none⟩), .string s, .int .i64 d] w fun e w' => e = .returned (.tuple #[.int .i64 ((K.fixed (s, d)).getD 0), .bool (K.fixed (s, d)).isSome]) ∧ Below w.heap.size w w' := by
  have c0 : w.cell? ⟨r, 0, none⟩ = some vF := cell_blk h.blk rfl
  obtain ⟨ao, cap, rfl⟩ := row_shape h.rf
  have HR : Hid (w.ownsRow B 180 3 (.slice ao K.F.length cap) K.F.length (rF K.F)) := h.rf
  have HK : Hid (K.fixed (s, d) = (K.F.find? fun q => decide (q.1 = (s, d))).map (·.2)) := rfl
  clear h
  generalize hF : K.F = F at *
  go_enter Try.func87, Try.ntmps87
  go_wp2_with fail
  go_loopw [15] (fun s15 wr => ∃ i : Nat, i ≤ F.length ∧ s15 = .int .i64 i ∧ Below w.heap.size w wr ∧ ∀ j (hj : j < F.length), j < i → F[j].1 ≠ (s, d)) (fun s15 _ => F.length - (intOf s15).toNat)
  case atStart => exact ⟨0, by omega, rfl, Below.refl _ _, fun j _ hj => absurd hj (by omega)⟩
  case round =>
    obtain ⟨i, hi, rfl, hb, hno⟩ := hrel
    have HB := hidInW hb
    have HNO := hidInW hno
    clear hb hno
    by_cases hil : i < F.length
    · have a1 : (i : Int) < (F.length : Int) := by omega
      obtain ⟨g, cap', hv, hg, hcl⟩ := row_cells HR.out (by omega)
      simp only [Value.slice.injEq] at hv
      obtain ⟨rfl, _, _⟩ := hv
      obtain ⟨q0, q1, q2⟩ := rF_at F i hil
      have d0 : wr.cell? ⟨g, i * 3, none⟩ = some (.string F[i].1.1) := (HB.out.cell (p := ⟨g, i * 3, none⟩) hg).trans (hcl _ _ q0)
      have d1 : wr.cell? ⟨g, i * 3 + 1, none⟩ = some (.int .i64 F[i].1.2) := (HB.out.cell (p := ⟨g, i * 3 + 1, none⟩) hg).trans (hcl _ _ q1)
      have d2 : wr.cell? ⟨g, i * 3 + 2, none⟩ = some (.int .i64 F[i].2) := (HB.out.cell (p := ⟨g, i * 3 + 2, none⟩) hg).trans (hcl _ _ q2)
      clear hcl q0 q1 q2
      generalize hq : F[i] = q at *
      have hqi : F[i]? = some q := by rw [List.getElem?_eq_getElem hil, hq]
      by_cases e0 : q.1.1.toList = s.toList
      · have e1 : (q.1.1.toList == s.toList) = true := by rw [beq_iff_eq]; exact e0
        have HE0 := hidInW e0
        clear e0
        cases e2 : (q.1.2 == d) with
        | false =>
          go_wp2_with fail
          go_roundw
          case rel =>
            refine ⟨i + 1, by omega, by go_num, below_alloc HB.out _, fun j hj hji => ?_⟩
            by_cases hje : j = i
            · subst hje
              rw [hq]
              intro e
              rw [e] at e2
              simp at e2
            · exact HNO.out j hj (by omega)
          case measure => simp [intOf]; omega
        | true =>
          go_wp2_with fail
          go_ret2
          have hqe : q.1 = (s, d) := Prod.ext (bytes_inj HE0.out) (by simpa using e2)
          have hfd := find_first F (s, d) i q hqi hqe (fun j hj hji => HNO.out j hj hji)
          refine ⟨?_, below_alloc HB.out _⟩
          rw [HK.out, hfd]
          rfl
      · have e1 : (q.1.1.toList == s.toList) = false := by rw [beq_eq_false_iff_ne]; exact e0
        have HE0 := hidInW e0
        clear e0
        go_wp2_with fail
        go_roundw
        case rel =>
          refine ⟨i + 1, by omega, by go_num, below_alloc HB.out _, fun j hj hji => ?_⟩
          by_cases hje : j = i
          · subst hje
            rw [hq]
            intro e
            have := HE0.out
            rw [e] at this
            exact this rfl
          · exact HNO.out j hj (by omega)
        case measure => simp [intOf]; omega
    · have a1 : ¬ (i : Int) < (F.length : Int) := by omega
      go_wp2_with fail
      go_ret2
      refine ⟨?_, HB.out⟩
      have hn : (F.find? fun q => decide (q.1 = (s, d))).map (·.2) = none := by
        rw [find_none]
        intro q hq
        obtain ⟨j, hj, rfl⟩ := List.getElem_of_mem hq
        exact HNO.out j hj (by omega)
      rw [HK.out, hn]
      rfl

set_option maxHeartbeats 2000000 in
set_option maxRecDepth 100000 in
theorem refChosen_any (w : World) (B r : Nat) (K : KW) (vF vC : Value) (h : RIn w B r K vF vC) (s d : ByteArray) (hlen : K.C.length ≤ 1000000) :
    Calls Try.prog 60 #[.pointer (some ⟨r, 0, none⟩), .string s, .string d] w fun e w' => e = .returned (.tuple #[.int .i64 ((K.chosen (s, d)).getD (0, 0)).1, .int .i64 ((K.chosen (s, d)).getD (0, 0)).2, .bool (K.chosen (s, d)).isSome]) ∧ Below w.heap.size w w' := by
  have c0 : w.cell? ⟨r, 1, none⟩ = some vC := cell_blk h.blk rfl
  obtain ⟨ao, cap, rfl⟩ := row_shape h.rc
  have HR : Hid (w.ownsRow B 148 4 (.slice ao K.C.length cap) K.C.length (rC K.C)) := h.rc
  have HK : Hid (K.chosen (s, d) = (K.C.find? fun q => decide (q.1 = (s, d))).map (·.2)) := rfl
  clear h
  generalize hF : K.C = F at *
  go_enter Try.func60, Try.ntmps60
  go_wp2_with fail
  go_loopw [16] (fun s15 wr => ∃ i : Nat, i ≤ F.length ∧ s15 = .int .i64 i ∧ Below w.heap.size w wr ∧ ∀ j (hj : j < F.length), j < i → F[j].1 ≠ (s, d)) (fun s15 _ => F.length - (intOf s15).toNat)
  case atStart => exact ⟨0, by omega, rfl, Below.refl _ _, fun j _ hj => absurd hj (by omega)⟩
  case round =>
    obtain ⟨i, hi, rfl, hb, hno⟩ := hrel
    have HB := hidInW hb
    have HNO := hidInW hno
    clear hb hno
    by_cases hil : i < F.length
    · have a1 : (i : Int) < (F.length : Int) := by omega
      obtain ⟨g, cap', hv, hg, hcl⟩ := row_cells HR.out (by omega)
      simp only [Value.slice.injEq] at hv
      obtain ⟨rfl, _, _⟩ := hv
      obtain ⟨q0, q1, q2, q3⟩ := rC_at F i hil
      have d0 : wr.cell? ⟨g, i * 4, none⟩ = some (.string F[i].1.1) := (HB.out.cell (p := ⟨g, i * 4, none⟩) hg).trans (hcl _ _ q0)
      have d1 : wr.cell? ⟨g, i * 4 + 1, none⟩ = some (.string F[i].1.2) := (HB.out.cell (p := ⟨g, i * 4 + 1, none⟩) hg).trans (hcl _ _ q1)
      have d2 : wr.cell? ⟨g, i * 4 + 2, none⟩ = some (.int .i64 F[i].2.1) := (HB.out.cell (p := ⟨g, i * 4 + 2, none⟩) hg).trans (hcl _ _ q2)
      have d3 : wr.cell? ⟨g, i * 4 + 3, none⟩ = some (.int .i64 F[i].2.2) := (HB.out.cell (p := ⟨g, i * 4 + 3, none⟩) hg).trans (hcl _ _ q3)
      clear hcl q0 q1 q2 q3
      generalize hq : F[i] = q at *
      have hqi : F[i]? = some q := by rw [List.getElem?_eq_getElem hil, hq]
      by_cases e0 : q.1.1.toList = s.toList
      · have e1 : (q.1.1.toList == s.toList) = true := by rw [beq_iff_eq]; exact e0
        have HE0 := hidInW e0
        clear e0
        by_cases e3 : q.1.2.toList = d.toList
        rotate_left
        · have e2 : (q.1.2.toList == d.toList) = false := by rw [beq_eq_false_iff_ne]; exact e3
          have HE3 := hidInW e3
          clear e3
          go_wp2_with fail
          go_roundw
          case rel =>
            refine ⟨i + 1, by omega, by go_num, below_alloc HB.out _, fun j hj hji => ?_⟩
            by_cases hje : j = i
            · subst hje
              rw [hq]
              intro e
              have := HE3.out
              rw [e] at this
              exact this rfl
            · exact HNO.out j hj (by omega)
          case measure => simp [intOf]; omega
        · have e2 : (q.1.2.toList == d.toList) = true := by rw [beq_iff_eq]; exact e3
          have HE3 := hidInW e3
          clear e3
          go_wp2_with fail
          go_region
          go_wp2_with fail
          go_ret3
          have hqe : q.1 = (s, d) := Prod.ext (bytes_inj HE0.out) (bytes_inj HE3.out)
          have hfd := find_first F (s, d) i q hqi hqe (fun j hj hji => HNO.out j hj hji)
          refine ⟨?_, (below_alloc HB.out _).drew⟩
          rw [HK.out, hfd]
          rfl
      · have e1 : (q.1.1.toList == s.toList) = false := by rw [beq_eq_false_iff_ne]; exact e0
        have HE0 := hidInW e0
        clear e0
        go_wp2_with fail
        go_roundw
        case rel =>
          refine ⟨i + 1, by omega, by go_num, below_alloc HB.out _, fun j hj hji => ?_⟩
          by_cases hje : j = i
          · subst hje
            rw [hq]
            intro e
            have := HE0.out
            rw [e] at this
            exact this rfl
          · exact HNO.out j hj (by omega)
        case measure => simp [intOf]; omega
    · have a1 : ¬ (i : Int) < (F.length : Int) := by omega
      go_wp2_with fail
      go_ret3
      refine ⟨?_, HB.out⟩
      have hn : (F.find? fun q => decide (q.1 = (s, d))).map (·.2) = none := by
        rw [find_none]
        intro q hq
        obtain ⟨j, hj, rfl⟩ := List.getElem_of_mem hq
        exact HNO.out j hj (by omega)
      rw [HK.out, hn]
      rfl

end Go.Proofs.Ytngjlkdpplmpaaa.Wd
namespace Go.Proofs.Ytngjlkdpplmpaaa.Wd
open Go.RowKit Go.Maps
set_option linter.unusedVariables false

/-- What the document's world may turn: its own block, and rows of fixings and of choices, from block B on. -/
structure RT (B r : Nat) (w w' : World) : Prop where
  below : Below B w w'
  kept : ∀ k, k < w.heap.size → k ≠ r → (∀ cs, w.heap[k]? ≠ some (.cells cs 180)) → (∀ cs, w.heap[k]? ≠ some (.cells cs 148)) → w'.heap[k]? = w.heap[k]?
theorem RT.of_below {B r : Nat} {w w' : World} (h : Below w.heap.size w w') (hB : B ≤ w.heap.size) : RT B r w w' := ⟨h.mono hB, fun k hk _ _ _ => h.block k hk⟩
theorem RT.after {B r : Nat} {w w1 w2 : World} (h : RT B r w1 w2) (hb : Below w.heap.size w w1) (hB : B ≤ w.heap.size) : RT B r w w2 :=
  ⟨(hb.mono hB).trans h.below, fun k hk hkr h1 h2 => by
    have e := hb.block k hk
    exact (h.kept k (Nat.lt_of_lt_of_le hk hb.size) hkr (by rw [e]; exact h1) (by rw [e]; exact h2)).trans e⟩
theorem RIn.below {w w' : World} {B r : Nat} {K : KW} {vF vC : Value} (h : RIn w B r K vF vC) (hb : Below w.heap.size w w') : RIn w' B r K vF vC := by
  have hg : w.grownBy w' none := ⟨hb.os, hb.tape, hb.output, hb.size, fun k hk _ => hb.block k hk⟩
  refine ⟨(hb.block r (Array.getElem?_eq_some_iff.1 h.blk).1).trans h.blk, h.rf.kept hg ?_, h.rc.kept hg ?_, h.hr⟩
  · cases hv : vF.ownBlock <;> simp
  · cases hv : vC.ownBlock <;> simp
/-- A row's block holds elements of its type. -/
theorem row_block {w : World} {B : Nat} {e : TypeId} {size n : Nat} {v : Value} {xs : List Value} (h : w.ownsRow B e size v n xs) {k : Nat} (hk : v.ownBlock = some k) : ∃ cs, w.heap[k]? = some (.cells cs e) := by
  rcases h.2 with ⟨rfl, _⟩ | ⟨g, cap, cur, rfl, hb, hg, _⟩
  · simp [Value.ownBlock] at hk
  · simp [Value.ownBlock] at hk
    subst hk
    exact ⟨cur, hg⟩
theorem RIn.neF {w : World} {B r : Nat} {K : KW} {vF vC : Value} (h : RIn w B r K vF vC) : vF.ownBlock ≠ some r := by
  intro e
  obtain ⟨cs, hc⟩ := row_block h.rf e
  have := h.blk
  rw [hc] at this
  cases this
theorem RIn.neC {w : World} {B r : Nat} {K : KW} {vF vC : Value} (h : RIn w B r K vF vC) : vC.ownBlock ≠ some r := by
  intro e
  obtain ⟨cs, hc⟩ := row_block h.rc e
  have := h.blk
  rw [hc] at this
  cases this
theorem RIn.neFC {w : World} {B r : Nat} {K : KW} {vF vC : Value} (h : RIn w B r K vF vC) : vC.ownBlock = none ∨ vC.ownBlock ≠ vF.ownBlock := by
  cases hc : vC.ownBlock with
  | none => exact .inl rfl
  | some k =>
    right
    intro e
    obtain ⟨cs, h1⟩ := row_block h.rc hc
    obtain ⟨cs', h2⟩ := row_block h.rf e.symm
    rw [h1] at h2
    cases h2
theorem RIn.cell0 {w : World} {B r : Nat} {K : KW} {vF vC : Value} (h : RIn w B r K vF vC) : w.cell? ⟨r, 0, none⟩ = some vF := cell_blk h.blk rfl
theorem RIn.cell1 {w : World} {B r : Nat} {K : KW} {vF vC : Value} (h : RIn w B r K vF vC) : w.cell? ⟨r, 1, none⟩ = some vC := cell_blk h.blk rfl
/-- What a fixing more leaves. -/
theorem RIn.addF {w w1 : World} {B r : Nat} {K : KW} {vF vC v' : Value} (h : RIn w B r K vF vC) (hB : B ≤ w.heap.size) (q : (ByteArray × Int) × Int)
    (hown : w1.ownsRow B 180 3 v' (K.F.length + 1) (rF K.F ++ [.string q.1.1, .int .i64 q.1.2, .int .i64 q.2])) (hg : w.grownBy w1 vF.ownBlock) :
    RIn (w1.setCell ⟨r, 0, none⟩ v') B r ⟨K.F ++ [q], K.C⟩ v' vC ∧ RT B r w (w1.setCell ⟨r, 0, none⟩ v') := by
  have hr : r < w.heap.size := (Array.getElem?_eq_some_iff.1 h.blk).1
  have hb1 : w1.heap[r]? = some (.cells #[vF, vC] 109) := (hg.block r hr (fun e => h.neF e.symm)).trans h.blk
  have hne' : v'.ownBlock ≠ some r := by
    intro e
    obtain ⟨cs, hc⟩ := row_block hown e
    rw [hc] at hb1
    cases hb1
  have hrc : w1.ownsRow B 148 4 vC K.C.length (rC K.C) := h.rc.kept hg h.neFC
  refine ⟨⟨heap_setCell_same w1 r 0 _ _ _ hb1, ?_, ?_, h.hr⟩, ⟨?_, ?_⟩⟩
  · have := ownsRow_setCell_other hown (a := ⟨r, 0, none⟩) (by exact hne') v'
    rw [rF_app]
    simpa [rF] using this
  · exact ownsRow_setCell_other hrc (a := ⟨r, 0, none⟩) (by exact h.neC) v'
  · have hb : Below B w w1 := ⟨hg.os, hg.tape, hg.output, hg.size, fun k hk => hg.block k (by omega) (fun e => by have := (h.rf.lt k e.symm).1; omega)⟩
    exact hb.setCell h.hr v'
  · intro k hk hkr h1 h2
    rw [heap_setCell_other w1 ⟨r, 0, none⟩ k _ hkr]
    refine hg.block k hk (fun e => ?_)
    obtain ⟨cs, hc⟩ := row_block h.rf e.symm
    exact h1 cs hc
theorem RIn.addC {w w1 : World} {B r : Nat} {K : KW} {vF vC v' : Value} (h : RIn w B r K vF vC) (hB : B ≤ w.heap.size) (q : (ByteArray × ByteArray) × (Int × Int))
    (hown : w1.ownsRow B 148 4 v' (K.C.length + 1) (rC K.C ++ [.string q.1.1, .string q.1.2, .int .i64 q.2.1, .int .i64 q.2.2])) (hg : w.grownBy w1 vC.ownBlock) :
    RIn (w1.setCell ⟨r, 1, none⟩ v') B r ⟨K.F, K.C ++ [q]⟩ vF v' ∧ RT B r w (w1.setCell ⟨r, 1, none⟩ v') := by
  have hr : r < w.heap.size := (Array.getElem?_eq_some_iff.1 h.blk).1
  have hb1 : w1.heap[r]? = some (.cells #[vF, vC] 109) := (hg.block r hr (fun e => h.neC e.symm)).trans h.blk
  have hne' : v'.ownBlock ≠ some r := by
    intro e
    obtain ⟨cs, hc⟩ := row_block hown e
    rw [hc] at hb1
    cases hb1
  have hrf : w1.ownsRow B 180 3 vF K.F.length (rF K.F) := h.rf.kept hg (by
    rcases h.neFC with e | e
    · cases hv : vF.ownBlock with
      | none => exact .inl rfl
      | some k => right; rw [e]; simp
    · exact .inr (fun x => e x.symm))
  refine ⟨⟨heap_setCell_same w1 r 1 _ _ _ hb1, ?_, ?_, h.hr⟩, ⟨?_, ?_⟩⟩
  · exact ownsRow_setCell_other hrf (a := ⟨r, 1, none⟩) (by exact h.neF) v'
  · have := ownsRow_setCell_other hown (a := ⟨r, 1, none⟩) (by exact hne') v'
    rw [rC_app]
    simpa [rC] using this
  · have hb : Below B w w1 := ⟨hg.os, hg.tape, hg.output, hg.size, fun k hk => hg.block k (by omega) (fun e => by have := (h.rc.lt k e.symm).1; omega)⟩
    exact hb.setCell h.hr v'
  · intro k hk hkr h1 h2
    rw [heap_setCell_other w1 ⟨r, 1, none⟩ k _ hkr]
    refine hg.block k hk (fun e => ?_)
    obtain ⟨cs, hc⟩ := row_block h.rc e.symm
    exact h2 cs hc

end Go.Proofs.Ytngjlkdpplmpaaa.Wd
namespace Go.Proofs.Ytngjlkdpplmpaaa.Ca
open Go.RowKit Wd Cn Vl
set_option linter.unusedVariables false

def Fl.cells (x : Fl) : List Value := [.int .i64 x.day, .string x.cur, .int .i64 x.amt]
def Wt.cells (y : Wt) : List Value := [.bool y.ch, .string y.name, .string y.label, .int .i64 y.day, .int .i64 y.side]
def Wt.val (y : Wt) : Value := .agg #[.bool y.ch, .string y.name, .string y.label, .int .i64 y.day, .int .i64 y.side]
def rowFl (l : List Fl) : List Value := l.flatMap Fl.cells
def rowWt (l : List Wt) : List Value := l.flatMap Wt.cells
theorem rowFl_app (a b : List Fl) : rowFl (a ++ b) = rowFl a ++ rowFl b := by simp [rowFl]
theorem rowWt_app (a b : List Wt) : rowWt (a ++ b) = rowWt a ++ rowWt b := by simp [rowWt]
theorem rowFl_at : ∀ (F : List Fl) (i : Nat) (x : Fl), F[i]? = some x → (rowFl F)[i * 3]? = some (.int .i64 x.day) ∧ (rowFl F)[i * 3 + 1]? = some (.string x.cur) ∧ (rowFl F)[i * 3 + 2]? = some (.int .i64 x.amt)
  | [], i, x, h => by simp at h
  | q :: F, 0, x, h => by simp at h; subst h; simp [rowFl, Fl.cells]
  | q :: F, i + 1, x, h => by
    have ih := rowFl_at F i x (by simpa using h)
    have e : rowFl (q :: F) = Fl.cells q ++ rowFl F := by simp [rowFl]
    rw [e, show (i + 1) * 3 = 3 + i * 3 by omega, show 3 + i * 3 + 1 = 3 + (i * 3 + 1) by omega, show 3 + i * 3 + 2 = 3 + (i * 3 + 2) by omega]
    rw [List.getElem?_append_right (by simp [Fl.cells]), List.getElem?_append_right (by simp [Fl.cells]), List.getElem?_append_right (by simp [Fl.cells])]
    simpa [Fl.cells] using ih
theorem rowWt_at : ∀ (F : List Wt) (i : Nat) (x : Wt), F[i]? = some x → (rowWt F)[i * 5]? = some (.bool x.ch) ∧ (rowWt F)[i * 5 + 1]? = some (.string x.name) ∧ (rowWt F)[i * 5 + 2]? = some (.string x.label) ∧ (rowWt F)[i * 5 + 3]? = some (.int .i64 x.day) ∧ (rowWt F)[i * 5 + 4]? = some (.int .i64 x.side)
  | [], i, x, h => by simp at h
  | q :: F, 0, x, h => by simp at h; subst h; simp [rowWt, Wt.cells]
  | q :: F, i + 1, x, h => by
    have ih := rowWt_at F i x (by simpa using h)
    have e : rowWt (q :: F) = Wt.cells q ++ rowWt F := by simp [rowWt]
    rw [e, show (i + 1) * 5 = 5 + i * 5 by omega, show 5 + i * 5 + 1 = 5 + (i * 5 + 1) by omega, show 5 + i * 5 + 2 = 5 + (i * 5 + 2) by omega, show 5 + i * 5 + 3 = 5 + (i * 5 + 3) by omega, show 5 + i * 5 + 4 = 5 + (i * 5 + 4) by omega]
    rw [List.getElem?_append_right (by simp [Wt.cells]), List.getElem?_append_right (by simp [Wt.cells]), List.getElem?_append_right (by simp [Wt.cells]), List.getElem?_append_right (by simp [Wt.cells]), List.getElem?_append_right (by simp [Wt.cells])]
    simpa [Wt.cells] using ih

/-- Cells of a block, the third of which is the payments', the fourth the waits'. -/
structure Two (mk : Value → Value → Array Value) : Prop where
  g2 : ∀ x y, (mk x y)[2]? = some x
  g3 : ∀ x y, (mk x y)[3]? = some y
  s2 : ∀ x y v, (mk x y).setIfInBounds 2 v = mk v y
  s3 : ∀ x y v, (mk x y).setIfInBounds 3 v = mk x v
/-- What a walk keeps, in memory, from block B on. -/
structure AIn (w : World) (B a : Nat) (T : TypeId) (mk : Value → Value → Array Value) (F : List Fl) (W : List Wt) (vF vW : Value) : Prop where
  blk : w.heap[a]? = some (.cells (mk vF vW) T)
  rf : w.ownsRow B 46 3 vF F.length (rowFl F)
  rw' : w.ownsRow B 43 5 vW W.length (rowWt W)
  ha : B ≤ a
theorem AIn.below {w w' : World} {B a : Nat} {T : TypeId} {mk : Value → Value → Array Value} {F : List Fl} {W : List Wt} {vF vW : Value} (h : AIn w B a T mk F W vF vW) (hb : Below w.heap.size w w') : AIn w' B a T mk F W vF vW := by
  have hg : w.grownBy w' none := ⟨hb.os, hb.tape, hb.output, hb.size, fun k hk _ => hb.block k hk⟩
  refine ⟨(hb.block a (Array.getElem?_eq_some_iff.1 h.blk).1).trans h.blk, h.rf.kept hg ?_, h.rw'.kept hg ?_, h.ha⟩
  · cases hv : vF.ownBlock <;> simp
  · cases hv : vW.ownBlock <;> simp
section
variable {w : World} {B a : Nat} {T : TypeId} {mk : Value → Value → Array Value} {F : List Fl} {W : List Wt} {vF vW : Value}
theorem AIn.neF (h : AIn w B a T mk F W vF vW) (hT : T ≠ 46) : vF.ownBlock ≠ some a := by
  intro e
  obtain ⟨cs, hc⟩ := row_block h.rf e
  have := h.blk
  rw [hc] at this
  injection this with e
  injection e with _ e
  exact hT e.symm
theorem AIn.neW (h : AIn w B a T mk F W vF vW) (hT : T ≠ 43) : vW.ownBlock ≠ some a := by
  intro e
  obtain ⟨cs, hc⟩ := row_block h.rw' e
  have := h.blk
  rw [hc] at this
  injection this with e
  injection e with _ e
  exact hT e.symm
theorem AIn.neFW (h : AIn w B a T mk F W vF vW) : vW.ownBlock = none ∨ vW.ownBlock ≠ vF.ownBlock := by
  cases hc : vW.ownBlock with
  | none => exact .inl rfl
  | some k =>
    right
    intro e
    obtain ⟨cs, h1⟩ := row_block h.rw' hc
    obtain ⟨cs', h2⟩ := row_block h.rf e.symm
    rw [h1] at h2
    cases h2
theorem AIn.cell2 (h : AIn w B a T mk F W vF vW) (hm : Two mk) : w.cell? ⟨a, 2, none⟩ = some vF := cell_blk h.blk (hm.g2 _ _)
theorem AIn.cell3 (h : AIn w B a T mk F W vF vW) (hm : Two mk) : w.cell? ⟨a, 3, none⟩ = some vW := cell_blk h.blk (hm.g3 _ _)
/-- A payment more. -/
theorem AIn.addF {w1 : World} {v' : Value} (h : AIn w B a T mk F W vF vW) (hm : Two mk) (hT1 : T ≠ 46) (hT2 : T ≠ 43) (hB : B ≤ w.heap.size) (x : Fl)
    (hown : w1.ownsRow B 46 3 v' (F.length + 1) (rowFl F ++ x.cells)) (hg : w.grownBy w1 vF.ownBlock) :
    AIn (w1.setCell ⟨a, 2, none⟩ v') B a T mk (F ++ [x]) W v' vW ∧ Below B w (w1.setCell ⟨a, 2, none⟩ v') := by
  have hr : a < w.heap.size := (Array.getElem?_eq_some_iff.1 h.blk).1
  have hb1 : w1.heap[a]? = some (.cells (mk vF vW) T) := (hg.block a hr (fun e => h.neF hT1 e.symm)).trans h.blk
  have hne' : v'.ownBlock ≠ some a := by
    intro e
    obtain ⟨cs, hc⟩ := row_block hown e
    rw [hc] at hb1
    injection hb1 with e
    injection e with _ e
    exact hT1 e.symm
  have hrc : w1.ownsRow B 43 5 vW W.length (rowWt W) := h.rw'.kept hg h.neFW
  refine ⟨⟨?_, ?_, ?_, h.ha⟩, ?_⟩
  · have := heap_setCell_same w1 a 2 _ _ v' hb1
    rw [hm.s2] at this
    exact this
  · have := ownsRow_setCell_other hown (a := ⟨a, 2, none⟩) (by exact hne') v'
    rw [rowFl_app]
    simpa [rowFl] using this
  · exact ownsRow_setCell_other hrc (a := ⟨a, 2, none⟩) (by exact h.neW hT2) v'
  · have hb : Below B w w1 := ⟨hg.os, hg.tape, hg.output, hg.size, fun k hk => hg.block k (by omega) (fun e => by have := (h.rf.lt k e.symm).1; omega)⟩
    exact hb.setCell h.ha v'
/-- A wait more. -/
theorem AIn.addW {w1 : World} {v' : Value} (h : AIn w B a T mk F W vF vW) (hm : Two mk) (hT1 : T ≠ 46) (hT2 : T ≠ 43) (hB : B ≤ w.heap.size) (y : Wt)
    (hown : w1.ownsRow B 43 5 v' (W.length + 1) (rowWt W ++ y.cells)) (hg : w.grownBy w1 vW.ownBlock) :
    AIn (w1.setCell ⟨a, 3, none⟩ v') B a T mk F (W ++ [y]) vF v' ∧ Below B w (w1.setCell ⟨a, 3, none⟩ v') := by
  have hr : a < w.heap.size := (Array.getElem?_eq_some_iff.1 h.blk).1
  have hb1 : w1.heap[a]? = some (.cells (mk vF vW) T) := (hg.block a hr (fun e => h.neW hT2 e.symm)).trans h.blk
  have hne' : v'.ownBlock ≠ some a := by
    intro e
    obtain ⟨cs, hc⟩ := row_block hown e
    rw [hc] at hb1
    injection hb1 with e
    injection e with _ e
    exact hT2 e.symm
  have hrf : w1.ownsRow B 46 3 vF F.length (rowFl F) := h.rf.kept hg (by
    rcases h.neFW with e | e
    · cases hv : vF.ownBlock with
      | none => exact .inl rfl
      | some k => right; rw [e]; simp
    · exact .inr (fun x => e x.symm))
  refine ⟨⟨?_, ?_, ?_, h.ha⟩, ?_⟩
  · have := heap_setCell_same w1 a 3 _ _ v' hb1
    rw [hm.s3] at this
    exact this
  · exact ownsRow_setCell_other hrf (a := ⟨a, 3, none⟩) (by exact h.neF hT1) v'
  · have := ownsRow_setCell_other hown (a := ⟨a, 3, none⟩) (by exact hne') v'
    rw [rowWt_app]
    simpa [rowWt] using this
  · have hb : Below B w w1 := ⟨hg.os, hg.tape, hg.output, hg.size, fun k hk => hg.block k (by omega) (fun e => by have := (h.rw'.lt k e.symm).1; omega)⟩
    exact hb.setCell h.ha v'
end
/-- What a walk may turn: its block, rows of payments and of waits; all else stays. -/
structure Kept (a : Nat) (w w' : World) : Prop where
  size : w.heap.size ≤ w'.heap.size
  kept : ∀ k, k < w.heap.size → k ≠ a → (∀ cs, w.heap[k]? ≠ some (.cells cs 46)) → (∀ cs, w.heap[k]? ≠ some (.cells cs 43)) → w'.heap[k]? = w.heap[k]?
theorem Kept.of_below {a : Nat} {w w' : World} (h : Below w.heap.size w w') : Kept a w w' := ⟨h.size, fun k hk _ _ _ => h.block k hk⟩
theorem Kept.trans {a : Nat} {u v w : World} (h : Kept a u v) (g : Kept a v w) : Kept a u w := by
  refine ⟨Nat.le_trans h.size g.size, fun k hk hka h1 h2 => ?_⟩
  have e := h.kept k hk hka h1 h2
  exact (g.kept k (Nat.lt_of_lt_of_le hk h.size) hka (by rw [e]; exact h1) (by rw [e]; exact h2)).trans e
theorem Kept.cells {a : Nat} {w w' : World} (h : Kept a w w') {k : Nat} {cs : Array Value} {t : TypeId} (hk : w.heap[k]? = some (.cells cs t)) (hr : k ≠ a) (h1 : t ≠ 46) (h2 : t ≠ 43) : w'.heap[k]? = some (.cells cs t) := by
  rw [h.kept k (Array.getElem?_eq_some_iff.1 hk).1 hr (fun cs' e => ?_) (fun cs' e => ?_)]
  · exact hk
  · rw [hk] at e; injection e with e; injection e with _ e; exact h1 e
  · rw [hk] at e; injection e with e; injection e with _ e; exact h2 e
/-- A row of another kind stays. -/
theorem Kept.row {a : Nat} {w w' : World} (h : Kept a w w') {B : Nat} {e : TypeId} {size n : Nat} {v : Value} {xs : List Value} (hr : w.ownsRow B e size v n xs) (hna : v.ownBlock ≠ some a) (h1 : e ≠ 46) (h2 : e ≠ 43) : w'.ownsRow B e size v n xs := by
  refine ⟨hr.1, ?_⟩
  rcases hr.2 with hn | ⟨g, cap, cur, rfl, hb, hg, rest⟩
  · exact .inl hn
  · exact .inr ⟨g, cap, cur, rfl, hb, h.cells hg (fun e => hna (by simp [Value.ownBlock, e])) h1 h2, rest⟩
/-- Behind a store into the walk's block, when a row has grown. -/
theorem Kept.grown {a i : Nat} {w w1 : World} {B : Nat} {e : TypeId} {size n : Nat} {v x : Value} {xs : List Value} (hr : w.ownsRow B e size v n xs) (he : e = 46 ∨ e = 43) (hg : w.grownBy w1 v.ownBlock) : Kept a w (w1.setCell ⟨a, i, none⟩ x) := by
  refine ⟨by simpa using hg.size, fun k hk hka h1 h2 => ?_⟩
  rw [heap_setCell_other w1 ⟨a, i, none⟩ k _ hka]
  refine hg.block k hk (fun e' => ?_)
  obtain ⟨cs, hc⟩ := row_block hr e'.symm
  rcases he with rfl | rfl
  · exact h1 cs hc
  · exact h2 cs hc
/-- What a walk keeps, and what was there when it began. -/
def St (w0 w : World) (a : Nat) (T : TypeId) (mk : Value → Value → Array Value) (F : List Fl) (W : List Wt) : Prop := (∃ vF vW, AIn w w0.heap.size a T mk F W vF vW) ∧ Below w0.heap.size w0 w
theorem St.step {w0 w w' : World} {a : Nat} {T : TypeId} {mk : Value → Value → Array Value} {F : List Fl} {W : List Wt} (h : St w0 w a T mk F W) (hb : Below w.heap.size w w') : St w0 w' a T mk F W := by
  obtain ⟨⟨vF, vW, h1⟩, h2⟩ := h
  exact ⟨⟨vF, vW, h1.below hb⟩, h2.trans (hb.mono h2.size)⟩
theorem St.at_row {w0 w : World} {a : Nat} {T : TypeId} {mk : Value → Value → Array Value} {F : List Fl} {W : List Wt} (h : St w0 w a T mk F W) {B : Nat} {e : TypeId} {size n : Nat} {v : Value} {xs : List Value} (hr : w.ownsRow B e size v n xs) (he : e ≠ T) : v.ownBlock ≠ some a := by
  obtain ⟨⟨vF, vW, h1⟩, _⟩ := h
  intro e'
  obtain ⟨cs, hc⟩ := row_block hr e'
  rw [h1.blk] at hc
  injection hc with e1
  injection e1 with _ e1
  exact he e1.symm
theorem St.at_cells {w0 w : World} {a : Nat} {T : TypeId} {mk : Value → Value → Array Value} {F : List Fl} {W : List Wt} (h : St w0 w a T mk F W) {k : Nat} {cs : Array Value} {t : TypeId} (hk : w.heap[k]? = some (.cells cs t)) (he : t ≠ T) : k ≠ a := by
  obtain ⟨⟨vF, vW, h1⟩, _⟩ := h
  rintro rfl
  rw [h1.blk] at hk
  injection hk with e1
  injection e1 with _ e1
  exact he e1.symm
theorem hidC {p : Prop} (h : p) : Hid p := h

end Go.Proofs.Ytngjlkdpplmpaaa.Ca
namespace Go.Proofs.Ytngjlkdpplmpaaa.Ca
open Go.RowKit Wd Cn Vl
set_option linter.unusedVariables false

/-- Waits in memory. -/
def HasWts (w : World) (ao : Option Addr) (l : List Wt) : Prop := ∀ i x, l[i]? = some x → ∃ g, ao = some ⟨g, 0, none⟩ ∧ g < w.heap.size ∧ w.cell? ⟨g, i * 5, none⟩ = some (.bool x.ch) ∧ w.cell? ⟨g, i * 5 + 1, none⟩ = some (.string x.name) ∧ w.cell? ⟨g, i * 5 + 2, none⟩ = some (.string x.label) ∧ w.cell? ⟨g, i * 5 + 3, none⟩ = some (.int .i64 x.day) ∧ w.cell? ⟨g, i * 5 + 4, none⟩ = some (.int .i64 x.side)
theorem HasWts.below {w w' : World} {ao : Option Addr} {l : List Wt} (h : HasWts w ao l) (hb : Below w.heap.size w w') : HasWts w' ao l := by
  intro i x hx
  obtain ⟨g, e, hg, h0, h1, h2, h3, h4⟩ := h i x hx
  have hc := fun o => hb.cell (p := ⟨g, o, none⟩) hg
  exact ⟨g, e, Nat.lt_of_lt_of_le hg hb.size, (hc _).trans h0, (hc _).trans h1, (hc _).trans h2, (hc _).trans h3, (hc _).trans h4⟩
theorem own_wts {w : World} {B : Nat} {v : Value} {l : List Wt} (h : w.ownsRow B 43 5 v l.length (rowWt l)) : ∃ ao cap, v = .slice ao l.length cap ∧ HasWts w ao l := by
  obtain ⟨ao, cap, rfl⟩ := row_shape h
  refine ⟨ao, cap, rfl, fun i x hx => ?_⟩
  have hi := (List.getElem?_eq_some_iff.1 hx).1
  obtain ⟨g, cap', e, hg, hc⟩ := row_cells h (by omega)
  injection e with e1 _ _
  obtain ⟨h0, h1, h2, h3, h4⟩ := rowWt_at l i x hx
  exact ⟨g, e1, hg, hc _ _ h0, hc _ _ h1, hc _ _ h2, hc _ _ h3, hc _ _ h4⟩

set_option maxHeartbeats 4000000 in
set_option maxRecDepth 100000 in
theorem index_any (w : World) (ao : Option Addr) (cap : Nat) (l : List Wt) (h : HasWts w ao l) (hl : l.length ≤ 1000000) (y : Wt) :
    Calls Try.prog 101 #[.slice ao l.length cap, y.val] w fun e w' => ∃ n : Int, e = .returned (.int .i64 n) ∧ (0 ≤ n ↔ y ∈ l) ∧ Below w.heap.size w w' := by
  have HH := hidC h
  clear h
  obtain ⟨c, nm, lb, d, s⟩ := y
  unfold Wt.val
  go_enter Try.func101, Try.ntmps101
  go_wp2_with fail
  go_loopw [8] (fun s8 wr => ∃ i : Nat, i ≤ l.length ∧ s8 = .int .i64 i ∧ Hid (∀ j, j < i → l[j]? ≠ some ⟨c, nm, lb, d, s⟩) ∧ Below w.heap.size w wr ∧ wr.heap[w.heap.size]? = some (.cells #[.bool c, .string nm, .string lb, .int .i64 d, .int .i64 s] 43)) (fun s8 _ => l.length - (intOf s8).toNat)
  case atStart => exact ⟨0, by omega, rfl, (fun j hj => absurd hj (by omega)), below_alloc (Below.refl _ _) _, heap_alloc_new _ _⟩
  case round =>
    obtain ⟨i, hi, rfl, HNO, hb, hblk⟩ := hrel
    have HB := hidC hb
    have HK := hidC hblk
    clear hb hblk
    by_cases hlt : i < l.length
    · have hlt' : (i : Int) < (l.length : Int) := by omega
      obtain ⟨x, hx⟩ : ∃ x, l[i]? = some x := ⟨_, List.getElem?_eq_getElem hlt⟩
      obtain ⟨g, rfl, hg, d0, d1, d2, d3, d4⟩ := (HH.out.below HB.out) i x hx
      have b0 := cell_of_row _ _ 0 _ _ _ HK.out
      have b1 := cell_of_row _ _ 1 _ _ _ HK.out
      have b2 := cell_of_row _ _ 2 _ _ _ HK.out
      have b3 := cell_of_row _ _ 3 _ _ _ HK.out
      have b4 := cell_of_row _ _ 4 _ _ _ HK.out
      rw [show (#[.bool c, .string nm, .string lb, .int .i64 d, .int .i64 s] : Array Value)[0]? = some (.bool c) from rfl] at b0
      rw [show (#[.bool c, .string nm, .string lb, .int .i64 d, .int .i64 s] : Array Value)[1]? = some (.string nm) from rfl] at b1
      rw [show (#[.bool c, .string nm, .string lb, .int .i64 d, .int .i64 s] : Array Value)[2]? = some (.string lb) from rfl] at b2
      rw [show (#[.bool c, .string nm, .string lb, .int .i64 d, .int .i64 s] : Array Value)[3]? = some (.int .i64 d) from rfl] at b3
      rw [show (#[.bool c, .string nm, .string lb, .int .i64 d, .int .i64 s] : Array Value)[4]? = some (.int .i64 s) from rfl] at b4
      have HX := hidC hx
      clear hx hg
      obtain ⟨xc, xn, xl, xd, xs⟩ := x
      simp only at d0 d1 d2 d3 d4
      by_cases he : c = xc ∧ nm = xn ∧ lb = xl ∧ d = xd ∧ s = xs
      · obtain ⟨rfl, rfl, rfl, rfl, rfl⟩ := he
        have e1 : (nm.toList == nm.toList) = true := beq_self_eq_true _
        have e2 : (lb.toList == lb.toList) = true := beq_self_eq_true _
        go_wp2_with fail
        go_region
        go_wp2_with fail
        all_goals go_ret
        all_goals exact ⟨_, rfl, ⟨fun _ => List.mem_of_getElem? HX.out, fun _ => by omega⟩, HB.out.drew⟩
      · have HNE := hidC he
        have HNO' : Hid (∀ j, j < i + 1 → l[j]? ≠ some ⟨c, nm, lb, d, s⟩) := fun j hj e => by
          rcases (by omega : j < i ∨ j = i) with h | h
          · exact HNO.out j h e
          · subst h
            rw [HX.out] at e
            injection e with e
            injection e with h0 h1 h2 h3 h4
            exact HNE.out ⟨h0.symm, h1.symm, h2.symm, h3.symm, h4.symm⟩
        have ways : (c = true ∧ xc = false) ∨ (c = false ∧ xc = true) ∨ (c = xc ∧ (nm.toList == xn.toList) = false) ∨ (c = xc ∧ (nm.toList == xn.toList) = true ∧ (lb.toList == xl.toList) = false) ∨ (c = xc ∧ (nm.toList == xn.toList) = true ∧ (lb.toList == xl.toList) = true ∧ (d == xd) = false) ∨ (c = xc ∧ (nm.toList == xn.toList) = true ∧ (lb.toList == xl.toList) = true ∧ (d == xd) = true ∧ (s == xs) = false) := by
          by_cases g0 : c = xc
          · by_cases g1 : nm = xn
            · by_cases g2 : lb = xl
              · by_cases g3 : d = xd
                · have g4 : s ≠ xs := fun g4 => he ⟨g0, g1, g2, g3, g4⟩
                  exact .inr (.inr (.inr (.inr (.inr ⟨g0, by rw [g1]; exact beq_self_eq_true _, by rw [g2]; exact beq_self_eq_true _, by simpa using g3, by simpa using g4⟩))))
                · exact .inr (.inr (.inr (.inr (.inl ⟨g0, by rw [g1]; exact beq_self_eq_true _, by rw [g2]; exact beq_self_eq_true _, by simpa using g3⟩))))
              · exact .inr (.inr (.inr (.inl ⟨g0, by rw [g1]; exact beq_self_eq_true _, beq_eq_false_iff_ne.2 fun e => g2 (bytes_inj e)⟩)))
            · exact .inr (.inr (.inl ⟨g0, beq_eq_false_iff_ne.2 fun e => g1 (bytes_inj e)⟩))
          · cases c <;> cases xc <;> simp at g0 ⊢
        clear he
        rcases ways with ⟨rfl, rfl⟩ | ⟨rfl, rfl⟩ | ⟨rfl, f1⟩ | ⟨rfl, f1, f2⟩ | ⟨rfl, f1, f2, f3⟩ | ⟨rfl, f1, f2, f3, f4⟩
        all_goals
          go_wp2_with fail
          go_region
          go_wp2_with fail
          all_goals go_roundw
          case rel => exact ⟨i + 1, by omega, by go_num, HNO', HB.out.drew, HK.out⟩
          case measure => simp [intOf] <;> omega
    · have hle : i = l.length := by omega
      subst hle
      go_wp2_with fail
      go_ret
      refine ⟨-1, rfl, ⟨fun h => absurd h (by omega), fun h => ?_⟩, HB.out⟩
      obtain ⟨j, hj⟩ := List.mem_iff_getElem?.1 h
      exact absurd hj (HNO.out j (List.getElem?_eq_some_iff.1 hj).1)

set_option maxHeartbeats 1000000 in
theorem contains_any (w : World) (ao : Option Addr) (cap : Nat) (l : List Wt) (h : HasWts w ao l) (hl : l.length ≤ 1000000) (y : Wt) :
    Calls Try.prog 95 #[.slice ao l.length cap, y.val] w fun e w' => e = .returned (.bool (decide (y ∈ l))) ∧ Below w.heap.size w w' := by
  have HI : Hid (∀ W : World, Below w.heap.size w W → Calls Try.prog 101 #[.slice ao l.length cap, .agg #[.bool y.ch, .string y.name, .string y.label, .int .i64 y.day, .int .i64 y.side]] W fun e w' => ∃ n : Int, e = .returned (.int .i64 n) ∧ (0 ≤ n ↔ y ∈ l) ∧ Below W.heap.size W w') := fun W hW => index_any W ao cap l (h.below hW) hl y
  clear h
  have HB := hidC (below_alloc (Below.refl w.heap.size w) (.cells #[.bool y.ch, .string y.name, .string y.label, .int .i64 y.day, .int .i64 y.side] 43))
  unfold Wt.val
  go_enter Try.func95, Try.ntmps95
  go_wp2_with fail
  refine (HI.out _ HB.out).mono ?_
  rintro e w1 ⟨n, rfl, hn, hb⟩
  have HN := hidC hn
  have HB1 := hidC (HB.out.trans (hb.mono HB.out.size))
  clear hb hn
  go_wp2_with fail
  go_ret
  exact ⟨ret_bool (decide_eq_decide.2 HN.out), HB1.out⟩

set_option maxHeartbeats 400000 in
theorem holder_any (k : Int) (w : World) : Calls Try.prog 79 #[.int .i64 k] w fun e w' => e = .returned (.int .i64 (side k)) ∧ w' = w := by
  by_cases h : 0 < k
  · have HS : Hid (side k = 0) := by unfold Hid side; rw [if_pos h]
    go_enter Try.func79, Try.ntmps79
    go_wp2_with fail
    go_ret
    rw [HS.out]
    exact ⟨rfl, rfl⟩
  · have HS : Hid (side k = 1) := by unfold Hid side; rw [if_neg h]
    go_enter Try.func79, Try.ntmps79
    go_wp2_with fail
    go_ret
    rw [HS.out]
    exact ⟨rfl, rfl⟩

end Go.Proofs.Ytngjlkdpplmpaaa.Ca
namespace Go.Proofs.Ytngjlkdpplmpaaa.Wd
open Go.RowKit Go.Maps
set_option linter.unusedVariables false

theorem infoFx : (Try.prog.info? 180).map (fun i => (i.zero, i.size, i.bytes)) = some (some (.agg #[.string ByteArray.empty, .int .i64 0, .int .i64 0]), 3, 32) := by kernel_rfl
theorem infoCh : (Try.prog.info? 148).map (fun i => (i.zero, i.size, i.bytes)) = some (some (.agg #[.string ByteArray.empty, .string ByteArray.empty, .int .i64 0, .int .i64 0]), 4, 48) := by kernel_rfl
theorem cells_new (w : World) (cs : Array Value) (t : TypeId) : ∀ j u, cs.toList[j]? = some u → (w.alloc (.cells cs t)).cell? ((⟨w.heap.size, 0, none⟩ : Addr).add j) = some u := by
  intro j u hu
  rw [Addr.add_lit, Nat.zero_add]
  exact cell_blk (blk_new _ _) (by simpa using hu)
theorem dayB_iff (d : Int) : dayB d = true ↔ 0 ≤ d ∧ d ≤ 10000 := by simp [dayB]

set_option maxHeartbeats 1000000 in
theorem refFix_bad (w : World) (r : Nat) (s : ByteArray) (d v : Int) (hs : s.size ≤ 1000000) (hb : (nameGo 0 (runesOf s) && dayB d && vB v) = false) :
    Calls Try.prog 58 #[.pointer (some ⟨r, 0, none⟩), .string s, .int .i64 d, .int .i64 v] w fun e w' => e = .returned (.int .i64 1) ∧ Below w.heap.size w w' := by
  have HN := hidInW (refName_any s w (by omega))
  cases hn : nameGo 0 (runesOf s) with
  | false =>
    rw [hn] at HN
    go_enter Try.func58, Try.ntmps58
    go_wp2_with fail
    refine HN.out.mono ?_
    rintro e w1 ⟨rfl, hb1⟩
    go_wp2_with fail
    go_ret
    exact ⟨rfl, hb1⟩
  | true =>
    rw [hn] at HN hb
    by_cases h1 : d < 0
    · go_enter Try.func58, Try.ntmps58
      go_wp2_with fail
      refine HN.out.mono ?_
      rintro e w1 ⟨rfl, hb1⟩
      go_wp2_with fail
      go_ret
      exact ⟨rfl, hb1⟩
    · by_cases h2 : 10000 < d
      · go_enter Try.func58, Try.ntmps58
        go_wp2_with fail
        refine HN.out.mono ?_
        rintro e w1 ⟨rfl, hb1⟩
        go_wp2_with fail
        go_ret
        exact ⟨rfl, hb1⟩
      · have hd : dayB d = true := (dayB_iff d).2 ⟨by omega, by omega⟩
        rw [hd] at hb
        have hv : vB v = false := by simpa using hb
        go_enter Try.func58, Try.ntmps58
        go_wp2_with fail
        refine HN.out.mono ?_
        rintro e w1 ⟨rfl, hb1⟩
        go_wp2_with (go_at_call 86; refine (refValid_any _ _).mono ?_; rintro e w' ⟨rfl, rfl⟩)
        go_ret
        exact ⟨rfl, hb1⟩

set_option maxHeartbeats 2000000 in
set_option maxRecDepth 100000 in
theorem refFix_ok (w : World) (B r : Nat) (K : KW) (vF vC : Value) (h : RIn w B r K vF vC) (hB : B ≤ w.heap.size) (s : ByteArray) (d v : Int) (hs : s.size ≤ 1000000) (hlen : K.F.length ≤ 1000) (hb : (nameGo 0 (runesOf s) && dayB d && vB v) = true) :
    Calls Try.prog 58 #[.pointer (some ⟨r, 0, none⟩), .string s, .int .i64 d, .int .i64 v] w fun e w' => e = .returned (.int .i64 (fixE K s d v)) ∧ (∃ vF', RIn w' B r (fixN K s d v) vF' vC) ∧ RT B r w w' := by
  have HE : Hid (fixE K s d v = if (K.fixed (s, d)).isSome = true then 4 else if 32 ≤ K.F.length then 5 else 0) := by
    show fixE K s d v = _
    unfold fixE
    rw [hb]
    rfl
  simp only [Bool.and_eq_true] at hb
  obtain ⟨⟨hn, hd⟩, hv⟩ := hb
  obtain ⟨hd1, hd2⟩ := (dayB_iff d).1 hd
  have HN := hidInW (refName_any s w (by omega))
  rw [hn] at HN
  have HR0 := hidInW h
  clear h hd hn
  go_enter Try.func58, Try.ntmps58
  go_wp2_with fail
  refine HN.out.mono ?_
  rintro e w1 ⟨rfl, hb1⟩
  have HB1 := hidInW hb1
  have HR1 := hidInW (HR0.out.below hb1)
  clear hb1
  go_wp2_with (go_at_call 86; refine calls_same (refValid_any _ _) ?_)
  refine (refFixed_any w1 B r K vF vC HR1.out s d (by omega)).mono ?_
  rintro e w2 ⟨rfl, hb2⟩
  have HB2 := hidInW (HB1.out.trans (hb2.mono HB1.out.size))
  have HR2 := hidInW (HR1.out.below hb2)
  clear hb2 HR1 HB1 HN
  cases hf : K.fixed (s, d) with
  | some x =>
    have he : fixE K s d v = 4 := by rw [HE.out, hf]; rfl
    go_wp2_with fail
    go_ret
    refine ⟨by rw [he]; rfl, ⟨vF, ?_⟩, RT.of_below HB2.out hB⟩
    rw [fixN, if_neg (by omega)]
    exact HR2.out
  | none =>
    have c0 := HR2.out.cell0
    obtain ⟨ao, cap, hvF⟩ := row_shape HR2.out.rf
    rw [hvF] at c0
    by_cases h32 : 32 ≤ K.F.length
    · have he : fixE K s d v = 5 := by rw [HE.out, hf]; simp [h32]
      have h32' : (32 : Int) ≤ (K.F.length : Int) := by omega
      go_wp2_with fail
      go_ret
      refine ⟨by rw [he]; rfl, ⟨vF, ?_⟩, RT.of_below HB2.out hB⟩
      rw [fixN, if_neg (by omega)]
      exact HR2.out
    · have he : fixE K s d v = 0 := by rw [HE.out, hf]; simp [h32]
      have h32' : ¬ (32 : Int) ≤ (K.F.length : Int) := by omega
      have hBw : B ≤ w2.heap.size := Nat.le_trans hB HB2.out.size
      obtain ⟨i0, hi, hz⟩ := Option.map_eq_some_iff.1 infoFx
      simp only [Prod.mk.injEq] at hz
      obtain ⟨hz0, hz1, hz2⟩ := hz
      have HRA := hidInW (HR2.out.below (below_alloc (Below.refl _ _) (.cells #[.string s, .int .i64 d, .int .i64 v] 180)))
      have HBA := hidInW (below_alloc HB2.out (.cells #[.string s, .int .i64 d, .int .i64 v] 180))
      have HNW := hidInW (cells_new w2 #[.string s, .int .i64 d, .int .i64 v] 180)
      have hsz : B ≤ (w2.alloc (.cells #[.string s, .int .i64 d, .int .i64 v] 180)).heap.size := by rw [size_alloc]; omega
      subst hvF
      generalize hwa : w2.alloc (.cells #[.string s, .int .i64 d, .int .i64 v] 180) = wa at *
      have HST : Hid (∀ (v' : Value) (w3 : World), w3.ownsRow B 180 3 v' (K.F.length + 1) (rF K.F ++ [.string s, .int .i64 d, .int .i64 v]) → wa.grownBy w3 (Value.slice ao K.F.length cap).ownBlock → w3.cell? ⟨r, 0, none⟩ = some (.slice ao K.F.length cap) ∧ w3.frozen? ⟨r, 0, none⟩ = false) := fun v' w3 hown hg => by
        have hr : r < wa.heap.size := (Array.getElem?_eq_some_iff.1 HRA.out.blk).1
        have hb1 : w3.heap[r]? = some (.cells #[.slice ao K.F.length cap, vC] 109) := (hg.block r hr (fun e => HRA.out.neF e.symm)).trans HRA.out.blk
        exact ⟨cell_blk hb1 rfl, frozen_of_row w3 r 0 _ _ hb1⟩
      go_wp2_with (at_builtin; refine wpList_append_own _ rfl _ _ 106 rfl B 180 i0 (.agg #[.string ByteArray.empty, .int .i64 0, .int .i64 0]) 3 32 Try.underlying106 hi hz0 hz1 hz2 rfl (by decide) _ _ _ rfl HRA.out.rf ⟨w2.heap.size, 0, none⟩ 1 1 [.string s, .int .i64 d, .int .i64 v] rfl rfl HNW.out (by intro u hu; simp at hu; rcases hu with rfl | rfl | rfl <;> rfl) (by unfold maxLen; omega) (by omega) hsz ?_; intro v' w3 hown' hgrow _; have hst := HST.out v' w3 hown' hgrow; obtain ⟨st1, st2⟩ := hst; obtain ⟨ao2, cap2, hv2⟩ := row_shape hown'; subst hv2)
      go_ret
      obtain ⟨k1, k2⟩ := HRA.out.addF hsz ((s, d), v) hown' hgrow
      refine ⟨by rw [he]; rfl, ⟨.slice ao2 (K.F.length + 1) cap2, ?_⟩, ?_⟩
      · rw [fixN, if_pos he]
        exact k1
      · exact k2.after HBA.out hB

set_option maxHeartbeats 1000000 in
theorem refCh_bad (w : World) (r : Nat) (s t : ByteArray) (q d : Int) (hs : s.size ≤ 1000000) (ht : t.size ≤ 1000000) (hb : (nameGo 0 (runesOf s) && nameGo 0 (runesOf t) && pickB q && dayB d) = false) :
    Calls Try.prog 37 #[.pointer (some ⟨r, 0, none⟩), .string s, .string t, .int .i64 q, .int .i64 d] w fun e w' => e = .returned (.int .i64 1) ∧ Below w.heap.size w w' := by
  have HN := hidInW (refName_any s w (by omega))
  have HM := hidInW (fun w => refName_any t w (by omega))
  cases hn : nameGo 0 (runesOf s) with
  | false =>
    rw [hn] at HN
    go_enter Try.func37, Try.ntmps37
    go_wp2_with fail
    refine HN.out.mono ?_
    rintro e w1 ⟨rfl, hb1⟩
    go_wp2_with fail
    go_ret
    exact ⟨rfl, hb1⟩
  | true =>
    rw [hn] at HN hb
    cases hm : nameGo 0 (runesOf t) with
    | false =>
      rw [hm] at HM
      go_enter Try.func37, Try.ntmps37
      go_wp2_with fail
      refine HN.out.mono ?_
      rintro e w1 ⟨rfl, hb1⟩
      go_wp2_with fail
      refine (HM.out w1).mono ?_
      rintro e w2 ⟨rfl, hb2⟩
      go_wp2_with fail
      go_ret
      exact ⟨rfl, hb1.trans (hb2.mono hb1.size)⟩
    | true =>
      rw [hm] at HM hb
      have hw : q < 0 ∨ (0 ≤ q ∧ 1 < q) ∨ (0 ≤ q ∧ q ≤ 1 ∧ d < 0) ∨ (0 ≤ q ∧ q ≤ 1 ∧ 0 ≤ d ∧ 10000 < d) := by
        by_cases g1 : q < 0
        · exact .inl g1
        · by_cases g2 : 1 < q
          · exact .inr (.inl ⟨by omega, g2⟩)
          · by_cases g3 : d < 0
            · exact .inr (.inr (.inl ⟨by omega, by omega, g3⟩))
            · by_cases g4 : 10000 < d
              · exact .inr (.inr (.inr ⟨by omega, by omega, by omega, g4⟩))
              · exfalso
                have h1 : dayB d = true := (dayB_iff d).2 ⟨by omega, by omega⟩
                have h2 : pickB q = true := by simp [pickB]; omega
                rw [h1, h2] at hb
                cases hb
      clear hb
      rcases hw with g1 | ⟨g0, g1⟩ | ⟨g0, g1, g2⟩ | ⟨g0, g1, g2, g3⟩
      all_goals
        go_enter Try.func37, Try.ntmps37
        go_wp2_with fail
        refine HN.out.mono ?_
        rintro e w1 ⟨rfl, hb1⟩
        go_wp2_with fail
        refine (HM.out w1).mono ?_
        rintro e w2 ⟨rfl, hb2⟩
        go_wp2_with fail
        go_ret
        exact ⟨rfl, hb1.trans (hb2.mono hb1.size)⟩

set_option maxHeartbeats 2000000 in
set_option maxRecDepth 100000 in
theorem refCh_ok (w : World) (B r : Nat) (K : KW) (vF vC : Value) (h : RIn w B r K vF vC) (hB : B ≤ w.heap.size) (s t : ByteArray) (q d : Int) (hs : s.size ≤ 1000000) (ht : t.size ≤ 1000000) (hlen : K.C.length ≤ 1000) (hb : (nameGo 0 (runesOf s) && nameGo 0 (runesOf t) && pickB q && dayB d) = true) :
    Calls Try.prog 37 #[.pointer (some ⟨r, 0, none⟩), .string s, .string t, .int .i64 q, .int .i64 d] w fun e w' => e = .returned (.int .i64 (chE K s t q d)) ∧ (∃ vC', RIn w' B r (chN K s t q d) vF vC') ∧ RT B r w w' := by
  have HE : Hid (chE K s t q d = if (K.chosen (s, t)).isSome = true then 4 else 0) := by
    show chE K s t q d = _
    unfold chE
    rw [hb]
    rfl
  simp only [Bool.and_eq_true] at hb
  obtain ⟨⟨⟨hn, hm⟩, hq⟩, hd⟩ := hb
  obtain ⟨hd1, hd2⟩ := (dayB_iff d).1 hd
  have hq1 : 0 ≤ q ∧ q ≤ 1 := by simp [pickB] at hq; omega
  obtain ⟨hq1, hq2⟩ := hq1
  have HM := hidInW (fun w => refName_any t w (by omega))
  rw [hm] at HM
  have HN := hidInW (refName_any s w (by omega))
  rw [hn] at HN
  have HR0 := hidInW h
  clear h hd hn hm hq
  go_enter Try.func37, Try.ntmps37
  go_wp2_with fail
  refine HN.out.mono ?_
  rintro e w1 ⟨rfl, hb1⟩
  have HB1 := hidInW hb1
  have HR1 := hidInW (HR0.out.below hb1)
  clear hb1
  go_wp2_with fail
  refine (HM.out w1).mono ?_
  rintro e w1b ⟨rfl, hb1b⟩
  have HB1b := hidInW (HB1.out.trans (hb1b.mono HB1.out.size))
  have HR1b := hidInW (HR1.out.below hb1b)
  clear hb1b HR1 HB1 HM
  go_wp2_with fail
  refine (refChosen_any w1b B r K vF vC HR1b.out s t (by omega)).mono ?_
  rintro e w2 ⟨rfl, hb2⟩
  have HB2 := hidInW (HB1b.out.trans (hb2.mono HB1b.out.size))
  have HR2 := hidInW (HR1b.out.below hb2)
  clear hb2 HR1b HB1b HN
  cases hf : K.chosen (s, t) with
  | some x =>
    have he : chE K s t q d = 4 := by rw [HE.out, hf]; rfl
    go_wp2_with fail
    go_ret
    refine ⟨by rw [he]; rfl, ⟨vC, ?_⟩, RT.of_below HB2.out hB⟩
    rw [chN, if_neg (by omega)]
    exact HR2.out
  | none =>
    have c0 := HR2.out.cell1
    obtain ⟨ao, cap, hvC⟩ := row_shape HR2.out.rc
    rw [hvC] at c0
    · have he : chE K s t q d = 0 := by rw [HE.out, hf]; rfl
      have hBw : B ≤ w2.heap.size := Nat.le_trans hB HB2.out.size
      obtain ⟨i0, hi, hz⟩ := Option.map_eq_some_iff.1 infoCh
      simp only [Prod.mk.injEq] at hz
      obtain ⟨hz0, hz1, hz2⟩ := hz
      have HRA := hidInW (HR2.out.below (below_alloc (Below.refl _ _) (.cells #[.string s, .string t, .int .i64 q, .int .i64 d] 148)))
      have HBA := hidInW (below_alloc HB2.out (.cells #[.string s, .string t, .int .i64 q, .int .i64 d] 148))
      have HNW := hidInW (cells_new w2 #[.string s, .string t, .int .i64 q, .int .i64 d] 148)
      have hsz : B ≤ (w2.alloc (.cells #[.string s, .string t, .int .i64 q, .int .i64 d] 148)).heap.size := by rw [size_alloc]; omega
      subst hvC
      generalize hwa : w2.alloc (.cells #[.string s, .string t, .int .i64 q, .int .i64 d] 148) = wa at *
      have HST : Hid (∀ (v' : Value) (w3 : World), w3.ownsRow B 148 4 v' (K.C.length + 1) (rC K.C ++ [.string s, .string t, .int .i64 q, .int .i64 d]) → wa.grownBy w3 (Value.slice ao K.C.length cap).ownBlock → w3.cell? ⟨r, 1, none⟩ = some (.slice ao K.C.length cap) ∧ w3.frozen? ⟨r, 1, none⟩ = false) := fun v' w3 hown hg => by
        have hr : r < wa.heap.size := (Array.getElem?_eq_some_iff.1 HRA.out.blk).1
        have hb1 : w3.heap[r]? = some (.cells #[vF, .slice ao K.C.length cap] 109) := (hg.block r hr (fun e => HRA.out.neC e.symm)).trans HRA.out.blk
        exact ⟨cell_blk hb1 rfl, frozen_of_row w3 r 1 _ _ hb1⟩
      go_wp2_with (at_builtin; refine wpList_append_own _ rfl _ _ 107 rfl B 148 i0 (.agg #[.string ByteArray.empty, .string ByteArray.empty, .int .i64 0, .int .i64 0]) 4 48 Try.underlying107 hi hz0 hz1 hz2 rfl (by decide) _ _ _ rfl HRA.out.rc ⟨w2.heap.size, 0, none⟩ 1 1 [.string s, .string t, .int .i64 q, .int .i64 d] rfl rfl HNW.out (by intro u hu; simp at hu; rcases hu with rfl | rfl | rfl | rfl <;> rfl) (by unfold maxLen; omega) (by omega) hsz ?_; intro v' w3 hown' hgrow _; have hst := HST.out v' w3 hown' hgrow; obtain ⟨st1, st2⟩ := hst; obtain ⟨ao2, cap2, hv2⟩ := row_shape hown'; subst hv2)
      go_ret
      obtain ⟨k1, k2⟩ := HRA.out.addC hsz ((s, t), (q, d)) hown' hgrow
      refine ⟨by rw [he]; rfl, ⟨.slice ao2 (K.C.length + 1) cap2, ?_⟩, ?_⟩
      · rw [chN, if_pos he]
        exact k1
      · exact k2.after HBA.out hB

theorem refFix_any (w : World) (B r : Nat) (K : KW) (vF vC : Value) (h : RIn w B r K vF vC) (hB : B ≤ w.heap.size) (s : ByteArray) (d v : Int) (hs : s.size ≤ 1000000) (hlen : K.F.length ≤ 1000) :
    Calls Try.prog 58 #[.pointer (some ⟨r, 0, none⟩), .string s, .int .i64 d, .int .i64 v] w fun e w' => e = .returned (.int .i64 (fixE K s d v)) ∧ (∃ vF' vC', RIn w' B r (fixN K s d v) vF' vC') ∧ RT B r w w' := by
  cases hb : (nameGo 0 (runesOf s) && dayB d && vB v)
  · have he : fixE K s d v = 1 := by unfold fixE; rw [hb]; rfl
    refine (refFix_bad w r s d v hs hb).mono ?_
    rintro e w' ⟨rfl, hB'⟩
    refine ⟨by rw [he], ⟨vF, vC, ?_⟩, RT.of_below hB' hB⟩
    rw [fixN, if_neg (by omega)]
    exact h.below hB'
  · refine (refFix_ok w B r K vF vC h hB s d v hs hlen hb).mono ?_
    rintro e w' ⟨h1, ⟨vF', h2⟩, h3⟩
    exact ⟨h1, ⟨vF', vC, h2⟩, h3⟩
theorem refCh_any (w : World) (B r : Nat) (K : KW) (vF vC : Value) (h : RIn w B r K vF vC) (hB : B ≤ w.heap.size) (s t : ByteArray) (q d : Int) (hs : s.size ≤ 1000000) (ht : t.size ≤ 1000000) (hlen : K.C.length ≤ 1000) :
    Calls Try.prog 37 #[.pointer (some ⟨r, 0, none⟩), .string s, .string t, .int .i64 q, .int .i64 d] w fun e w' => e = .returned (.int .i64 (chE K s t q d)) ∧ (∃ vF' vC', RIn w' B r (chN K s t q d) vF' vC') ∧ RT B r w w' := by
  cases hb : (nameGo 0 (runesOf s) && nameGo 0 (runesOf t) && pickB q && dayB d)
  · have he : chE K s t q d = 1 := by unfold chE; rw [hb]; rfl
    refine (refCh_bad w r s t q d hs ht hb).mono ?_
    rintro e w' ⟨rfl, hB'⟩
    refine ⟨by rw [he], ⟨vF, vC, ?_⟩, RT.of_below hB' hB⟩
    rw [chN, if_neg (by omega)]
    exact h.below hB'
  · refine (refCh_ok w B r K vF vC h hB s t q d hs ht hlen hb).mono ?_
    rintro e w' ⟨h1, ⟨vC', h2⟩, h3⟩
    exact ⟨h1, ⟨vF, vC', h2⟩, h3⟩

end Go.Proofs.Ytngjlkdpplmpaaa.Wd
namespace Go.Proofs.Ytngjlkdpplmpaaa.Mx
open Go.RowKit
set_option linter.unusedVariables false

section
variable {P : Program} {ops : Array Oper} {md : Region.Mode} {C : World → Prop}
def wpAny3 (P : Program) (md : Region.Mode) (ops : Array Oper) (C : World → Prop) (C2 : World → Prop) (jj : Nat) (Q : Act → World → Prop) : Nat → Array Bool → Act → World → Prop
  | 0, listed, a, w => (C w ∧ (listed.getD jj false = true → C2 w)) ∧ Region.ready md ops listed = [] ∧ Q a w
  | fuel + 1, listed, a, w => (C w ∧ (listed.getD jj false = true → C2 w)) ∧ Region.ready md ops listed ≠ [] ∧ ∀ i ∈ Region.ready md ops listed, ∀ o, ops[i]? = some o →
      (Region.wanted o (yielded ops a.tmps) = true ∧ stepK P o a w (fun u w' => wpAny3 P md ops C C2 jj Q fuel (listed.setIfInBounds i true) (a.put o.dst u) w')) ∨
      (Region.wanted o (yielded ops a.tmps) = false ∧ wpAny3 P md ops C C2 jj Q fuel (listed.setIfInBounds i true) (a.put o.dst undef) w)
theorem any_of_3 {C2 : World → Prop} {jj : Nat} {Q : Act → World → Prop} {Q' : Exit → Act → World → Prop} (hQ : ∀ a w, Q a w → Q' .normal a w) : ∀ (fuel : Nat) (listed : Array Bool) (a : Act) (w : World), wpAny3 P md ops C C2 jj Q fuel listed a w → wpAny P md ops Q' fuel listed a w
  | 0, _, _, _, h => ⟨h.2.1, hQ _ _ h.2.2⟩
  | fuel + 1, listed, a, w, h => ⟨fun h0 => absurd h0 h.2.1, fun i hi => by
      obtain ⟨_, o, ho, _⟩ := mem_ready.1 hi
      unfold wpOp
      simp only [ho]
      rcases h.2.2 i hi o ho with ⟨h1, h2⟩ | ⟨h1, h2⟩
      · rw [if_pos h1]
        exact .inl (wp_of_stepK (stepK_mono (fun u w' hk => any_of_3 hQ fuel _ _ w' hk) h2))
      · rw [if_neg (by rw [h1]; decide)]
        exact any_of_3 hQ fuel _ _ w h2⟩
theorem first3 {C2 : World → Prop} {jj : Nat} {Q : Act → World → Prop} {i : Nat} {oi : Oper} {u : Value} (hi : ops[i]? = some oi) (hsel : ∀ (j : Nat) (o : Oper) cs b, ops[j]? = some o → o.op ≠ .select cs b) :
    ∀ (fuel : Nat) (listed : Array Bool) (a : Act) (w : World),
      (∀ j oj, ops[j]? = some oj → j ≠ i → listed.getD j true = false → (∀ e ∈ oj.after, Region.binds md e = true → e.on ≠ i) → oi.apart ops oj = true) →
      i ∈ Region.ready md ops listed → ((Region.wanted oi (yielded ops a.tmps) = true ∧ ∀ w, C w → (listed.getD jj false = true → C2 w) → stepK P oi a w (fun u' w' => u' = u ∧ w' = w)) ∨ (Region.wanted oi (yielded ops a.tmps) = false ∧ u = undef)) → i ≠ jj →
      wpAny3 P md ops C C2 jj Q fuel (listed.setIfInBounds i true) (a.put oi.dst u) w → wpAny3 P md ops C C2 jj Q (fuel + 1) listed a w := by
  intro fuel
  induction fuel with
  | zero =>
    intro listed a w hfree hr hst hij h
    have hc : C w ∧ (listed.getD jj false = true → C2 w) := ⟨h.1.1, fun x => h.1.2 (by rw [getD_set_ne false hij]; exact x)⟩
    refine ⟨hc, fun h0 => (by rw [h0] at hr; cases hr), fun j hj o ho => ?_⟩
    by_cases hji : j = i
    · subst hji
      rw [hi] at ho
      cases ho
      rcases hst with ⟨hw, hst⟩ | ⟨hw, hu⟩
      · exact .inl ⟨hw, stepK_mono (fun u' w' hu => by rw [hu.1, hu.2]; exact h) (hst w hc.1 hc.2)⟩
      · exact .inr ⟨hw, by rw [← hu]; exact h⟩
    · have := ready_mono hj hji
      rw [h.2.1] at this
      cases this
  | succ fuel ih =>
    intro listed a w hfree hr hst hij h
    have hc : C w ∧ (listed.getD jj false = true → C2 w) := ⟨h.1.1, fun x => h.1.2 (by rw [getD_set_ne false hij]; exact x)⟩
    refine ⟨hc, fun h0 => (by rw [h0] at hr; cases hr), fun j hj oj hoj => ?_⟩
    by_cases hji : j = i
    · subst hji
      rw [hi] at hoj
      cases hoj
      rcases hst with ⟨hw, hst⟩ | ⟨hw, hu⟩
      · exact .inl ⟨hw, stepK_mono (fun u' w' hu => by rw [hu.1, hu.2]; exact h) (hst w hc.1 hc.2)⟩
      · exact .inr ⟨hw, by rw [← hu]; exact h⟩
    · obtain ⟨hjun, oj', hoj', hall⟩ := mem_ready.1 hj
      rw [hoj] at hoj'
      cases hoj'
      have hnot : ∀ e ∈ oj.after, Region.binds md e = true → e.on ≠ i := fun e he hb heq => by
        have h1 := hall e he hb
        have h0 := (mem_ready.1 hr).1
        rw [heq] at h1
        rcases Nat.lt_or_ge i listed.size with h' | h'
        · simp [h'] at h0 h1; rw [h0] at h1; cases h1
        · simp [Array.getElem?_eq_none h'] at h1
      obtain ⟨p1, p2, p3⟩ := Oper.apart_spec (hfree j oj hoj hji hjun hnot)
      have hfree' : ∀ k ok, ops[k]? = some ok → k ≠ i → (listed.setIfInBounds j true).getD k true = false →
          (∀ e ∈ ok.after, Region.binds md e = true → e.on ≠ i) → oi.apart ops ok = true := fun k ok hk hki hun hno => by
        refine hfree k ok hk hki ?_ hno
        by_cases hjk : j = k
        · subst hjk; exact hjun
        · rw [getD_set_ne true hjk] at hun; exact hun
      have next : ∀ (v : Value) (w' : World), wpAny3 P md ops C C2 jj Q fuel ((listed.setIfInBounds i true).setIfInBounds j true) ((a.put oi.dst u).put oj.dst v) w' → wpAny3 P md ops C C2 jj Q (fuel + 1) (listed.setIfInBounds j true) (a.put oj.dst v) w' := fun v w' hk => by
        refine ih (listed.setIfInBounds j true) (a.put oj.dst v) w' hfree' (ready_mono hr (Ne.symm hji)) ?_ hij ?_
        · rw [wanted_put oi a oj.dst v p3]
          rcases hst with ⟨hw, hst⟩ | hst
          · refine .inl ⟨hw, fun w hw hw2 => ?_⟩
            have := hst w hw (fun x => hw2 (getD_set_true x))
            unfold stepK at this ⊢
            rw [execOp_put oi (fun cs b => hsel i oi cs b hi) a oj.dst v p3]
            exact this
          · exact .inr hst
        · rw [Array.setIfInBounds_comm _ _ hji, ← Act.put_comm a u v p2]
          exact hk
      rcases h.2.2 j (ready_mono hj hji) oj hoj with ⟨h1, h2⟩ | ⟨h1, h2⟩
      · refine .inl ⟨by rw [wanted_put oj a oi.dst u p1] at h1; exact h1, ?_⟩
        unfold stepK at h2 ⊢
        rw [execOp_put oj (fun cs b => hsel j oj cs b hoj) a oi.dst u p1] at h2
        exact stepK_mono (o := oj) (a := a) (w := w) (fun v w' hk => next v w' hk) h2
      · exact .inr ⟨by rw [wanted_put oj a oi.dst u p1] at h1; exact h1, next undef w h2⟩
/-- In the first phase C is known of each world; from operation jj on C2 as well. -/
def mix3 (P : Program) (ops : Array Oper) (C C2 : World → Prop) (jj : Nat) (Q : Act → World → Prop) : Bool → List (Oper × Nat × Bool) → Act → World → Prop
  | ph, [], a, w => C w → (ph = true → C2 w) → Q a w
  | ph, (o, i, true) :: r, a, w => Region.wanted o (yielded ops a.tmps) = true ∧ stepK P o a w (fun u w' => C w' ∧ ((ph || i == jj) = true → C2 w') ∧ mix3 P ops C C2 jj Q (ph || i == jj) r (a.put o.dst u) w')
  | ph, (o, i, false) :: r, a, w => i ≠ jj ∧ ∃ u, ((Region.wanted o (yielded ops a.tmps) = true ∧ ∀ w, C w → (ph = true → C2 w) → stepK P o a w (fun u' w' => u' = u ∧ w' = w)) ∨ (Region.wanted o (yielded ops a.tmps) = false ∧ u = undef)) ∧ mix3 P ops C C2 jj Q ph r (a.put o.dst u) w
theorem any3_of_mix {C2 : World → Prop} {jj : Nat} {Q : Act → World → Prop} (hs : Region.noSelect ops = true) : ∀ (plan : List (Nat × Bool)) (L : List (Oper × Nat × Bool)) (listed : Array Bool) (ph : Bool) (a : Act) (w : World), plan.map (fun p => (ops[p.1]?, p.1, p.2)) = L.map (fun q => (some q.1, q.2.1, q.2.2)) →
    planB md ops plan listed = true → listed.getD jj false = ph → jj < listed.size → C w → (ph = true → C2 w) → mix3 P ops C C2 jj Q ph L a w → wpAny3 P md ops C C2 jj Q plan.length listed a w
  | [], L, listed, ph, a, w, hL, hB, hp, hz, hC, hC2, h => by
    cases L with
    | nil => exact ⟨⟨hC, fun x => hC2 (by rw [← hp]; exact x)⟩, by simpa [planB] using hB, h hC hC2⟩
    | cons q L => simp at hL
  | (i, al) :: r, L, listed, ph, a, w, hL, hB, hp, hz, hC, hC2, h => by
    cases L with
    | nil => simp at hL
    | cons q L =>
      obtain ⟨o, i', al'⟩ := q
      simp only [List.map_cons, List.cons.injEq, Prod.mk.injEq] at hL
      obtain ⟨⟨ho, rfl, rfl⟩, hL'⟩ := hL
      simp only [planB, Bool.and_eq_true] at hB
      obtain ⟨⟨hr, hf⟩, hB'⟩ := hB
      have hr' : i ∈ Region.ready md ops listed := by simpa using hr
      have hz' : jj < (listed.setIfInBounds i true).size := by simpa using hz
      have hp' : (listed.setIfInBounds i true).getD jj false = (ph || i == jj) := by
        by_cases hij : i = jj
        · subst hij
          simp [hz]
        · rw [getD_set_ne false hij, hp]
          simp [hij]
      cases al with
      | true =>
        simp only [if_true, List.all_eq_true, beq_iff_eq] at hf
        obtain ⟨h1, h2⟩ := h
        refine ⟨⟨hC, fun x => hC2 (by rw [← hp]; exact x)⟩, fun h0 => (by rw [h0] at hr'; cases hr'), fun j hj oj hoj => ?_⟩
        have hji := hf j hj
        subst hji
        rw [ho] at hoj
        cases hoj
        exact .inl ⟨h1, stepK_mono (fun u w' hk => any3_of_mix hs r L _ _ _ w' hL' hB' hp' hz' hk.1 hk.2.1 hk.2.2) h2⟩
      | false =>
        simp only [Bool.false_eq_true, if_false] at hf
        obtain ⟨hij, u, h2, h3⟩ := h
        have hph : (ph || i == jj) = ph := by
          have : (i == jj) = false := by rw [beq_eq_false_iff_ne]; exact hij
          rw [this, Bool.or_false]
        rw [hph] at hp'
        exact first3 ho (Region.noSelect_spec hs) r.length listed a w (Region.free_spec ho hf) hr' (h2.imp (fun hh => ⟨hh.1, fun w hw hw2 => hh.2 w hw (fun x => hw2 (by rw [hp]; exact x))⟩) id) hij (any3_of_mix hs r L _ _ _ w hL' hB' hp' hz' hC hC2 h3)
/-- One walk serves every order, in two phases. -/
theorem wp_region_mix3 {id : Nat} {Q : Exit → Act → World → Prop} {a : Act} {w : World} {l : List Oper} (C C2 : World → Prop) (jj : Nat) (plan : List (Nat × Bool)) (hm : P.follows .mixedOrders = true)
    (hB : (Region.noSelect l.toArray && planB .any l.toArray plan (Array.replicate l.length false) && plan.length == l.length) = true) (hC : C w.drew)
    (h : mix3 P l.toArray C C2 jj (fun a w => Q .normal a w) false (plan.map fun p => (l.getD p.1 default, p.1, p.2)) a w.drew) (hin : (plan.all (fun p => p.1 < l.length) && decide (jj < l.length)) = true) : (Code.region id l.toArray true).wp P Q a w := by
  simp only [Bool.and_eq_true, beq_iff_eq, decide_eq_true_eq] at hB hin
  refine wp_region_any hm (any_of_3 (C := C) (C2 := C2) (jj := jj) (Q := fun a w => Q .normal a w) (fun _ _ h => h) _ _ _ _ ?_)
  have := any3_of_mix (C := C) (C2 := C2) (jj := jj) (md := .any) hB.1.1 plan _ (Array.replicate l.length false) false a w.drew (by
    rw [List.map_map]
    apply List.map_congr_left
    intro p hp
    have hlt : p.1 < l.length := by simpa using List.all_eq_true.1 hin.1 p hp
    simp [List.getD, List.getElem?_eq_getElem hlt]) hB.1.2 (by simp [hin.2]) (by simpa using hin.2) hC (fun x => by cases x) h
  rw [hB.2] at this
  simpa using this
variable {C2 : World → Prop} {jj : Nat} {Q : Act → World → Prop}
theorem q_pure {ph : Bool} {o : Oper} {i : Nat} {r : List (Oper × Nat × Bool)} {a : Act} {w : World} (v : Value) (hij : i ≠ jj) (hw : Region.wanted o (yielded ops a.tmps) = true) (h : ∀ w, C w → (ph = true → C2 w) → (execOp a.eval o).run P w = .ok (.value v) w) (hk : mix3 P ops C C2 jj Q ph r (a.put o.dst v) w) : mix3 P ops C C2 jj Q ph ((o, i, false) :: r) a w :=
  ⟨hij, v, .inl ⟨hw, fun w h1 h2 => by unfold stepK; rw [h w h1 h2]; exact ⟨rfl, rfl⟩⟩, hk⟩
/-- What is left out. -/
theorem q_skip {ph : Bool} {o : Oper} {i : Nat} {r : List (Oper × Nat × Bool)} {a : Act} {w : World} (hij : i ≠ jj) (hw : Region.wanted o (yielded ops a.tmps) = false) (hk : mix3 P ops C C2 jj Q ph r (a.put o.dst undef) w) : mix3 P ops C C2 jj Q ph ((o, i, false) :: r) a w := ⟨hij, undef, .inr ⟨hw, rfl⟩, hk⟩
/-- A call that only reads what stays. -/
theorem q_reads {ph : Bool} {o : Oper} {i : Nat} {r : List (Oper × Nat × Bool)} {a : Act} {w : World} (f : FuncId) (args : Array Value) (v : Value) (hij : i ≠ jj) (hw : Region.wanted o (yielded ops a.tmps) = true) (h : ∀ w, C w → (execOp a.eval o).run P w = .ok (.enter f args) w)
    (hc : ∀ w, C w → (ph = true → C2 w) → Calls P f args w (fun e w' => e = .returned v ∧ w' = w)) (hk : mix3 P ops C C2 jj Q ph r (a.put o.dst v) w) : mix3 P ops C C2 jj Q ph ((o, i, false) :: r) a w :=
  ⟨hij, v, .inl ⟨hw, fun w h1 h2 => by unfold stepK; rw [h w h1]; exact ⟨rfl, (hc w h1 h2).mono fun e w' h3 => ⟨v, h3.1, rfl, h3.2⟩⟩⟩, hk⟩
theorem q_call {ph : Bool} {o : Oper} {i : Nat} {r : List (Oper × Nat × Bool)} {a : Act} {w : World} (f : FuncId) (args : Array Value) (hw : Region.wanted o (yielded ops a.tmps) = true) (h : (execOp a.eval o).run P w = .ok (.enter f args) w)
    (hc : Calls P f args w (fun e w' => ∃ v, e = .returned v ∧ C w' ∧ ((ph || i == jj) = true → C2 w') ∧ mix3 P ops C C2 jj Q (ph || i == jj) r (a.put o.dst v) w')) : mix3 P ops C C2 jj Q ph ((o, i, true) :: r) a w := by
  refine ⟨hw, ?_⟩
  unfold stepK
  rw [h]
  exact ⟨rfl, hc⟩
theorem q_run {ph : Bool} {o : Oper} {i : Nat} {r : List (Oper × Nat × Bool)} {a : Act} {w w' : World} (v : Value) (hw : Region.wanted o (yielded ops a.tmps) = true) (h : (execOp a.eval o).run P w = .ok (.value v) w') (hC : C w') (hC2 : (ph || i == jj) = true → C2 w') (hk : mix3 P ops C C2 jj Q (ph || i == jj) r (a.put o.dst v) w') : mix3 P ops C C2 jj Q ph ((o, i, true) :: r) a w := by
  refine ⟨hw, ?_⟩
  unfold stepK
  rw [h]
  exact ⟨hC, hC2, hk⟩
theorem q_nil {ph : Bool} {a : Act} {w : World} (h : C w → (ph = true → C2 w) → Q a w) : mix3 P ops C C2 jj Q ph [] a w := h
theorem unwanted_met {ops : Array Oper} {a : Act} {o : Oper} (j d : Nat) (want have' : Bool) (hg : o.guard = some (j, want)) (hd : (ops[j]?).bind (·.dst) = some d) (hv : a.tmps[d]? = some (.bool have')) (hne : (have' == want) = false) : Region.wanted o (yielded ops a.tmps) = false := by
  unfold Region.wanted yielded
  rw [hg]
  simp only [hd, Option.bind_some, hv]
  cases want <;> cases have' <;> first | rfl | exact absurd hne (by decide)
end

end Go.Proofs.Ytngjlkdpplmpaaa.Mx
namespace Go.Proofs.Ytngjlkdpplmpaaa.Mx
open Go.RowKit
set_option linter.unusedVariables false

section
variable {P : Program} {ops : Array Oper} {md : Region.Mode} {C : World → Prop}
def wpAny4 (P : Program) (md : Region.Mode) (ops : Array Oper) (C : World → Prop) (jj : Nat) (Q : Act → World → Prop) : Nat → Array Bool → Act → World → Prop
  | 0, listed, a, w => (listed.getD jj false = false → C w) ∧ Region.ready md ops listed = [] ∧ Q a w
  | fuel + 1, listed, a, w => (listed.getD jj false = false → C w) ∧ Region.ready md ops listed ≠ [] ∧ ∀ i ∈ Region.ready md ops listed, ∀ o, ops[i]? = some o →
      (Region.wanted o (yielded ops a.tmps) = true ∧ stepK P o a w (fun u w' => wpAny4 P md ops C jj Q fuel (listed.setIfInBounds i true) (a.put o.dst u) w')) ∨
      (Region.wanted o (yielded ops a.tmps) = false ∧ wpAny4 P md ops C jj Q fuel (listed.setIfInBounds i true) (a.put o.dst undef) w)
theorem any_of_4 {jj : Nat} {Q : Act → World → Prop} {Q' : Exit → Act → World → Prop} (hQ : ∀ a w, Q a w → Q' .normal a w) : ∀ (fuel : Nat) (listed : Array Bool) (a : Act) (w : World), wpAny4 P md ops C jj Q fuel listed a w → wpAny P md ops Q' fuel listed a w
  | 0, _, _, _, h => ⟨h.2.1, hQ _ _ h.2.2⟩
  | fuel + 1, listed, a, w, h => ⟨fun h0 => absurd h0 h.2.1, fun i hi => by
      obtain ⟨_, o, ho, _⟩ := mem_ready.1 hi
      unfold wpOp
      simp only [ho]
      rcases h.2.2 i hi o ho with ⟨h1, h2⟩ | ⟨h1, h2⟩
      · rw [if_pos h1]
        exact .inl (wp_of_stepK (stepK_mono (fun u w' hk => any_of_4 hQ fuel _ _ w' hk) h2))
      · rw [if_neg (by rw [h1]; decide)]
        exact any_of_4 hQ fuel _ _ w h2⟩
theorem first4 {jj : Nat} {Q : Act → World → Prop} {i : Nat} {oi : Oper} {u : Value} (hwt : waitsAll md ops jj = true) (hin : i < jj) (hi : ops[i]? = some oi) (hsel : ∀ (j : Nat) (o : Oper) cs b, ops[j]? = some o → o.op ≠ .select cs b) :
    ∀ (fuel : Nat) (listed : Array Bool) (a : Act) (w : World),
      (∀ j oj, ops[j]? = some oj → j ≠ i → listed.getD j true = false → (∀ e ∈ oj.after, Region.binds md e = true → e.on ≠ i) → oi.apart ops oj = true) →
      i ∈ Region.ready md ops listed → listed.getD jj false = false → ((Region.wanted oi (yielded ops a.tmps) = true ∧ ∀ w, C w → stepK P oi a w (fun u' w' => u' = u ∧ w' = w)) ∨ (Region.wanted oi (yielded ops a.tmps) = false ∧ u = undef)) →
      wpAny4 P md ops C jj Q fuel (listed.setIfInBounds i true) (a.put oi.dst u) w → wpAny4 P md ops C jj Q (fuel + 1) listed a w := by
  have hij : i ≠ jj := by omega
  intro fuel
  induction fuel with
  | zero =>
    intro listed a w hfree hr hlj hst h
    have hc : C w := h.1 (by rw [getD_set_ne false hij]; exact hlj)
    refine ⟨fun _ => hc, fun h0 => (by rw [h0] at hr; cases hr), fun j hj o ho => ?_⟩
    by_cases hji : j = i
    · subst hji
      rw [hi] at ho
      cases ho
      rcases hst with ⟨hw, hst⟩ | ⟨hw, hu⟩
      · exact .inl ⟨hw, stepK_mono (fun u' w' hu => by rw [hu.1, hu.2]; exact h) (hst w hc)⟩
      · exact .inr ⟨hw, by rw [← hu]; exact h⟩
    · have := ready_mono hj hji
      rw [h.2.1] at this
      cases this
  | succ fuel ih =>
    intro listed a w hfree hr hlj hst h
    have hc : C w := h.1 (by rw [getD_set_ne false hij]; exact hlj)
    refine ⟨fun _ => hc, fun h0 => (by rw [h0] at hr; cases hr), fun j hj oj hoj => ?_⟩
    by_cases hji : j = i
    · subst hji
      rw [hi] at hoj
      cases hoj
      rcases hst with ⟨hw, hst⟩ | ⟨hw, hu⟩
      · exact .inl ⟨hw, stepK_mono (fun u' w' hu => by rw [hu.1, hu.2]; exact h) (hst w hc)⟩
      · exact .inr ⟨hw, by rw [← hu]; exact h⟩
    · obtain ⟨hjun, oj', hoj', hall⟩ := mem_ready.1 hj
      rw [hoj] at hoj'
      cases hoj'
      have hjj : j ≠ jj := fun e => last_waits hwt hin (mem_ready.1 hr).1 (e ▸ hj)
      have hnot : ∀ e ∈ oj.after, Region.binds md e = true → e.on ≠ i := fun e he hb heq => by
        have h1 := hall e he hb
        have h0 := (mem_ready.1 hr).1
        rw [heq] at h1
        rcases Nat.lt_or_ge i listed.size with h' | h'
        · simp [h'] at h0 h1; rw [h0] at h1; cases h1
        · simp [Array.getElem?_eq_none h'] at h1
      obtain ⟨p1, p2, p3⟩ := Oper.apart_spec (hfree j oj hoj hji hjun hnot)
      have hfree' : ∀ k ok, ops[k]? = some ok → k ≠ i → (listed.setIfInBounds j true).getD k true = false →
          (∀ e ∈ ok.after, Region.binds md e = true → e.on ≠ i) → oi.apart ops ok = true := fun k ok hk hki hun hno => by
        refine hfree k ok hk hki ?_ hno
        by_cases hjk : j = k
        · subst hjk; exact hjun
        · rw [getD_set_ne true hjk] at hun; exact hun
      have next : ∀ (v : Value) (w' : World), wpAny4 P md ops C jj Q fuel ((listed.setIfInBounds i true).setIfInBounds j true) ((a.put oi.dst u).put oj.dst v) w' → wpAny4 P md ops C jj Q (fuel + 1) (listed.setIfInBounds j true) (a.put oj.dst v) w' := fun v w' hk => by
        refine ih (listed.setIfInBounds j true) (a.put oj.dst v) w' hfree' (ready_mono hr (Ne.symm hji)) (by rw [getD_set_ne false hjj]; exact hlj) ?_ ?_
        · rw [wanted_put oi a oj.dst v p3]
          rcases hst with ⟨hw, hst⟩ | hst
          · refine .inl ⟨hw, fun w hw => ?_⟩
            have := hst w hw
            unfold stepK at this ⊢
            rw [execOp_put oi (fun cs b => hsel i oi cs b hi) a oj.dst v p3]
            exact this
          · exact .inr hst
        · rw [Array.setIfInBounds_comm _ _ hji, ← Act.put_comm a u v p2]
          exact hk
      rcases h.2.2 j (ready_mono hj hji) oj hoj with ⟨h1, h2⟩ | ⟨h1, h2⟩
      · refine .inl ⟨by rw [wanted_put oj a oi.dst u p1] at h1; exact h1, ?_⟩
        unfold stepK at h2 ⊢
        rw [execOp_put oj (fun cs b => hsel j oj cs b hoj) a oi.dst u p1] at h2
        exact stepK_mono (o := oj) (a := a) (w := w) (fun v w' hk => next v w' hk) h2
      · exact .inr ⟨by rw [wanted_put oj a oi.dst u p1] at h1; exact h1, next undef w h2⟩
/-- C is known of each world until operation jj, the last. -/
def mix4 (P : Program) (ops : Array Oper) (C : World → Prop) (jj : Nat) (Q : Act → World → Prop) : List (Oper × Nat × Bool) → Act → World → Prop
  | [], a, w => Q a w
  | (o, i, true) :: r, a, w => Region.wanted o (yielded ops a.tmps) = true ∧ stepK P o a w (fun u w' => (i ≠ jj → C w') ∧ mix4 P ops C jj Q r (a.put o.dst u) w')
  | (o, i, false) :: r, a, w => i < jj ∧ ∃ u, ((Region.wanted o (yielded ops a.tmps) = true ∧ ∀ w, C w → stepK P o a w (fun u' w' => u' = u ∧ w' = w)) ∨ (Region.wanted o (yielded ops a.tmps) = false ∧ u = undef)) ∧ mix4 P ops C jj Q r (a.put o.dst u) w
def lastB (jj : Nat) : List (Nat × Bool) → Bool
  | [] => true
  | (i, _) :: r => (i != jj || r.isEmpty) && lastB jj r
theorem any4_of_mix {jj : Nat} {Q : Act → World → Prop} (hs : Region.noSelect ops = true) (hwt : waitsAll md ops jj = true) : ∀ (plan : List (Nat × Bool)) (L : List (Oper × Nat × Bool)) (listed : Array Bool) (a : Act) (w : World), plan.map (fun p => (ops[p.1]?, p.1, p.2)) = L.map (fun q => (some q.1, q.2.1, q.2.2)) →
    planB md ops plan listed = true → lastB jj plan = true → (listed.getD jj false = true → plan = []) → jj < listed.size → (listed.getD jj false = false → C w) → mix4 P ops C jj Q L a w → wpAny4 P md ops C jj Q plan.length listed a w
  | [], L, listed, a, w, hL, hB, hlb, hp, hz, hC, h => by
    cases L with
    | nil => exact ⟨hC, by simpa [planB] using hB, h⟩
    | cons q L => simp at hL
  | (i, al) :: r, L, listed, a, w, hL, hB, hlb, hp, hz, hC, h => by
    cases L with
    | nil => simp at hL
    | cons q L =>
      obtain ⟨o, i', al'⟩ := q
      simp only [List.map_cons, List.cons.injEq, Prod.mk.injEq] at hL
      obtain ⟨⟨ho, rfl, rfl⟩, hL'⟩ := hL
      simp only [planB, Bool.and_eq_true] at hB
      obtain ⟨⟨hr, hf⟩, hB'⟩ := hB
      have hr' : i ∈ Region.ready md ops listed := by simpa using hr
      have hz' : jj < (listed.setIfInBounds i true).size := by simpa using hz
      have hlj : listed.getD jj false = false := by
        cases hx : listed.getD jj false with
        | false => rfl
        | true => have := hp hx; cases this
      simp only [lastB, Bool.and_eq_true] at hlb
      have hp' : (listed.setIfInBounds i true).getD jj false = true → r = [] := fun hx => by
        by_cases e : i = jj
        · have h1 := hlb.1
          subst e
          simpa using h1
        · rw [getD_set_ne false e, hlj] at hx
          cases hx
      cases al with
      | true =>
        simp only [if_true, List.all_eq_true, beq_iff_eq] at hf
        obtain ⟨h1, h2⟩ := h
        refine ⟨hC, fun h0 => (by rw [h0] at hr'; cases hr'), fun j hj oj hoj => ?_⟩
        have hji := hf j hj
        subst hji
        rw [ho] at hoj
        cases hoj
        refine .inl ⟨h1, stepK_mono (fun u w' hk => any4_of_mix hs hwt r L _ _ w' hL' hB' hlb.2 hp' hz' (fun hx => hk.1 (fun e => ?_)) hk.2) h2⟩
        subst e
        simp [hz] at hx
      | false =>
        simp only [Bool.false_eq_true, if_false] at hf
        obtain ⟨hij, u, h2, h3⟩ := h
        exact first4 hwt hij ho (Region.noSelect_spec hs) r.length listed a w (Region.free_spec ho hf) hr' hlj h2 (any4_of_mix hs hwt r L _ _ w hL' hB' hlb.2 hp' hz' (fun hx => hC hlj) h3)
/-- One walk serves every order; the last operation waits for all others. -/
theorem wp_region_mix4 {id : Nat} {Q : Exit → Act → World → Prop} {a : Act} {w : World} {l : List Oper} (C : World → Prop) (jj : Nat) (plan : List (Nat × Bool)) (hm : P.follows .mixedOrders = true)
    (hB : (Region.noSelect l.toArray && planB .any l.toArray plan (Array.replicate l.length false) && lastB jj plan && waitsAll .any l.toArray jj && plan.length == l.length) = true) (hC : C w.drew)
    (h : mix4 P l.toArray C jj (fun a w => Q .normal a w) (plan.map fun p => (l.getD p.1 default, p.1, p.2)) a w.drew) (hin : (plan.all (fun p => p.1 < l.length) && decide (jj < l.length)) = true) : (Code.region id l.toArray true).wp P Q a w := by
  simp only [Bool.and_eq_true, beq_iff_eq, decide_eq_true_eq] at hB hin
  refine wp_region_any hm (any_of_4 (C := C) (jj := jj) (Q := fun a w => Q .normal a w) (fun _ _ h => h) _ _ _ _ ?_)
  have := any4_of_mix (C := C) (jj := jj) (md := .any) hB.1.1.1.1 hB.1.2 plan _ (Array.replicate l.length false) a w.drew (by
    rw [List.map_map]
    apply List.map_congr_left
    intro p hp
    have hlt : p.1 < l.length := by simpa using List.all_eq_true.1 hin.1 p hp
    simp [List.getD, List.getElem?_eq_getElem hlt]) hB.1.1.1.2 hB.1.1.2 (fun x => by simp [hin.2] at x) (by simpa using hin.2) (fun _ => hC) h
  rw [hB.2] at this
  simpa using this
variable {jj : Nat} {Q : Act → World → Prop}
theorem l_pure {o : Oper} {i : Nat} {r : List (Oper × Nat × Bool)} {a : Act} {w : World} (v : Value) (hij : i < jj) (hw : Region.wanted o (yielded ops a.tmps) = true) (h : ∀ w, C w → (execOp a.eval o).run P w = .ok (.value v) w) (hk : mix4 P ops C jj Q r (a.put o.dst v) w) : mix4 P ops C jj Q ((o, i, false) :: r) a w :=
  ⟨hij, v, .inl ⟨hw, fun w h1 => by unfold stepK; rw [h w h1]; exact ⟨rfl, rfl⟩⟩, hk⟩
/-- What is left out. -/
theorem l_skip {o : Oper} {i : Nat} {r : List (Oper × Nat × Bool)} {a : Act} {w : World} (hij : i < jj) (hw : Region.wanted o (yielded ops a.tmps) = false) (hk : mix4 P ops C jj Q r (a.put o.dst undef) w) : mix4 P ops C jj Q ((o, i, false) :: r) a w := ⟨hij, undef, .inr ⟨hw, rfl⟩, hk⟩
theorem l_call {o : Oper} {i : Nat} {r : List (Oper × Nat × Bool)} {a : Act} {w : World} (f : FuncId) (args : Array Value) (hw : Region.wanted o (yielded ops a.tmps) = true) (h : (execOp a.eval o).run P w = .ok (.enter f args) w)
    (hc : Calls P f args w (fun e w' => ∃ v, e = .returned v ∧ C w' ∧ mix4 P ops C jj Q r (a.put o.dst v) w')) : mix4 P ops C jj Q ((o, i, true) :: r) a w := by
  refine ⟨hw, ?_⟩
  unfold stepK
  rw [h]
  exact ⟨rfl, hc.mono fun e w' ⟨v, h1, h2, h3⟩ => ⟨v, h1, fun _ => h2, h3⟩⟩
theorem l_run {o : Oper} {i : Nat} {r : List (Oper × Nat × Bool)} {a : Act} {w w' : World} (v : Value) (hw : Region.wanted o (yielded ops a.tmps) = true) (h : (execOp a.eval o).run P w = .ok (.value v) w') (hC : C w') (hk : mix4 P ops C jj Q r (a.put o.dst v) w') : mix4 P ops C jj Q ((o, i, true) :: r) a w := by
  refine ⟨hw, ?_⟩
  unfold stepK
  rw [h]
  exact ⟨fun _ => hC, hk⟩
/-- The last one, a store. -/
theorem l_last {o : Oper} {a : Act} {w w' : World} (hw : Region.wanted o (yielded ops a.tmps) = true) (h : (execOp a.eval o).run P w = .ok .skip w') (hk : Q (a.put o.dst undef) w') : mix4 P ops C jj Q [(o, jj, true)] a w := by
  refine ⟨hw, ?_⟩
  unfold stepK
  rw [h]
  exact ⟨fun e => absurd rfl e, hk⟩
theorem unwanted_undef {ops : Array Oper} {a : Act} {o : Oper} (j d : Nat) (want : Bool) (hg : o.guard = some (j, want)) (hd : (ops[j]?).bind (·.dst) = some d) (hv : a.tmps[d]? = some undef) : Region.wanted o (yielded ops a.tmps) = false := by
  unfold Region.wanted yielded
  rw [hg]
  simp only [hd, Option.bind_some, hv]
  cases want <;> rfl
end

end Go.Proofs.Ytngjlkdpplmpaaa.Mx
namespace Go.Proofs.Ytngjlkdpplmpaaa.Mx
open Go.RowKit
set_option linter.unusedVariables false

section
variable {P : Program} {ops : Array Oper} {md : Region.Mode} {C : World → Prop}
/-- Operation n waits for operation i. -/
def waitsOne (md : Region.Mode) (ops : Array Oper) (n i : Nat) : Bool := (ops[n]?).any fun o => o.after.any fun e => Region.binds md e && e.on == i
def waitsP (md : Region.Mode) (ops : Array Oper) (n : Nat) (plan : List (Nat × Bool)) : Bool := plan.all fun p => p.2 || waitsOne md ops n p.1
theorem last_waits1 {n i : Nat} (h : waitsOne md ops n i = true) {listed : Array Bool} (hun : listed.getD i true = false) : n ∉ Region.ready md ops listed := by
  intro hr
  obtain ⟨_, o', ho', hall⟩ := mem_ready.1 hr
  unfold waitsOne at h
  rw [ho', Option.any_some, Array.any_eq_true] at h
  obtain ⟨j, hj, h2⟩ := h
  simp only [Bool.and_eq_true, beq_iff_eq] at h2
  have h1 := hall _ (Array.getElem_mem hj) h2.1
  rw [h2.2] at h1
  rcases Nat.lt_or_ge i listed.size with h' | h'
  · simp [h'] at hun h1; rw [hun] at h1; cases h1
  · simp [Array.getElem?_eq_none h'] at h1
theorem first5 {jj : Nat} {Q : Act → World → Prop} {i : Nat} {oi : Oper} {u : Value} (hwt : waitsOne md ops jj i = true) (hin : i < jj) (hi : ops[i]? = some oi) (hsel : ∀ (j : Nat) (o : Oper) cs b, ops[j]? = some o → o.op ≠ .select cs b) :
    ∀ (fuel : Nat) (listed : Array Bool) (a : Act) (w : World),
      (∀ j oj, ops[j]? = some oj → j ≠ i → listed.getD j true = false → (∀ e ∈ oj.after, Region.binds md e = true → e.on ≠ i) → oi.apart ops oj = true) →
      i ∈ Region.ready md ops listed → listed.getD jj false = false → ((Region.wanted oi (yielded ops a.tmps) = true ∧ ∀ w, C w → stepK P oi a w (fun u' w' => u' = u ∧ w' = w)) ∨ (Region.wanted oi (yielded ops a.tmps) = false ∧ u = undef)) →
      wpAny4 P md ops C jj Q fuel (listed.setIfInBounds i true) (a.put oi.dst u) w → wpAny4 P md ops C jj Q (fuel + 1) listed a w := by
  have hij : i ≠ jj := by omega
  intro fuel
  induction fuel with
  | zero =>
    intro listed a w hfree hr hlj hst h
    have hc : C w := h.1 (by rw [getD_set_ne false hij]; exact hlj)
    refine ⟨fun _ => hc, fun h0 => (by rw [h0] at hr; cases hr), fun j hj o ho => ?_⟩
    by_cases hji : j = i
    · subst hji
      rw [hi] at ho
      cases ho
      rcases hst with ⟨hw, hst⟩ | ⟨hw, hu⟩
      · exact .inl ⟨hw, stepK_mono (fun u' w' hu => by rw [hu.1, hu.2]; exact h) (hst w hc)⟩
      · exact .inr ⟨hw, by rw [← hu]; exact h⟩
    · have := ready_mono hj hji
      rw [h.2.1] at this
      cases this
  | succ fuel ih =>
    intro listed a w hfree hr hlj hst h
    have hc : C w := h.1 (by rw [getD_set_ne false hij]; exact hlj)
    refine ⟨fun _ => hc, fun h0 => (by rw [h0] at hr; cases hr), fun j hj oj hoj => ?_⟩
    by_cases hji : j = i
    · subst hji
      rw [hi] at hoj
      cases hoj
      rcases hst with ⟨hw, hst⟩ | ⟨hw, hu⟩
      · exact .inl ⟨hw, stepK_mono (fun u' w' hu => by rw [hu.1, hu.2]; exact h) (hst w hc)⟩
      · exact .inr ⟨hw, by rw [← hu]; exact h⟩
    · obtain ⟨hjun, oj', hoj', hall⟩ := mem_ready.1 hj
      rw [hoj] at hoj'
      cases hoj'
      have hjj : j ≠ jj := fun e => last_waits1 hwt (mem_ready.1 hr).1 (e ▸ hj)
      have hnot : ∀ e ∈ oj.after, Region.binds md e = true → e.on ≠ i := fun e he hb heq => by
        have h1 := hall e he hb
        have h0 := (mem_ready.1 hr).1
        rw [heq] at h1
        rcases Nat.lt_or_ge i listed.size with h' | h'
        · simp [h'] at h0 h1; rw [h0] at h1; cases h1
        · simp [Array.getElem?_eq_none h'] at h1
      obtain ⟨p1, p2, p3⟩ := Oper.apart_spec (hfree j oj hoj hji hjun hnot)
      have hfree' : ∀ k ok, ops[k]? = some ok → k ≠ i → (listed.setIfInBounds j true).getD k true = false →
          (∀ e ∈ ok.after, Region.binds md e = true → e.on ≠ i) → oi.apart ops ok = true := fun k ok hk hki hun hno => by
        refine hfree k ok hk hki ?_ hno
        by_cases hjk : j = k
        · subst hjk; exact hjun
        · rw [getD_set_ne true hjk] at hun; exact hun
      have next : ∀ (v : Value) (w' : World), wpAny4 P md ops C jj Q fuel ((listed.setIfInBounds i true).setIfInBounds j true) ((a.put oi.dst u).put oj.dst v) w' → wpAny4 P md ops C jj Q (fuel + 1) (listed.setIfInBounds j true) (a.put oj.dst v) w' := fun v w' hk => by
        refine ih (listed.setIfInBounds j true) (a.put oj.dst v) w' hfree' (ready_mono hr (Ne.symm hji)) (by rw [getD_set_ne false hjj]; exact hlj) ?_ ?_
        · rw [wanted_put oi a oj.dst v p3]
          rcases hst with ⟨hw, hst⟩ | hst
          · refine .inl ⟨hw, fun w hw => ?_⟩
            have := hst w hw
            unfold stepK at this ⊢
            rw [execOp_put oi (fun cs b => hsel i oi cs b hi) a oj.dst v p3]
            exact this
          · exact .inr hst
        · rw [Array.setIfInBounds_comm _ _ hji, ← Act.put_comm a u v p2]
          exact hk
      rcases h.2.2 j (ready_mono hj hji) oj hoj with ⟨h1, h2⟩ | ⟨h1, h2⟩
      · refine .inl ⟨by rw [wanted_put oj a oi.dst u p1] at h1; exact h1, ?_⟩
        unfold stepK at h2 ⊢
        rw [execOp_put oj (fun cs b => hsel j oj cs b hoj) a oi.dst u p1] at h2
        exact stepK_mono (o := oj) (a := a) (w := w) (fun v w' hk => next v w' hk) h2
      · exact .inr ⟨by rw [wanted_put oj a oi.dst u p1] at h1; exact h1, next undef w h2⟩
theorem any5_of_mix {jj : Nat} {Q : Act → World → Prop} (hs : Region.noSelect ops = true) : ∀ (plan : List (Nat × Bool)) (L : List (Oper × Nat × Bool)) (listed : Array Bool) (a : Act) (w : World), plan.map (fun p => (ops[p.1]?, p.1, p.2)) = L.map (fun q => (some q.1, q.2.1, q.2.2)) →
    planB md ops plan listed = true → waitsP md ops jj plan = true → lastB jj plan = true → (listed.getD jj false = true → plan = []) → jj < listed.size → (listed.getD jj false = false → C w) → mix4 P ops C jj Q L a w → wpAny4 P md ops C jj Q plan.length listed a w
  | [], L, listed, a, w, hL, hB, hwt, hlb, hp, hz, hC, h => by
    cases L with
    | nil => exact ⟨hC, by simpa [planB] using hB, h⟩
    | cons q L => simp at hL
  | (i, al) :: r, L, listed, a, w, hL, hB, hwt, hlb, hp, hz, hC, h => by
    cases L with
    | nil => simp at hL
    | cons q L =>
      obtain ⟨o, i', al'⟩ := q
      simp only [List.map_cons, List.cons.injEq, Prod.mk.injEq] at hL
      obtain ⟨⟨ho, rfl, rfl⟩, hL'⟩ := hL
      simp only [planB, Bool.and_eq_true] at hB
      obtain ⟨⟨hr, hf⟩, hB'⟩ := hB
      have hr' : i ∈ Region.ready md ops listed := by simpa using hr
      have hz' : jj < (listed.setIfInBounds i true).size := by simpa using hz
      have hlj : listed.getD jj false = false := by
        cases hx : listed.getD jj false with
        | false => rfl
        | true => have := hp hx; cases this
      simp only [lastB, Bool.and_eq_true] at hlb
      simp only [waitsP, List.all_cons, Bool.and_eq_true] at hwt
      have hp' : (listed.setIfInBounds i true).getD jj false = true → r = [] := fun hx => by
        by_cases e : i = jj
        · have h1 := hlb.1
          subst e
          simpa using h1
        · rw [getD_set_ne false e, hlj] at hx
          cases hx
      cases al with
      | true =>
        simp only [if_true, List.all_eq_true, beq_iff_eq] at hf
        obtain ⟨h1, h2⟩ := h
        refine ⟨hC, fun h0 => (by rw [h0] at hr'; cases hr'), fun j hj oj hoj => ?_⟩
        have hji := hf j hj
        subst hji
        rw [ho] at hoj
        cases hoj
        refine .inl ⟨h1, stepK_mono (fun u w' hk => any5_of_mix hs r L _ _ w' hL' hB' hwt.2 hlb.2 hp' hz' (fun hx => hk.1 (fun e => ?_)) hk.2) h2⟩
        subst e
        simp [hz] at hx
      | false =>
        simp only [Bool.false_eq_true, if_false] at hf
        obtain ⟨hij, u, h2, h3⟩ := h
        exact first5 (by simpa using hwt.1) hij ho (Region.noSelect_spec hs) r.length listed a w (Region.free_spec ho hf) hr' hlj h2 (any5_of_mix hs r L _ _ w hL' hB' hwt.2 hlb.2 hp' hz' (fun hx => hC hlj) h3)
/-- One walk serves every order; the last operation waits for all others. -/
theorem wp_region_mix5 {id : Nat} {Q : Exit → Act → World → Prop} {a : Act} {w : World} {l : List Oper} (C : World → Prop) (jj : Nat) (plan : List (Nat × Bool)) (hm : P.follows .mixedOrders = true)
    (hB : (Region.noSelect l.toArray && planB .any l.toArray plan (Array.replicate l.length false) && lastB jj plan && waitsP .any l.toArray jj plan && plan.length == l.length) = true) (hC : C w.drew)
    (h : mix4 P l.toArray C jj (fun a w => Q .normal a w) (plan.map fun p => (l.getD p.1 default, p.1, p.2)) a w.drew) (hin : (plan.all (fun p => p.1 < l.length) && decide (jj < l.length)) = true) : (Code.region id l.toArray true).wp P Q a w := by
  simp only [Bool.and_eq_true, beq_iff_eq, decide_eq_true_eq] at hB hin
  refine wp_region_any hm (any_of_4 (C := C) (jj := jj) (Q := fun a w => Q .normal a w) (fun _ _ h => h) _ _ _ _ ?_)
  have := any5_of_mix (C := C) (jj := jj) (md := .any) hB.1.1.1.1 plan _ (Array.replicate l.length false) a w.drew (by
    rw [List.map_map]
    apply List.map_congr_left
    intro p hp
    have hlt : p.1 < l.length := by simpa using List.all_eq_true.1 hin.1 p hp
    simp [List.getD, List.getElem?_eq_getElem hlt]) hB.1.1.1.2 hB.1.2 hB.1.1.2 (fun x => by simp [hin.2] at x) (by simpa using hin.2) (fun _ => hC) h
  rw [hB.2] at this
  simpa using this
end

end Go.Proofs.Ytngjlkdpplmpaaa.Mx
namespace Go.Proofs.Ytngjlkdpplmpaaa.Ca
open Go.RowKit Wd Cn Vl
set_option linter.unusedVariables false

def mkA (id : ByteArray) (p : Nat) (x y : Value) : Array Value := #[.string id, .pointer (some ⟨p, 0, none⟩), x, y]
theorem twoA (id : ByteArray) (p : Nat) : Two (mkA id p) := ⟨fun _ _ => rfl, fun _ _ => rfl, fun _ _ _ => rfl, fun _ _ _ => rfl⟩
/-- The program's walk in memory. -/
def StA (w0 w : World) (a : Nat) (id : ByteArray) (p : Nat) (F : List Fl) (W : List Wt) : Prop := St w0 w a 91 (mkA id p) F W
theorem infoFl : (Try.prog.info? 46).map (fun i => (i.zero, i.size, i.bytes)) = some (some (.agg #[.int .i64 0, .string ByteArray.empty, .int .i64 0]), 3, 32) := by kernel_rfl
theorem infoWt : (Try.prog.info? 43).map (fun i => (i.zero, i.size, i.bytes)) = some (some (.agg #[.bool false, .string ByteArray.empty, .string ByteArray.empty, .int .i64 0, .int .i64 0]), 5, 56) := by kernel_rfl

/-- A payment more behind the row: what the builtin answers, and what stands behind the store. -/
theorem AIn.pushF {w : World} {B a : Nat} {T : TypeId} {mk : Value → Value → Array Value} {F : List Fl} {W : List Wt} {vF vW : Value} (h : AIn w B a T mk F W vF vW) (hm : Two mk) (hT1 : T ≠ 46) (hT2 : T ≠ 43) (hB : B ≤ w.heap.size) (hl : F.length ≤ 100000) (x : Fl) (ab : Nat) (hc : w.heap[ab]? = some (.cells #[.int .i64 x.day, .string x.cur, .int .i64 x.amt] 46)) (ty : TypeId) :
    ∃ v' w', (Builtin.append_ #[37, 37] ty #[vF, .slice (some ⟨ab, 0, none⟩) 1 1]).run Try.prog w = .ok v' w' ∧ w'.cell? ⟨a, 2, none⟩ = some vF ∧ w'.frozen? ⟨a, 2, none⟩ = false ∧ (∃ ao cap, v' = .slice ao (F.length + 1) cap) ∧ w.grownBy w' vF.ownBlock ∧
      AIn (w'.setCell ⟨a, 2, none⟩ v') B a T mk (F ++ [x]) W v' vW ∧ Below B w (w'.setCell ⟨a, 2, none⟩ v') := by
  obtain ⟨i0, hi, hz⟩ := Option.map_eq_some_iff.1 infoFl
  simp only [Prod.mk.injEq] at hz
  obtain ⟨hz0, hz1, hz2⟩ := hz
  obtain ⟨v', w', hr, ho, hg, _⟩ := run_append_own (P := Try.prog) w B 37 ty 46 i0 (.agg #[.int .i64 0, .string ByteArray.empty, .int .i64 0]) 3 32 Try.underlying37 hi hz0 hz1 hz2 rfl (by decide) vF F.length (rowFl F) h.rf ⟨ab, 0, none⟩ 1 1 x.cells rfl
    (by
      intro j u hj
      rw [Addr.add_lit, Nat.zero_add, cell_of_row _ _ _ _ _ _ hc]
      simpa [Fl.cells] using hj)
    (by
      intro u hu
      simp [Fl.cells] at hu
      rcases hu with rfl | rfl | rfl <;> rfl) (by unfold maxLen; omega) (by omega) hB
  have ha : a < w.heap.size := (Array.getElem?_eq_some_iff.1 h.blk).1
  have hb1 : w'.heap[a]? = some (.cells (mk vF vW) T) := (hg.block a ha (fun e => h.neF hT1 e.symm)).trans h.blk
  obtain ⟨k1, k2⟩ := h.addF hm hT1 hT2 hB x ho hg
  exact ⟨v', w', hr, cell_blk hb1 (hm.g2 _ _), frozen_of_row w' a 2 _ _ hb1, row_shape ho, hg, k1, k2⟩
/-- A wait more behind the row: what the builtin answers, and what stands behind the store. -/
theorem AIn.pushW {w : World} {B a : Nat} {T : TypeId} {mk : Value → Value → Array Value} {F : List Fl} {W : List Wt} {vF vW : Value} (h : AIn w B a T mk F W vF vW) (hm : Two mk) (hT1 : T ≠ 46) (hT2 : T ≠ 43) (hB : B ≤ w.heap.size) (hl : W.length ≤ 100000) (x : Wt) (ab : Nat) (hc : w.heap[ab]? = some (.cells #[.bool x.ch, .string x.name, .string x.label, .int .i64 x.day, .int .i64 x.side] 43)) (ty : TypeId) :
    ∃ v' w', (Builtin.append_ #[38, 38] ty #[vW, .slice (some ⟨ab, 0, none⟩) 1 1]).run Try.prog w = .ok v' w' ∧ w'.cell? ⟨a, 3, none⟩ = some vW ∧ w'.frozen? ⟨a, 3, none⟩ = false ∧ (∃ ao cap, v' = .slice ao (W.length + 1) cap) ∧ w.grownBy w' vW.ownBlock ∧
      AIn (w'.setCell ⟨a, 3, none⟩ v') B a T mk F (W ++ [x]) vF v' ∧ Below B w (w'.setCell ⟨a, 3, none⟩ v') := by
  obtain ⟨i0, hi, hz⟩ := Option.map_eq_some_iff.1 infoWt
  simp only [Prod.mk.injEq] at hz
  obtain ⟨hz0, hz1, hz2⟩ := hz
  obtain ⟨v', w', hr, ho, hg, _⟩ := run_append_own (P := Try.prog) w B 38 ty 43 i0 (.agg #[.bool false, .string ByteArray.empty, .string ByteArray.empty, .int .i64 0, .int .i64 0]) 5 56 Try.underlying38 hi hz0 hz1 hz2 rfl (by decide) vW W.length (rowWt W) h.rw' ⟨ab, 0, none⟩ 1 1 x.cells rfl
    (by
      intro j u hj
      rw [Addr.add_lit, Nat.zero_add, cell_of_row _ _ _ _ _ _ hc]
      simpa [Wt.cells] using hj)
    (by
      intro u hu
      simp [Wt.cells] at hu
      rcases hu with rfl | rfl | rfl | rfl | rfl <;> rfl) (by unfold maxLen; omega) (by omega) hB
  have ha : a < w.heap.size := (Array.getElem?_eq_some_iff.1 h.blk).1
  have hb1 : w'.heap[a]? = some (.cells (mk vF vW) T) := (hg.block a ha (fun e => h.neW hT2 e.symm)).trans h.blk
  obtain ⟨k1, k2⟩ := h.addW hm hT1 hT2 hB x ho hg
  exact ⟨v', w', hr, cell_blk hb1 (hm.g3 _ _), frozen_of_row w' a 3 _ _ hb1, row_shape ho, hg, k1, k2⟩

set_option maxHeartbeats 2000000 in
set_option maxRecDepth 100000 in
theorem wait_any (w0 w : World) (a : Nat) (id : ByteArray) (p : Nat) (F : List Fl) (W : List Wt) (h : StA w0 w a id p F W) (hl : W.length ≤ 100000) (y : Wt) :
    Calls Try.prog 78 #[.pointer (some ⟨a, 0, none⟩), y.val] w fun e w' => e = .returned (.tuple #[]) ∧ StA w0 w' a id p F (putW W y) ∧ Kept a w w' := by
  obtain ⟨⟨vF, vW, hin⟩, hb0⟩ := h
  have HB0 := hidC hb0
  have HR := hidC (hin.below (below_alloc (Below.refl w.heap.size w) (.cells #[.bool y.ch, .string y.name, .string y.label, .int .i64 y.day, .int .i64 y.side] 43)))
  have HBA := hidC (below_alloc (Below.refl w.heap.size w) (.cells #[.bool y.ch, .string y.name, .string y.label, .int .i64 y.day, .int .i64 y.side] 43))
  have HY := hidC (heap_alloc_new w (.cells #[.bool y.ch, .string y.name, .string y.label, .int .i64 y.day, .int .i64 y.side] 43))
  have HLT := hidC (fun k (hk : vW.ownBlock = some k) => (hin.rw'.lt k hk).2)
  clear hin hb0
  obtain ⟨ao, cap, rfl, hw⟩ := own_wts HR.out.rw'
  have HW := hidC hw
  clear hw
  unfold Wt.val
  go_enter Try.func78, Try.ntmps78
  go_wp2_with fail
  generalize w.alloc (.cells #[.bool y.ch, .string y.name, .string y.label, .int .i64 y.day, .int .i64 y.side] 43) = V at *
  have HBV := hidC (below_drew (Below.refl V.heap.size V))
  have HF : Hid (∀ w', Below V.heap.size V w' → w'.cell? ⟨a, 3, none⟩ = some (.slice ao W.length cap) ∧ w'.cell? ⟨w.heap.size, 0, none⟩ = some (.bool y.ch) ∧ w'.cell? ⟨w.heap.size, 1, none⟩ = some (.string y.name) ∧ w'.cell? ⟨w.heap.size, 2, none⟩ = some (.string y.label) ∧ w'.cell? ⟨w.heap.size, 3, none⟩ = some (.int .i64 y.day) ∧ w'.cell? ⟨w.heap.size, 4, none⟩ = some (.int .i64 y.side)) := fun w' hw' => by
    have hb := (hw'.block _ (Array.getElem?_eq_some_iff.1 HY.out).1).trans HY.out
    exact ⟨(HR.out.below hw').cell3 (twoA id p), cell_of_row _ _ 0 _ _ _ hb, cell_of_row _ _ 1 _ _ _ hb, cell_of_row _ _ 2 _ _ _ hb, cell_of_row _ _ 3 _ _ _ hb, cell_of_row _ _ 4 _ _ _ hb⟩
  refine Mx.wp_region_mix (fun w' => Below V.heap.size V w') [(0, false), (1, false), (2, false), (3, false), (4, false), (5, true), (6, false)] (by kernel_rfl) (by kernel_rfl) HBV.out ?_ (by kernel_rfl)
  simp only [List.map_cons, List.map_nil, List.getD_cons_zero, List.getD_cons_succ]
  generalize hops : (#[_, _, _, _, _, _, _] : Array Oper) = ops
  clear hops
  refine Mx.m_pure (.pointer (some ⟨a, 0, none⟩)) (Mx.wanted_none rfl) (fun w' hw' => ?_) ?_
  · go_simp
  simp only [Act.put, List.setIfInBounds_toArray, List.set_cons_zero, List.set_cons_succ]
  refine Mx.m_pure (.pointer (some ⟨a, 0, none⟩)) (Mx.wanted_none rfl) (fun w' hw' => ?_) ?_
  · go_simp
  simp only [Act.put, List.setIfInBounds_toArray, List.set_cons_zero, List.set_cons_succ]
  refine Mx.m_pure (.pointer (some ⟨a, 3, none⟩)) (Mx.wanted_none rfl) (fun w' hw' => ?_) ?_
  · go_simp
  simp only [Act.put, List.setIfInBounds_toArray, List.set_cons_zero, List.set_cons_succ]
  refine Mx.m_pure (.slice ao W.length cap) (Mx.wanted_none rfl) (fun w' hw' => ?_) ?_
  · obtain ⟨q0, q1, q2, q3, q4, q5⟩ := HF.out w' hw'
    go_simp
  simp only [Act.put, List.setIfInBounds_toArray, List.set_cons_zero, List.set_cons_succ]
  refine Mx.m_pure (.agg #[.bool y.ch, .string y.name, .string y.label, .int .i64 y.day, .int .i64 y.side]) (Mx.wanted_none rfl) (fun w' hw' => ?_) ?_
  · obtain ⟨q0, q1, q2, q3, q4, q5⟩ := HF.out w' hw'
    go_simp
  simp only [Act.put, List.setIfInBounds_toArray, List.set_cons_zero, List.set_cons_succ]
  refine Mx.m_call 95 #[.slice ao W.length cap, y.val] (Mx.wanted_none rfl) ?_ ?_
  · unfold Wt.val
    go_simp
  refine (contains_any _ ao cap W (HW.out.below HBV.out) (by omega) y).mono ?_
  rintro e w1 ⟨rfl, hb⟩
  have HV1 := hidC (HBV.out.trans (hb.mono HBV.out.size))
  refine ⟨_, rfl, HV1.out, ?_⟩
  clear hb
  simp only [Act.put, List.setIfInBounds_toArray, List.set_cons_zero, List.set_cons_succ]
  refine Mx.m_pure (.bool (!decide (y ∈ W))) (Mx.wanted_none rfl) (fun w' hw' => ?_) ?_
  · go_simp
  simp only [Act.put, List.setIfInBounds_toArray, List.set_cons_zero, List.set_cons_succ]
  refine Mx.m_nil (fun _ => ?_)
  have HB1 := hidC (HBA.out.trans (HV1.out.mono HBA.out.size))
  by_cases hy : y ∈ W
  · have HP : Hid (putW W y = W) := by unfold Hid putW; rw [if_pos hy]
    rw [decide_eq_true hy]
    clear hy
    go_wp2_with fail
    go_end0
    rw [HP.out]
    exact ⟨rfl, ⟨⟨_, _, HR.out.below HV1.out⟩, HB0.out.trans (HB1.out.mono HB0.out.size)⟩, Kept.of_below HB1.out⟩
  · have HP : Hid (putW W y = W ++ [y]) := by unfold Hid putW; rw [if_neg hy]
    rw [decide_eq_false hy]
    clear hy
    go_wp2_with fail
    have HD := hidC (HV1.out.trans ((below_drew (Below.refl w1.heap.size w1)).mono HV1.out.size))
    have HRD := hidC (HR.out.below HD.out)
    have HYD : Hid (w1.drew.heap[w.heap.size]? = some (.cells #[.bool y.ch, .string y.name, .string y.label, .int .i64 y.day, .int .i64 y.side] 43)) := (HD.out.block _ (Array.getElem?_eq_some_iff.1 HY.out).1).trans HY.out
    have HB2 : Hid (Below w.heap.size w w1.drew) := HBA.out.trans (HD.out.mono HBA.out.size)
    have HFC : Hid (∀ w' : World, (w'.cell? ⟨a, 3, none⟩ = some (.slice ao W.length cap) ∧ w'.heap[w.heap.size]? = some (.cells #[.bool y.ch, .string y.name, .string y.label, .int .i64 y.day, .int .i64 y.side] 43)) → w'.cell? ⟨a, 3, none⟩ = some (.slice ao W.length cap) ∧ w'.cell? ⟨w.heap.size, 0, none⟩ = some (.bool y.ch) ∧ w'.cell? ⟨w.heap.size, 1, none⟩ = some (.string y.name) ∧ w'.cell? ⟨w.heap.size, 2, none⟩ = some (.string y.label) ∧ w'.cell? ⟨w.heap.size, 3, none⟩ = some (.int .i64 y.day) ∧ w'.cell? ⟨w.heap.size, 4, none⟩ = some (.int .i64 y.side)) := fun w' hw' =>
      ⟨hw'.1, cell_of_row _ _ 0 _ _ _ hw'.2, cell_of_row _ _ 1 _ _ _ hw'.2, cell_of_row _ _ 2 _ _ _ hw'.2, cell_of_row _ _ 3 _ _ _ hw'.2, cell_of_row _ _ 4 _ _ _ hw'.2⟩
    refine Mx.wp_region_mix5 (fun w' => w'.cell? ⟨a, 3, none⟩ = some (.slice ao W.length cap) ∧ w'.heap[w.heap.size]? = some (.cells #[.bool y.ch, .string y.name, .string y.label, .int .i64 y.day, .int .i64 y.side] 43)) 10 [(0, false), (1, false), (2, false), (3, false), (4, false), (5, false), (6, true), (7, true), (8, true), (9, true), (10, true)] (by kernel_rfl) (by kernel_rfl) ⟨HRD.out.cell3 (twoA id p), HYD.out⟩ ?_ (by kernel_rfl)
    simp only [List.map_cons, List.map_nil, List.getD_cons_zero, List.getD_cons_succ]
    generalize hops : (#[_, _, _, _, _, _, _, _, _, _, _] : Array Oper) = ops
    clear hops
    refine Mx.l_pure (.pointer (some ⟨a, 0, none⟩)) (by decide) (Mx.wanted_none rfl) (fun w' hw' => ?_) ?_
    · go_simp
    simp only [Act.put, List.setIfInBounds_toArray, List.set_cons_zero, List.set_cons_succ]
    refine Mx.l_pure (.pointer (some ⟨a, 0, none⟩)) (by decide) (Mx.wanted_none rfl) (fun w' hw' => ?_) ?_
    · go_simp
    simp only [Act.put, List.setIfInBounds_toArray, List.set_cons_zero, List.set_cons_succ]
    refine Mx.l_pure (.pointer (some ⟨a, 0, none⟩)) (by decide) (Mx.wanted_none rfl) (fun w' hw' => ?_) ?_
    · go_simp
    simp only [Act.put, List.setIfInBounds_toArray, List.set_cons_zero, List.set_cons_succ]
    refine Mx.l_pure (.pointer (some ⟨a, 3, none⟩)) (by decide) (Mx.wanted_none rfl) (fun w' hw' => ?_) ?_
    · go_simp
    simp only [Act.put, List.setIfInBounds_toArray, List.set_cons_zero, List.set_cons_succ]
    refine Mx.l_pure (.slice ao W.length cap) (by decide) (Mx.wanted_none rfl) (fun w' hw' => ?_) ?_
    · obtain ⟨q0, q1, q2, q3, q4, q5⟩ := HFC.out w' hw'
      go_simp
    simp only [Act.put, List.setIfInBounds_toArray, List.set_cons_zero, List.set_cons_succ]
    refine Mx.l_pure (.agg #[.bool y.ch, .string y.name, .string y.label, .int .i64 y.day, .int .i64 y.side]) (by decide) (Mx.wanted_none rfl) (fun w' hw' => ?_) ?_
    · obtain ⟨q0, q1, q2, q3, q4, q5⟩ := HFC.out w' hw'
      go_simp
    simp only [Act.put, List.setIfInBounds_toArray, List.set_cons_zero, List.set_cons_succ]
    generalize hX : w1.drew = X at *
    clear hX
    have HB3 := hidC (below_alloc (Below.refl X.heap.size X) (.cells #[.bool y.ch, .string y.name, .string y.label, .int .i64 y.day, .int .i64 y.side] 43))
    have HRA := hidC (HRD.out.below HB3.out)
    have HYA : Hid ((X.alloc (.cells #[.bool y.ch, .string y.name, .string y.label, .int .i64 y.day, .int .i64 y.side] 43)).heap[w.heap.size]? = some (.cells #[.bool y.ch, .string y.name, .string y.label, .int .i64 y.day, .int .i64 y.side] 43)) := (HB3.out.block _ (Array.getElem?_eq_some_iff.1 HYD.out).1).trans HYD.out
    refine Mx.l_run (.slice (some ⟨X.heap.size, 0, none⟩) 1 1) (Mx.wanted_none rfl) (w' := X.alloc (.cells #[.bool y.ch, .string y.name, .string y.label, .int .i64 y.day, .int .i64 y.side] 43)) ?_ ⟨HRA.out.cell3 (twoA id p), HYA.out⟩ ?_
    · go_simp
    simp only [Act.put, List.setIfInBounds_toArray, List.set_cons_zero, List.set_cons_succ]
    have hB0 : w0.heap.size ≤ (X.alloc (.cells #[.bool y.ch, .string y.name, .string y.label, .int .i64 y.day, .int .i64 y.side] 43)).heap.size := Nat.le_trans HB0.out.size (Nat.le_trans HB2.out.size HB3.out.size)
    obtain ⟨v', w4, hrun, hc3, hf3, ⟨ao2, cap2, hv'⟩, hg, k1, k2⟩ := HRA.out.pushW (twoA id p) (by decide) (by decide) hB0 hl y X.heap.size (heap_alloc_new _ _) 38
    have HK1 := hidC k1
    have HK2 := hidC k2
    have HKP : Hid (Kept a (X.alloc (.cells #[.bool y.ch, .string y.name, .string y.label, .int .i64 y.day, .int .i64 y.side] 43)) (w4.setCell ⟨a, 3, none⟩ v')) := Kept.grown HRA.out.rw' (.inr rfl) hg
    have HY4 : Hid (w4.heap[w.heap.size]? = some (.cells #[.bool y.ch, .string y.name, .string y.label, .int .i64 y.day, .int .i64 y.side] 43)) := (hg.block _ (Array.getElem?_eq_some_iff.1 HYA.out).1 (fun e => by have := HLT.out _ e.symm; omega)).trans HYA.out
    clear hg k1 k2
    generalize X.alloc (.cells #[.bool y.ch, .string y.name, .string y.label, .int .i64 y.day, .int .i64 y.side] 43) = w3 at *
    refine Mx.l_run v' (Mx.wanted_none rfl) (w' := w4) ?_ ⟨hc3, HY4.out⟩ ?_
    · simp [execOp, resolve, invoke, builtin, Act.eval, hrun]
    clear hrun
    subst hv'
    simp only [Act.put, List.setIfInBounds_toArray, List.set_cons_zero, List.set_cons_succ]
    refine Mx.l_run (.pointer (some ⟨a, 0, none⟩)) (Mx.wanted_none rfl) (w' := w4) ?_ ⟨hc3, HY4.out⟩ ?_
    · go_simp
    simp only [Act.put, List.setIfInBounds_toArray, List.set_cons_zero, List.set_cons_succ]
    refine Mx.l_run (.pointer (some ⟨a, 3, none⟩)) (Mx.wanted_none rfl) (w' := w4) ?_ ⟨hc3, HY4.out⟩ ?_
    · go_simp
    simp only [Act.put, List.setIfInBounds_toArray, List.set_cons_zero, List.set_cons_succ]
    refine Mx.l_last (w' := w4.setCell ⟨a, 3, none⟩ (.slice ao2 (W.length + 1) cap2)) (Mx.wanted_none rfl) ?_ ?_
    · go_simp
    simp only [Act.put]
    generalize w4.setCell ⟨a, 3, none⟩ (.slice ao2 (W.length + 1) cap2) = w5 at *
    clear hc3 hf3
    go_wp2_with fail
    go_end0
    rw [HP.out]
    have h1 : Below w.heap.size w w3 := HB2.out.trans (HB3.out.mono HB2.out.size)
    exact ⟨rfl, ⟨⟨_, _, HK1.out⟩, (HB0.out.trans (h1.mono HB0.out.size)).trans HK2.out⟩, (Kept.of_below h1).trans HKP.out⟩

end Go.Proofs.Ytngjlkdpplmpaaa.Ca
namespace Go.Proofs.Ytngjlkdpplmpaaa.Ca
open Go.RowKit Wd Cn Vl
set_option linter.unusedVariables false

/-- What a walk knows: the program's world in memory, what is known, the contract's name. -/
structure Env (w0 : World) (p f c : Nat) (K : KW) (id : ByteArray) : Prop where
  kin : KIn w0 p f c K
  vals : KW.Vals K
  chs : KW.Chs K
  idl : id.size ≤ 1000000
def numW (K : KW) (d : Int) (o : O) : List Wt := if (rk K d o).e ≠ 0 then [] else if (rk K d o).known = true then [] else waitN K d o
theorem addW_snoc (W ys : List Wt) (y : Wt) : addW W (ys ++ [y]) = putW (addW W ys) y := by rw [addW_app]; rfl
theorem chk_sz {o : O} (h : chk o = 0) : formB o = true ∧ o.nodes ≤ 60 := by
  unfold chk at h
  split at h
  · rename_i h1
    split at h
    · cases h
    · exact ⟨h1, by omega⟩
  · cases h

set_option maxHeartbeats 2000000 in
set_option maxRecDepth 100000 in
theorem number_any {w0 : World} {p f c : Nat} {K : KW} {id : ByteArray} (hE : Env w0 p f c K id) (w : World) (a : Nat) (F : List Fl) (W : List Wt) (h : StA w0 w a id p F W) (hl : W.length ≤ 60000) (o : O) (hok : o.Ok) (hc : chk o = 0) (d : Int) (hd : dayOk d) :
    Calls Try.prog 80 #[.pointer (some ⟨a, 0, none⟩), o.val, .int .i64 d] w fun e w' => e = ofE (rk K d o) ∧ StA w0 w' a id p F (addW W (numW K d o)) ∧ Kept a w w' := by
  obtain ⟨hf, hnd⟩ := chk_sz hc
  have HK := hidC hE.kin
  have HG := hidC (rk_good hE.vals d o hf)
  have HS := hidC h
  obtain ⟨⟨vF, vW, hin⟩, hb0⟩ := h
  have HB0 := hidC hb0
  have c1 : w.cell? ⟨a, 1, none⟩ = some (.pointer (some ⟨p, 0, none⟩)) := cell_blk hin.blk rfl
  have HC1 : Hid (∀ w', Below w.heap.size w w' → w'.cell? ⟨a, 1, none⟩ = some (.pointer (some ⟨p, 0, none⟩))) := fun w' hw' => cell_blk (hin.below hw').blk rfl
  have HOF : Hid (ofR K d o = rk K d o) := Vl.ofR_ok hc
  have HNE : Hid (needR K d o = lackN K d o.names) := by unfold Hid needR; rw [if_pos hc]
  have HLEN := hidC (lackN_len K d o)
  have HOK := hidC hok
  clear hin hb0 hE
  go_enter Try.func80, Try.ntmps80
  go_wp2_with fail
  refine (of_any o hok (by omega) w p f c K d (HK.out.below HB0.out) hd).mono ?_
  rintro e w1 ⟨rfl, hb1⟩
  have HB1 := hidC hb1
  have HS1 := hidC (HS.out.step hb1)
  have c1' := HC1.out w1 hb1
  rw [HOF.out]
  unfold ofE
  clear hb1 c1 hok
  by_cases he : (rk K d o).e = 0
  · by_cases hk : (rk K d o).known = true
    · have HN : Hid (numW K d o = []) := by unfold Hid numW; rw [if_neg (by simpa using he), if_pos hk]
      have HX : Hid (ofE (rk K d o) = Ending.returned (.tuple #[.int .i64 (rk K d o).n, .bool true, .int .i64 0])) := by unfold Hid ofE; rw [he, hk]
      rw [he, hk]
      generalize (rk K d o).n = n at *
      go_wp2_with fail
      go_ret3
      rw [HX.out, HN.out]
      exact ⟨rfl, HS1.out, Kept.of_below HB1.out⟩
    · have HN : Hid (numW K d o = waitN K d o) := by unfold Hid numW; rw [if_neg (by simpa using he), if_neg hk]
      have hk' : (rk K d o).known = false := by simpa using hk
      have hn0 := HG.out.unk hk'
      have HX : Hid (ofE (rk K d o) = Ending.returned (.tuple #[.int .i64 0, .bool false, .int .i64 0])) := by unfold Hid ofE; rw [he, hk', hn0]
      rw [he, hk', hn0]
      clear he hk hk' hn0 HG
      go_wp2_with fail
      refine (needs_any o HOK.out (by omega) w1 p f c K d ((HK.out.below HB0.out).below HB1.out) hd).mono ?_
      rintro e w2 ⟨v2, rfl, hown, hb2⟩
      rw [HNE.out] at hown
      have HS2 := hidC (HS1.out.step hb2)
      have HKP2 := hidC (Kept.of_below (a := a) (HB1.out.trans (hb2.mono HB1.out.size)))
      obtain ⟨ao, cap, rfl⟩ := row_shape hown
      have HOWN := hidC hown
      have hll : (lackN K d o.names).length ≤ 60 := by
        have := HLEN.out
        unfold waitN at this
        rw [List.length_map] at this
        omega
      clear hown hb2 c1'
      have HN2 : Hid (numW K d o = (lackN K d o.names).map (nameW d)) := HN.out
      clear HN
      generalize lackN K d o.names = l at *
      go_wp2_with fail
      go_loopw [38] (fun s38 wr => ∃ i : Nat, i ≤ l.length ∧ s38 = .int .i64 i ∧ StA w0 wr a id p F (addW W ((l.take i).map (nameW d))) ∧ Kept a w wr ∧ wr.ownsRow w1.heap.size 9 1 (.slice ao l.length cap) l.length (strCells l)) (fun s38 _ => l.length - (intOf s38).toNat)
      case atStart => exact ⟨0, by omega, rfl, HS2.out, HKP2.out, HOWN.out⟩
      case round =>
        obtain ⟨i, hi, rfl, hs, hkp, hrow⟩ := hrel
        have HSR := hidC hs
        have HKR := hidC hkp
        have HROW := hidC hrow
        clear hs hkp hrow
        by_cases hlt : i < l.length
        · have hlt' : (i : Int) < (l.length : Int) := by omega
          obtain ⟨ao', cap', he, hcl, _⟩ := own_str HROW.out
          simp only [Value.slice.injEq] at he
          obtain ⟨rfl, -, -⟩ := he
          obtain ⟨g, rfl, hg, hcell⟩ := hcl i hlt
          have HT : Hid (addW W ((l.take (i + 1)).map (nameW d)) = putW (addW W ((l.take i).map (nameW d))) (nameW d l[i])) := by
            unfold Hid
            rw [take_more l i l[i] (List.getElem?_eq_getElem hlt), List.map_append]
            exact addW_snoc _ _ _
          have hal : (addW W ((l.take i).map (nameW d))).length ≤ 100000 := by
            have h1 := addW_len ((l.take i).map (nameW d)) W
            rw [List.length_map, List.length_take] at h1
            omega
          clear hcl
          generalize l[i] = s at *
          generalize addW W ((l.take i).map (nameW d)) = W' at *
          have HWT := hidC (wait_any w0 wr a id p F W' HSR.out hal (nameW d s))
          unfold nameW Wt.val at HWT
          simp only at HWT
          go_wp2_with fail
          refine HWT.out.mono ?_
          rintro e w4 ⟨rfl, hs4, hk4⟩
          have HS4 : Hid (StA w0 w4 a id p F (putW W' (nameW d s))) := hs4
          have HK4 := hidC (HKR.out.trans hk4)
          have HR4 := hidC (hk4.row HROW.out (HSR.out.at_row HROW.out (by decide)) (by decide) (by decide))
          clear hs4 hk4 hcell
          go_wp2_with fail
          go_roundw
          case rel => exact ⟨i + 1, by omega, by go_num, by rw [HT.out]; exact HS4.out, HK4.out, HR4.out⟩
          case measure => simp [intOf] <;> omega
        · have hle : i = l.length := by omega
          subst hle
          rw [List.take_length] at HSR
          go_wp2_with fail
          go_ret3
          rw [HX.out, HN2.out]
          exact ⟨rfl, HSR.out, HKR.out⟩
  · have HN : Hid (numW K d o = []) := by unfold Hid numW; rw [if_pos he]
    have hk' := (HG.out.err he).2
    have he' : ((rk K d o).e != 0) = true := by simpa using he
    have HX : Hid (ofE (rk K d o) = Ending.returned (.tuple #[.int .i64 (rk K d o).n, .bool false, .int .i64 (rk K d o).e])) := by unfold Hid ofE; rw [hk']
    rw [hk']
    generalize (rk K d o).n = n at *
    generalize (rk K d o).e = e6 at *
    go_wp2_with fail
    go_ret3
    rw [HX.out, HN.out]
    exact ⟨rfl, HS1.out, Kept.of_below HB1.out⟩

end Go.Proofs.Ytngjlkdpplmpaaa.Ca
namespace Go.Proofs.Ytngjlkdpplmpaaa.Ca
open Go.RowKit Wd Cn Vl
set_option linter.unusedVariables false

/-- What a call of the walk does at a contract's value: its error, what it met. -/
def ThF (g : FuncId) (w0 : World) (a : Nat) (id : ByteArray) (p : Nat) (v : Value) (r : Int → Int → Ck) (n : Nat) : Prop := ∀ (w : World) (F : List Fl) (W : List Wt) (d k : Int), StA w0 w a id p F W → 0 ≤ d → d ≤ 10000 → vB k = true → k ≠ 0 → F.length + n ≤ 50000 → W.length + n ≤ 50000 →
  Calls Try.prog g #[.pointer (some ⟨a, 0, none⟩), v, .int .i64 d, .int .i64 k] w fun e w' => e = .returned (.int .i64 (r d k).e) ∧ StA w0 w' a id p (F ++ (r d k).f) (addW W (r d k).w) ∧ Kept a w w'
def ThC (w0 : World) (a : Nat) (id : ByteArray) (p : Nat) (K : KW) (c : C) : Prop := ThF 26 w0 a id p c.val (ck K id c) c.weight
theorem form_val (c : C) (h : formC c = true) : ∃ t x, c.val = .iface t x := by
  cases c <;> first | exact ⟨_, _, rfl⟩ | simp [formC] at h
theorem assert_one {P : Program} {t : TypeId} {u : TypeDesc} (hu : P.underlying t = some u) (hn : ∀ m, u ≠ .interface m) (v : Value) (xT : TypeId) (w : World) :
    (Instr.typeAssert (.iface t v) xT t false).run P w = .ok v w := by
  cases u <;> first | (exfalso; exact hn _ rfl) | simp [Instr.typeAssert, run_underlying hu]
theorem isIf1 (v : Value) (xT : TypeId) (w : World) : (Instr.typeAssert (.iface 54 v) xT 54 false).run Try.prog w = .ok v w := assert_one Try.underlying54 (by intro m h; cases h) v xT w
theorem negR_ok {k : Int} (h : vB k = true) : negR k = (-k, true) := by unfold negR; rw [if_pos h]
theorem vB_i64 {k : Int} (h : vB k = true) : -1000000000000 ≤ k ∧ k ≤ 1000000000000 := (vB_iff k).1 h

set_option maxHeartbeats 2000000 in
set_option maxRecDepth 100000 in
theorem th_zero (w0 : World) (a : Nat) (id : ByteArray) (p : Nat) (K : KW) : ThC w0 a id p K .zero := by
  intro w F W d k hs hd1 hd2 hv hk hlf hlw
  have HS := hidC hs
  have h0 := fun v xT w => isZero v xT w
  have HQ : Hid (ck K id .zero d k = ⟨[], [], 0⟩) := rfl
  clear hs
  unfold C.val
  go_enter Try.func26, Try.ntmps26
  go_wp2_with fail
  go_ret
  rw [HQ.out, List.append_nil]
  exact ⟨rfl, HS.out.step (below_alloc (Below.refl _ _) _), Kept.of_below (below_alloc (Below.refl _ _) _)⟩

set_option maxHeartbeats 2000000 in
set_option maxRecDepth 100000 in
theorem th_one (w0 : World) (a : Nat) (id : ByteArray) (p : Nat) (K : KW) (s : ByteArray) : ThC w0 a id p K (.one s) := by
  intro w F W d k hs hd1 hd2 hv hk hlf hlw
  have HS := hidC hs
  have h0 := fun v xT w => notZero 24 v xT w (by decide)
  have h1 := fun v xT w => isOne v xT w
  have HQ : Hid (ck K id (.one s) d k = ⟨[⟨d, s, k⟩], [], 0⟩) := rfl
  obtain ⟨⟨vF, vW, hin⟩, hb0⟩ := hs
  have HB0 := hidC hb0
  have HB1 := hidC (below_drew (below_alloc (Below.refl w.heap.size w) (.cells #[.string s] 24)))
  have HR := hidC (hin.below HB1.out)
  have HX : Hid ((w.alloc (.cells #[.string s] 24)).drew.heap[w.heap.size]? = some (.cells #[.string s] 24)) := heap_alloc_new _ _
  obtain ⟨ao, cap, hvF⟩ := row_shape hin.rf
  have hFl : F.length ≤ 100000 := by omega
  have HHK := hidC (And.intro hv hk)
  clear hin hb0 hv hk
  subst hvF
  unfold C.val
  go_enter Try.func26, Try.ntmps26
  go_wp2_with fail
  generalize w.alloc (.cells #[.string s] 24) = V at *
  have HFC : Hid (∀ w' : World, (w'.cell? ⟨a, 2, none⟩ = some (.slice ao F.length cap) ∧ w'.heap[w.heap.size]? = some (.cells #[.string s] 24)) → w'.cell? ⟨a, 2, none⟩ = some (.slice ao F.length cap) ∧ w'.cell? ⟨w.heap.size, 0, none⟩ = some (.string s)) := fun w' hw' =>
    ⟨hw'.1, cell_of_row _ _ 0 _ _ _ hw'.2⟩
  refine Mx.wp_region_mix5 (fun w' => w'.cell? ⟨a, 2, none⟩ = some (.slice ao F.length cap) ∧ w'.heap[w.heap.size]? = some (.cells #[.string s] 24)) 14 [(0, false), (1, false), (2, false), (3, false), (4, false), (5, false), (6, false), (7, false), (8, false), (9, false), (10, true), (11, true), (12, true), (13, true), (14, true)] (by kernel_rfl) (by kernel_rfl) ⟨HR.out.cell2 (twoA id p), HX.out⟩ ?_ (by kernel_rfl)
  simp only [List.map_cons, List.map_nil, List.getD_cons_zero, List.getD_cons_succ]
  generalize hops : (#[_, _, _, _, _, _, _, _, _, _, _, _, _, _, _] : Array Oper) = ops
  clear hops
  refine Mx.l_pure (.pointer (some ⟨a, 0, none⟩)) (by decide) (Mx.wanted_none rfl) (fun w' hw' => ?_) ?_
  · go_simp
  simp only [Act.put, List.setIfInBounds_toArray, List.set_cons_zero, List.set_cons_succ]
  refine Mx.l_pure (.pointer (some ⟨a, 0, none⟩)) (by decide) (Mx.wanted_none rfl) (fun w' hw' => ?_) ?_
  · go_simp
  simp only [Act.put, List.setIfInBounds_toArray, List.set_cons_zero, List.set_cons_succ]
  refine Mx.l_pure (.pointer (some ⟨a, 0, none⟩)) (by decide) (Mx.wanted_none rfl) (fun w' hw' => ?_) ?_
  · go_simp
  simp only [Act.put, List.setIfInBounds_toArray, List.set_cons_zero, List.set_cons_succ]
  refine Mx.l_pure (.pointer (some ⟨a, 2, none⟩)) (by decide) (Mx.wanted_none rfl) (fun w' hw' => ?_) ?_
  · go_simp
  simp only [Act.put, List.setIfInBounds_toArray, List.set_cons_zero, List.set_cons_succ]
  refine Mx.l_pure (.slice ao F.length cap) (by decide) (Mx.wanted_none rfl) (fun w' hw' => ?_) ?_
  · obtain ⟨q0, q1⟩ := HFC.out w' hw'
    go_simp
  simp only [Act.put, List.setIfInBounds_toArray, List.set_cons_zero, List.set_cons_succ]
  refine Mx.l_pure (.int .i64 d) (by decide) (Mx.wanted_none rfl) (fun w' hw' => ?_) ?_
  · go_simp
  simp only [Act.put, List.setIfInBounds_toArray, List.set_cons_zero, List.set_cons_succ]
  refine Mx.l_pure (.pointer (some ⟨w.heap.size, 0, none⟩)) (by decide) (Mx.wanted_none rfl) (fun w' hw' => ?_) ?_
  · go_simp
  simp only [Act.put, List.setIfInBounds_toArray, List.set_cons_zero, List.set_cons_succ]
  refine Mx.l_pure (.string s) (by decide) (Mx.wanted_none rfl) (fun w' hw' => ?_) ?_
  · obtain ⟨q0, q1⟩ := HFC.out w' hw'
    go_simp
  simp only [Act.put, List.setIfInBounds_toArray, List.set_cons_zero, List.set_cons_succ]
  refine Mx.l_pure (.int .i64 k) (by decide) (Mx.wanted_none rfl) (fun w' hw' => ?_) ?_
  · go_simp
  simp only [Act.put, List.setIfInBounds_toArray, List.set_cons_zero, List.set_cons_succ]
  refine Mx.l_pure (.agg #[.int .i64 d, .string s, .int .i64 k]) (by decide) (Mx.wanted_none rfl) (fun w' hw' => ?_) ?_
  · go_simp
  simp only [Act.put, List.setIfInBounds_toArray, List.set_cons_zero, List.set_cons_succ]
  generalize hX : V.drew = X at *
  clear hX
  have HB3 := hidC (below_alloc (Below.refl X.heap.size X) (.cells #[.int .i64 d, .string s, .int .i64 k] 46))
  have HRA := hidC (HR.out.below HB3.out)
  have HXA : Hid ((X.alloc (.cells #[.int .i64 d, .string s, .int .i64 k] 46)).heap[w.heap.size]? = some (.cells #[.string s] 24)) := (HB3.out.block _ (Array.getElem?_eq_some_iff.1 HX.out).1).trans HX.out
  refine Mx.l_run (.slice (some ⟨X.heap.size, 0, none⟩) 1 1) (Mx.wanted_none rfl) (w' := X.alloc (.cells #[.int .i64 d, .string s, .int .i64 k] 46)) ?_ ⟨HRA.out.cell2 (twoA id p), HXA.out⟩ ?_
  · go_simp
  simp only [Act.put, List.setIfInBounds_toArray, List.set_cons_zero, List.set_cons_succ]
  have hB0 : w0.heap.size ≤ (X.alloc (.cells #[.int .i64 d, .string s, .int .i64 k] 46)).heap.size := Nat.le_trans HB0.out.size (Nat.le_trans HB1.out.size HB3.out.size)
  obtain ⟨v', w4, hrun, hc3, hf3, ⟨ao2, cap2, hv'⟩, hg, k1, k2⟩ := HRA.out.pushF (twoA id p) (by decide) (by decide) hB0 hFl ⟨d, s, k⟩ X.heap.size (heap_alloc_new _ _) 37
  have HK1 := hidC k1
  have HK2 := hidC k2
  have HKP : Hid (Kept a (X.alloc (.cells #[.int .i64 d, .string s, .int .i64 k] 46)) (w4.setCell ⟨a, 2, none⟩ v')) := Kept.grown HRA.out.rf (.inl rfl) hg
  have HX4 : Hid (w4.heap[w.heap.size]? = some (.cells #[.string s] 24)) := (hg.block _ (Array.getElem?_eq_some_iff.1 HXA.out).1 (fun e => by
    obtain ⟨cs, hc⟩ := row_block HRA.out.rf e.symm
    have := HXA.out
    rw [hc] at this
    injection this with e1
    injection e1 with _ e1
    exact absurd e1 (by decide))).trans HXA.out
  clear hg k1 k2
  generalize X.alloc (.cells #[.int .i64 d, .string s, .int .i64 k] 46) = w3 at *
  refine Mx.l_run v' (Mx.wanted_none rfl) (w' := w4) ?_ ⟨hc3, HX4.out⟩ ?_
  · simp [execOp, resolve, invoke, builtin, Act.eval, hrun]
  clear hrun
  subst hv'
  simp only [Act.put, List.setIfInBounds_toArray, List.set_cons_zero, List.set_cons_succ]
  refine Mx.l_run (.pointer (some ⟨a, 0, none⟩)) (Mx.wanted_none rfl) (w' := w4) ?_ ⟨hc3, HX4.out⟩ ?_
  · go_simp
  simp only [Act.put, List.setIfInBounds_toArray, List.set_cons_zero, List.set_cons_succ]
  refine Mx.l_run (.pointer (some ⟨a, 2, none⟩)) (Mx.wanted_none rfl) (w' := w4) ?_ ⟨hc3, HX4.out⟩ ?_
  · go_simp
  simp only [Act.put, List.setIfInBounds_toArray, List.set_cons_zero, List.set_cons_succ]
  refine Mx.l_last (w' := w4.setCell ⟨a, 2, none⟩ (.slice ao2 (F.length + 1) cap2)) (Mx.wanted_none rfl) ?_ ?_
  · go_simp
  simp only [Act.put]
  generalize w4.setCell ⟨a, 2, none⟩ (.slice ao2 (F.length + 1) cap2) = w5 at *
  clear hc3 hf3
  go_wp2_with fail
  go_ret
  have h1 : Below w.heap.size w w3 := HB1.out.trans (HB3.out.mono HB1.out.size)
  rw [HQ.out]
  exact ⟨rfl, ⟨⟨_, _, HK1.out⟩, (HB0.out.trans (h1.mono HB0.out.size)).trans HK2.out⟩, (Kept.of_below h1).trans HKP.out⟩

set_option maxHeartbeats 2000000 in
set_option maxRecDepth 100000 in
theorem th_give (w0 : World) (a : Nat) (id : ByteArray) (p : Nat) (K : KW) (c : C) (hf : formC c = true) (ih : ThC w0 a id p K c) : ThC w0 a id p K (.give c) := by
  intro w F W d k hs hd1 hd2 hv hk hlf hlw
  have HS := hidC hs
  have h0 := fun v xT w => notZero 34 v xT w (by decide)
  have h1 := fun v xT w => notOne 34 v xT w (by decide)
  have h2 := fun v xT w => isGive v xT w
  have HQ : Hid (ck K id (.give c) d k = ck K id c d (-k)) := rfl
  obtain ⟨t, x, he⟩ := form_val c hf
  unfold ThC at ih
  rw [he] at ih
  have HI := hidC ih
  have hng := negR_ok hv
  have HN : Hid (Calls Try.prog 47 #[.int .i64 k] (w.alloc (.cells #[.iface t x] 34)) fun e w' => e = .returned (.tuple #[.int .i64 (-k), .bool true]) ∧ w' = w.alloc (.cells #[.iface t x] 34)) := by
    have := neg_any k (w.alloc (.cells #[.iface t x] 34))
    rw [hng] at this
    exact this
  have HV := hidC (vB_neg k hv)
  simp only [C.weight] at hlf hlw
  clear hs ih hng hv
  unfold C.val
  rw [he]
  clear he
  go_enter Try.func26, Try.ntmps26
  go_wp2_with fail
  refine calls_same HN.out ?_
  go_wp2_with fail
  refine (HI.out _ F W d (-k) (HS.out.step (below_alloc (Below.refl _ _) _)) hd1 hd2 HV.out (by omega) (by omega) (by omega)).mono ?_
  rintro e w2 ⟨rfl, hs2, hk2⟩
  have HS2 := hidC hs2
  have HK2 := hidC hk2
  clear hs2 hk2
  go_wp2_with fail
  go_ret
  rw [HQ.out]
  exact ⟨rfl, HS2.out, (Kept.of_below (below_alloc (Below.refl _ _) _)).trans HK2.out⟩

set_option maxHeartbeats 2000000 in
set_option maxRecDepth 100000 in
theorem th_when (w0 : World) (a : Nat) (id : ByteArray) (p : Nat) (K : KW) (d' : Int) (c : C) (hf : formC (.when d' c) = true) (ih : ThC w0 a id p K c) : ThC w0 a id p K (.when d' c) := by
  intro w F W d k hs hd1 hd2 hv hk hlf hlw
  have HS := hidC hs
  have h0 := fun v xT w => notZero 56 v xT w (by decide)
  have h1 := fun v xT w => notOne 56 v xT w (by decide)
  have h2 := fun v xT w => notGive 56 v xT w (by decide)
  have h3 := fun v xT w => notAnd 56 v xT w (by decide)
  have h4 := fun v xT w => notOr 56 v xT w (by decide)
  have h5 := fun v xT w => notScale 56 v xT w (by decide)
  have h6 := fun v xT w => isWhen v xT w
  have HQ : Hid (ck K id (.when d' c) d k = ck K id c (Max.max d d') k) := rfl
  simp only [formC, Bool.and_eq_true] at hf
  obtain ⟨g1, g2⟩ := (dayB_iff d').1 hf.1
  obtain ⟨t, x, he⟩ := form_val c hf.2
  unfold ThC at ih
  rw [he] at ih
  have HI := hidC ih
  simp only [C.weight] at hlf hlw
  have HHK := hidC (And.intro hv hk)
  clear hs ih hf hv hk
  unfold C.val
  rw [he]
  clear he
  rcases Int.lt_or_le d d' with hm | hm
  · have HM : Hid (Max.max d d' = d') := by unfold Hid; omega
    rw [HM.out] at HQ
    go_enter Try.func26, Try.ntmps26
    go_wp2_with fail
    refine (HI.out _ F W d' k (HS.out.step (below_alloc (Below.refl _ _) _)) g1 g2 HHK.out.1 HHK.out.2 (by omega) (by omega)).mono ?_
    rintro e w2 ⟨rfl, hs2, hk2⟩
    have HS2 := hidC hs2
    have HK2 := hidC hk2
    clear hs2 hk2
    go_wp2_with fail
    go_ret
    rw [HQ.out]
    exact ⟨rfl, HS2.out, (Kept.of_below (below_alloc (Below.refl _ _) _)).trans HK2.out⟩
  · have HM : Hid (Max.max d d' = d) := by unfold Hid; omega
    rw [HM.out] at HQ
    go_enter Try.func26, Try.ntmps26
    go_wp2_with fail
    refine (HI.out _ F W d k (HS.out.step (below_alloc (Below.refl _ _) _)) hd1 hd2 HHK.out.1 HHK.out.2 (by omega) (by omega)).mono ?_
    rintro e w2 ⟨rfl, hs2, hk2⟩
    have HS2 := hidC hs2
    have HK2 := hidC hk2
    clear hs2 hk2
    go_wp2_with fail
    go_ret
    rw [HQ.out]
    exact ⟨rfl, HS2.out, (Kept.of_below (below_alloc (Below.refl _ _) _)).trans HK2.out⟩

set_option maxHeartbeats 2000000 in
set_option maxRecDepth 100000 in
theorem th_and (w0 : World) (a : Nat) (id : ByteArray) (p : Nat) (K : KW) (l r : C) (hfl : formC l = true) (hfr : formC r = true) (ihl : ThC w0 a id p K l) (ihr : ThC w0 a id p K r) : ThC w0 a id p K (.and l r) := by
  intro w F W d k hs hd1 hd2 hv hk hlf hlw
  have HS := hidC hs
  have h0 := fun v xT w => notZero 64 v xT w (by decide)
  have h1 := fun v xT w => notOne 64 v xT w (by decide)
  have h2 := fun v xT w => notGive 64 v xT w (by decide)
  have h3 := fun v xT w => isAnd v xT w
  have HQ : Hid (ck K id (.and l r) d k = (ck K id l d k).seq (ck K id r d k)) := rfl
  obtain ⟨t, x, he⟩ := form_val l hfl
  obtain ⟨t2, x2, he2⟩ := form_val r hfr
  unfold ThC at ihl ihr
  rw [he] at ihl
  rw [he2] at ihr
  have HL := hidC ihl
  have HR := hidC ihr
  have HLEN := hidC (ck_len K id l d k)
  simp only [C.weight] at hlf hlw
  have HHK := hidC (And.intro hv hk)
  clear hs ihl ihr hfl hfr hv hk
  unfold C.val
  rw [he, he2]
  clear he he2
  go_enter Try.func26, Try.ntmps26
  go_wp2_with fail
  have HBX := hidC (heap_alloc_new w (.cells #[.iface t x, .iface t2 x2] 64))
  have HS1 := hidC (HS.out.step (below_alloc (Below.refl _ _) (.cells #[.iface t x, .iface t2 x2] 64)))
  have HK1 := hidC (Kept.of_below (a := a) (below_alloc (Below.refl w.heap.size w) (.cells #[.iface t x, .iface t2 x2] 64)))
  refine (HL.out _ F W d k HS1.out hd1 hd2 HHK.out.1 HHK.out.2 (by omega) (by omega)).mono ?_
  rintro e w2 ⟨rfl, hs2, hk2⟩
  have hb2 := hk2.cells HBX.out (HS1.out.at_cells HBX.out (by decide)) (by decide) (by decide)
  have c1 : w2.cell? ⟨w.heap.size, 1, none⟩ = some (.iface t2 x2) := cell_of_row _ _ 1 _ _ _ hb2
  have HS2 := hidC hs2
  have HK2 := hidC (HK1.out.trans hk2)
  clear hs2 hk2 hb2
  generalize hA : ck K id l d k = A at *
  by_cases h0 : A.e = 0
  · have HQ2 : Hid (A.seq (ck K id r d k) = ⟨A.f ++ (ck K id r d k).f, A.w ++ (ck K id r d k).w, (ck K id r d k).e⟩) := by unfold Hid Ck.seq; rw [if_neg (by simpa using h0)]
    rw [h0]
    clear h0 hA
    go_wp2_with fail
    refine (HR.out w2 _ _ d k HS2.out hd1 hd2 HHK.out.1 HHK.out.2 (by have := HLEN.out; rw [List.length_append]; omega) (by have := HLEN.out; have := addW_len A.w W; omega)).mono ?_
    rintro e w3 ⟨rfl, hs3, hk3⟩
    have HS3 := hidC hs3
    have HK3 := hidC (HK2.out.trans hk3)
    clear hs3 hk3
    go_wp2_with fail
    go_ret
    rw [HQ.out, HQ2.out]
    simp only
    rw [← List.append_assoc, addW_app]
    exact ⟨rfl, HS3.out, HK3.out⟩
  · have HQ2 : Hid (A.seq (ck K id r d k) = A) := by unfold Hid Ck.seq; rw [if_pos h0]
    have h0' : (A.e != 0) = true := by simpa using h0
    clear hA
    go_wp2_with fail
    go_ret
    rw [HQ.out, HQ2.out]
    exact ⟨rfl, HS2.out, HK2.out⟩

end Go.Proofs.Ytngjlkdpplmpaaa.Ca
namespace Go.Proofs.Ytngjlkdpplmpaaa.Ca
open Go.RowKit Wd Cn Vl
set_option linter.unusedVariables false

set_option maxHeartbeats 2000000 in
set_option maxRecDepth 100000 in
theorem or_any {w0 : World} {p f c : Nat} {K : KW} {id : ByteArray} (hE : Env w0 p f c K id) (a : Nat) (s : ByteArray) (hsz : s.size ≤ 2147483648) (l r : C) (t t2 : TypeId) (x x2 : Value) (hL : ThF 26 w0 a id p (.iface t x) (ck K id l) l.weight) (hR : ThF 26 w0 a id p (.iface t2 x2) (ck K id r) r.weight) :
    ThF 48 w0 a id p (.agg #[.string s, .iface t x, .iface t2 x2]) (ck K id (.or s l r)) (C.or s l r).weight := by
  intro w F W d k hs hd1 hd2 hv hk hlf hlw
  have HE := hidC hE
  have HL := hidC hL
  have HR := hidC hR
  have HB0 := hidC hs.2
  have HBA := hidC (below_alloc (Below.refl w.heap.size w) (.cells #[.string s, .iface t x, .iface t2 x2] 32))
  have HSV := hidC (hs.step HBA.out)
  have HX := hidC (heap_alloc_new w (.cells #[.string s, .iface t x, .iface t2 x2] 32))
  have HNA := hidC (HSV.out.at_cells HX.out (by decide))
  have HHK := hidC (And.intro hv hk)
  simp only [C.weight] at hlf hlw
  clear hs hv hk hE hL hR
  go_enter Try.func48, Try.ntmps48
  go_wp2_with fail
  generalize w.alloc (.cells #[.string s, .iface t x, .iface t2 x2] 32) = V at *
  have HFC : Hid (∀ w' : World, Below V.heap.size V w' → w'.cell? ⟨a, 0, none⟩ = some (.string id) ∧ w'.cell? ⟨a, 1, none⟩ = some (.pointer (some ⟨p, 0, none⟩)) ∧ w'.cell? ⟨w.heap.size, 0, none⟩ = some (.string s)) := fun w' hw' => by
    obtain ⟨⟨vF, vW, hin⟩, _⟩ := HSV.out
    exact ⟨cell_blk (hin.below hw').blk rfl, cell_blk (hin.below hw').blk rfl, cell_of_row _ _ 0 _ _ _ ((hw'.block _ (Array.getElem?_eq_some_iff.1 HX.out).1).trans HX.out)⟩
  have HD := hidC (below_drew (Below.refl V.heap.size V))
  refine Mx.wp_region_mix (fun w' => Below V.heap.size V w') [(0, false), (1, false), (2, false), (3, false), (4, false), (5, false), (6, false), (7, false), (8, false), (9, false), (10, true), (11, false), (12, false), (13, false), (14, false), (15, false), (16, false), (17, false)] (by kernel_rfl) (by kernel_rfl) HD.out ?_ (by kernel_rfl)
  simp only [List.map_cons, List.map_nil, List.getD_cons_zero, List.getD_cons_succ]
  generalize hops : (#[_, _, _, _, _, _, _, _, _, _, _, _, _, _, _, _, _, _] : Array Oper) = ops
  clear hops
  refine Mx.m_pure (.pointer (some ⟨a, 0, none⟩)) (Mx.wanted_none rfl) (fun w' hw' => ?_) ?_
  · go_simp
  simp only [Act.put, List.setIfInBounds_toArray, List.set_cons_zero, List.set_cons_succ]
  refine Mx.m_pure (.pointer (some ⟨a, 0, none⟩)) (Mx.wanted_none rfl) (fun w' hw' => ?_) ?_
  · go_simp
  simp only [Act.put, List.setIfInBounds_toArray, List.set_cons_zero, List.set_cons_succ]
  refine Mx.m_pure (.pointer (some ⟨a, 1, none⟩)) (Mx.wanted_none rfl) (fun w' hw' => ?_) ?_
  · go_simp
  simp only [Act.put, List.setIfInBounds_toArray, List.set_cons_zero, List.set_cons_succ]
  refine Mx.m_pure (.pointer (some ⟨p, 0, none⟩)) (Mx.wanted_none rfl) (fun w' hw' => ?_) ?_
  · obtain ⟨q0, q1, q2⟩ := HFC.out w' hw'
    go_simp
  simp only [Act.put, List.setIfInBounds_toArray, List.set_cons_zero, List.set_cons_succ]
  refine Mx.m_pure (.pointer (some ⟨a, 0, none⟩)) (Mx.wanted_none rfl) (fun w' hw' => ?_) ?_
  · go_simp
  simp only [Act.put, List.setIfInBounds_toArray, List.set_cons_zero, List.set_cons_succ]
  refine Mx.m_pure (.pointer (some ⟨a, 0, none⟩)) (Mx.wanted_none rfl) (fun w' hw' => ?_) ?_
  · go_simp
  simp only [Act.put, List.setIfInBounds_toArray, List.set_cons_zero, List.set_cons_succ]
  refine Mx.m_pure (.pointer (some ⟨a, 0, none⟩)) (Mx.wanted_none rfl) (fun w' hw' => ?_) ?_
  · go_simp
  simp only [Act.put, List.setIfInBounds_toArray, List.set_cons_zero, List.set_cons_succ]
  refine Mx.m_pure (.string id) (Mx.wanted_none rfl) (fun w' hw' => ?_) ?_
  · obtain ⟨q0, q1, q2⟩ := HFC.out w' hw'
    go_simp
  simp only [Act.put, List.setIfInBounds_toArray, List.set_cons_zero, List.set_cons_succ]
  refine Mx.m_pure (.pointer (some ⟨w.heap.size, 0, none⟩)) (Mx.wanted_none rfl) (fun w' hw' => ?_) ?_
  · go_simp
  simp only [Act.put, List.setIfInBounds_toArray, List.set_cons_zero, List.set_cons_succ]
  refine Mx.m_pure (.string s) (Mx.wanted_none rfl) (fun w' hw' => ?_) ?_
  · obtain ⟨q0, q1, q2⟩ := HFC.out w' hw'
    go_simp
  simp only [Act.put, List.setIfInBounds_toArray, List.set_cons_zero, List.set_cons_succ]
  refine Mx.m_call 77 #[.pointer (some ⟨p, 0, none⟩), .string id, .string s] (Mx.wanted_none rfl) ?_ ?_
  · go_simp
  refine (chosen_any _ p f c K (HE.out.kin.below (HSV.out.2.trans (HD.out.mono HSV.out.2.size))) id s ⟨Nat.le_trans HE.out.idl (by decide), Nat.le_trans hsz (by decide)⟩).mono ?_
  rintro e w1 ⟨rfl, hb⟩
  have HV1 := hidC (HD.out.trans (hb.mono HD.out.size))
  refine ⟨_, rfl, HV1.out, ?_⟩
  clear hb
  obtain ⟨o, ho⟩ : ∃ o, K.chosen (id, s) = o := ⟨_, rfl⟩
  rw [ho]
  have HO := hidC ho
  clear ho
  simp only [Act.put, List.setIfInBounds_toArray, List.set_cons_zero, List.set_cons_succ]
  refine Mx.m_pure (.tuple #[.int .i64 (o.getD (0, 0)).1, .int .i64 (o.getD (0, 0)).2, .bool o.isSome]) (Mx.wanted_none rfl) (fun w' hw' => ?_) ?_
  · go_simp
  simp only [Act.put, List.setIfInBounds_toArray, List.set_cons_zero, List.set_cons_succ]
  refine Mx.m_pure (.int .i64 (o.getD (0, 0)).1) (Mx.wanted_none rfl) (fun w' hw' => ?_) ?_
  · go_simp
  simp only [Act.put, List.setIfInBounds_toArray, List.set_cons_zero, List.set_cons_succ]
  refine Mx.m_pure (.int .i64 (o.getD (0, 0)).2) (Mx.wanted_none rfl) (fun w' hw' => ?_) ?_
  · go_simp
  simp only [Act.put, List.setIfInBounds_toArray, List.set_cons_zero, List.set_cons_succ]
  refine Mx.m_pure (.bool o.isSome) (Mx.wanted_none rfl) (fun w' hw' => ?_) ?_
  · go_simp
  simp only [Act.put, List.setIfInBounds_toArray, List.set_cons_zero, List.set_cons_succ]
  refine Mx.m_pure (.int .i64 (o.getD (0, 0)).1) (Mx.wanted_none rfl) (fun w' hw' => ?_) ?_
  · go_simp
  simp only [Act.put, List.setIfInBounds_toArray, List.set_cons_zero, List.set_cons_succ]
  refine Mx.m_pure (.int .i64 (o.getD (0, 0)).2) (Mx.wanted_none rfl) (fun w' hw' => ?_) ?_
  · go_simp
  simp only [Act.put, List.setIfInBounds_toArray, List.set_cons_zero, List.set_cons_succ]
  refine Mx.m_pure (.bool o.isSome) (Mx.wanted_none rfl) (fun w' hw' => ?_) ?_
  · go_simp
  simp only [Act.put, List.setIfInBounds_toArray, List.set_cons_zero, List.set_cons_succ]
  refine Mx.m_nil (fun _ => ?_)
  have HS1 := hidC (HSV.out.step HV1.out)
  have HX1 : Hid (w1.heap[w.heap.size]? = some (.cells #[.string s, .iface t x, .iface t2 x2] 32)) := (HV1.out.block _ (Array.getElem?_eq_some_iff.1 HX.out).1).trans HX.out
  have HK1 := hidC (Kept.of_below (a := a) (HBA.out.trans (HV1.out.mono HBA.out.size)))
  cases o with
  | none =>
    have HQ : Hid (ck K id (.or s l r) d k = ⟨[], [chW d s k], 0⟩) := by unfold Hid; simp only [ck]; rw [HO.out]
    simp only [Option.getD_none, Option.isSome_none]
    go_wp2_with fail
    have HXD : Hid (w1.drew.heap[w.heap.size]? = some (.cells #[.string s, .iface t x, .iface t2 x2] 32)) := HX1.out
    have HSD := hidC (HS1.out.step (below_drew (Below.refl w1.heap.size w1)))
    have HKD := hidC (HK1.out.trans (Kept.of_below (a := a) (below_drew (Below.refl w1.heap.size w1))))
    have HFC2 : Hid (∀ w' : World, w'.heap[w.heap.size]? = some (.cells #[.string s, .iface t x, .iface t2 x2] 32) → w'.cell? ⟨w.heap.size, 0, none⟩ = some (.string s)) := fun w' hw' => cell_of_row _ _ 0 _ _ _ hw'
    refine Mx.wp_region_mix (fun w' => w'.heap[w.heap.size]? = some (.cells #[.string s, .iface t x, .iface t2 x2] 32)) [(0, false), (1, false), (2, false), (3, false), (4, false), (5, true), (6, false), (7, true)] (by kernel_rfl) (by kernel_rfl) HXD.out ?_ (by kernel_rfl)
    simp only [List.map_cons, List.map_nil, List.getD_cons_zero, List.getD_cons_succ]
    generalize hops : (#[_, _, _, _, _, _, _, _] : Array Oper) = ops
    clear hops
    refine Mx.m_pure (.pointer (some ⟨a, 0, none⟩)) (Mx.wanted_none rfl) (fun w' hw' => ?_) ?_
    · go_simp
    simp only [Act.put, List.setIfInBounds_toArray, List.set_cons_zero, List.set_cons_succ]
    refine Mx.m_pure (.pointer (some ⟨w.heap.size, 0, none⟩)) (Mx.wanted_none rfl) (fun w' hw' => ?_) ?_
    · go_simp
    simp only [Act.put, List.setIfInBounds_toArray, List.set_cons_zero, List.set_cons_succ]
    refine Mx.m_pure (.string s) (Mx.wanted_none rfl) (fun w' hw' => ?_) ?_
    · have q0 := HFC2.out w' hw'
      go_simp
    simp only [Act.put, List.setIfInBounds_toArray, List.set_cons_zero, List.set_cons_succ]
    refine Mx.m_pure (.int .i64 d) (Mx.wanted_none rfl) (fun w' hw' => ?_) ?_
    · go_simp
    simp only [Act.put, List.setIfInBounds_toArray, List.set_cons_zero, List.set_cons_succ]
    refine Mx.m_pure (.int .i64 k) (Mx.wanted_none rfl) (fun w' hw' => ?_) ?_
    · go_simp
    simp only [Act.put, List.setIfInBounds_toArray, List.set_cons_zero, List.set_cons_succ]
    refine Mx.m_call 79 #[.int .i64 k] (Mx.wanted_none rfl) ?_ ?_
    · go_simp
    refine (holder_any k _).mono ?_
    rintro e w2 ⟨rfl, rfl⟩
    refine ⟨_, rfl, HXD.out, ?_⟩
    simp only [Act.put, List.setIfInBounds_toArray, List.set_cons_zero, List.set_cons_succ]
    refine Mx.m_pure (.agg #[.bool true, .string ByteArray.empty, .string s, .int .i64 d, .int .i64 (side k)]) (Mx.wanted_none rfl) (fun w' hw' => ?_) ?_
    · go_simp
      rfl
    simp only [Act.put, List.setIfInBounds_toArray, List.set_cons_zero, List.set_cons_succ]
    refine Mx.m_call 78 #[.pointer (some ⟨a, 0, none⟩), (chW d s k).val] (Mx.wanted_none rfl) ?_ ?_
    · unfold chW Wt.val
      go_simp
    refine (wait_any w0 _ a id p F W HSD.out (by omega) (chW d s k)).mono ?_
    rintro e w3 ⟨rfl, hs3, hk3⟩
    have HS3 := hidC hs3
    have HK3 := hidC (HKD.out.trans hk3)
    refine ⟨_, rfl, hk3.cells HXD.out HNA.out (by decide) (by decide), ?_⟩
    clear hs3 hk3
    simp only [Act.put, List.setIfInBounds_toArray, List.set_cons_zero, List.set_cons_succ]
    refine Mx.m_nil (fun _ => ?_)
    go_wp2_with fail
    go_ret
    rw [HQ.out, List.append_nil]
    exact ⟨rfl, HS3.out, HK3.out⟩
  | some q =>
    obtain ⟨q, d'⟩ := q
    obtain ⟨hq, g1, g2⟩ := chs_at HE.out.chs HO.out
    simp only at hq g1 g2
    have c1 : w1.cell? ⟨w.heap.size, 1, none⟩ = some (.iface t x) := cell_of_row _ _ 1 _ _ _ HX1.out
    have c2 : w1.cell? ⟨w.heap.size, 2, none⟩ = some (.iface t2 x2) := cell_of_row _ _ 2 _ _ _ HX1.out
    have HQ : Hid (ck K id (.or s l r) d k = if q = 0 then ck K id l (Max.max d d') k else ck K id r (Max.max d d') k) := by unfold Hid; simp only [ck]; rw [HO.out]
    simp only [Option.getD_some, Option.isSome_some]
    rcases hq with rfl | rfl
    · have HQ2 : Hid (ck K id (.or s l r) d k = ck K id l (Max.max d d') k) := by unfold Hid; rw [HQ.out]; rfl
      rcases Int.lt_or_le d d' with hm | hm
      · have HM : Hid (Max.max d d' = d') := by unfold Hid; omega
        rw [HM.out] at HQ2
        go_wp2_with fail
        refine (HL.out w1 F W d' k HS1.out g1 g2 HHK.out.1 HHK.out.2 (by omega) (by omega)).mono ?_
        rintro e w2 ⟨rfl, hs2, hk2⟩
        have HS2 := hidC hs2
        have HK2 := hidC (HK1.out.trans hk2)
        clear hs2 hk2
        go_wp2_with fail
        go_ret
        rw [HQ2.out]
        exact ⟨rfl, HS2.out, HK2.out⟩
      · have HM : Hid (Max.max d d' = d) := by unfold Hid; omega
        rw [HM.out] at HQ2
        go_wp2_with fail
        refine (HL.out w1 F W d k HS1.out hd1 hd2 HHK.out.1 HHK.out.2 (by omega) (by omega)).mono ?_
        rintro e w2 ⟨rfl, hs2, hk2⟩
        have HS2 := hidC hs2
        have HK2 := hidC (HK1.out.trans hk2)
        clear hs2 hk2
        go_wp2_with fail
        go_ret
        rw [HQ2.out]
        exact ⟨rfl, HS2.out, HK2.out⟩
    · have HQ2 : Hid (ck K id (.or s l r) d k = ck K id r (Max.max d d') k) := by unfold Hid; rw [HQ.out]; rfl
      rcases Int.lt_or_le d d' with hm | hm
      · have HM : Hid (Max.max d d' = d') := by unfold Hid; omega
        rw [HM.out] at HQ2
        go_wp2_with fail
        refine (HR.out w1 F W d' k HS1.out g1 g2 HHK.out.1 HHK.out.2 (by omega) (by omega)).mono ?_
        rintro e w2 ⟨rfl, hs2, hk2⟩
        have HS2 := hidC hs2
        have HK2 := hidC (HK1.out.trans hk2)
        clear hs2 hk2
        go_wp2_with fail
        go_ret
        rw [HQ2.out]
        exact ⟨rfl, HS2.out, HK2.out⟩
      · have HM : Hid (Max.max d d' = d) := by unfold Hid; omega
        rw [HM.out] at HQ2
        go_wp2_with fail
        refine (HR.out w1 F W d k HS1.out hd1 hd2 HHK.out.1 HHK.out.2 (by omega) (by omega)).mono ?_
        rintro e w2 ⟨rfl, hs2, hk2⟩
        have HS2 := hidC hs2
        have HK2 := hidC (HK1.out.trans hk2)
        clear hs2 hk2
        go_wp2_with fail
        go_ret
        rw [HQ2.out]
        exact ⟨rfl, HS2.out, HK2.out⟩

set_option maxHeartbeats 2000000 in
set_option maxRecDepth 100000 in
theorem scale_any {w0 : World} {p f c : Nat} {K : KW} {id : ByteArray} (hE : Env w0 p f c K id) (a : Nat) (o : O) (hok : o.Ok) (hc : chk o = 0) (cc : C) (t : TypeId) (x : Value) (hL : ThF 26 w0 a id p (.iface t x) (ck K id cc) cc.weight) :
    ThF 49 w0 a id p (.agg #[o.val, .iface t x]) (ck K id (.scale o cc)) (C.scale o cc).weight := by
  intro w F W d k hs hd1 hd2 hv hk hlf hlw
  obtain ⟨tn, xn, ho⟩ := Vl.form_iface o (chk_sz hc).1
  have HL := hidC hL
  have HN := hidC (fun (w : World) (h : StA w0 w a id p F W) => number_any hE w a F W h (by omega) o hok hc d ⟨by omega, by omega⟩)
  rw [ho] at HN
  have HG := hidC (rk_good hE.vals d o (chk_sz hc).1)
  rw [ho]
  clear ho
  have HBA := hidC (below_alloc (Below.refl w.heap.size w) (.cells #[.iface tn xn, .iface t x] 30))
  have HSV := hidC (hs.step HBA.out)
  have HX := hidC (heap_alloc_new w (.cells #[.iface tn xn, .iface t x] 30))
  have HNA := hidC (HSV.out.at_cells HX.out (by decide))
  have HKV := hidC (Kept.of_below (a := a) HBA.out)
  have HHK := hidC (And.intro hv hk)
  have HLN := hidC (Nat.le_trans (lackN_len K d o) (chk_sz hc).2)
  have HQ : Hid (ck K id (.scale o cc) d k = if (rk K d o).e ≠ 0 then ⟨[], [], (rk K d o).e⟩ else if (rk K d o).known = true then (if (mulR k (rk K d o).n).2 = true then (if (mulR k (rk K d o).n).1 = 0 then ⟨[], [], 0⟩ else ck K id cc d (mulR k (rk K d o).n).1) else ⟨[], [], 6⟩) else ⟨[], waitN K d o, 0⟩) := rfl
  have HM := hidC (fun (n : Int) (w : World) => mul_any k n w)
  simp only [C.weight] at hlf hlw
  clear hs hv hk hE hL hok hc
  go_enter Try.func49, Try.ntmps49
  go_wp2_with fail
  refine (HN.out _ HSV.out).mono ?_
  rintro e w1 ⟨rfl, hs1, hk1⟩
  have HX1 := hidC (hk1.cells HX.out HNA.out (by decide) (by decide))
  have HS1 := hidC hs1
  have HK1 := hidC (HKV.out.trans hk1)
  clear hs1 hk1
  have c1 : w1.cell? ⟨w.heap.size, 1, none⟩ = some (.iface t x) := cell_of_row _ _ 1 _ _ _ HX1.out
  unfold numW at HS1
  generalize rk K d o = y at *
  obtain ⟨n, known, e⟩ := y
  simp only at HQ HS1
  unfold ofE
  simp only
  by_cases he : e = 0
  · subst he
    rw [if_neg (by simp)] at HQ HS1
    cases known
    · rw [if_neg (by simp)] at HQ HS1
      go_wp2_with fail
      go_ret
      rw [HQ.out, List.append_nil]
      exact ⟨rfl, HS1.out, HK1.out⟩
    · rw [if_pos rfl] at HQ HS1
      have HM1 := hidC (HM.out n w1)
      have HVM0 : Hid ((mulR k n).2 = true → vB (mulR k n).1 = true) := mulR_in k n
      generalize mulR k n = m at *
      obtain ⟨m, ok⟩ := m
      simp only at HQ HM1 HVM0
      cases ok
      · rw [if_neg (by simp)] at HQ
        go_wp2_with fail
        refine calls_same HM1.out ?_
        go_wp2_with fail
        go_ret
        rw [HQ.out, List.append_nil]
        exact ⟨rfl, HS1.out, HK1.out⟩
      · rw [if_pos rfl] at HQ
        by_cases hm : m = 0
        · subst hm
          rw [if_pos rfl] at HQ
          go_wp2_with fail
          refine calls_same HM1.out ?_
          go_wp2_with fail
          go_ret
          rw [HQ.out, List.append_nil]
          exact ⟨rfl, HS1.out, HK1.out⟩
        · rw [if_neg hm] at HQ
          have hm' : (m == 0) = false := by simpa using hm
          go_wp2_with fail
          refine calls_same HM1.out ?_
          go_wp2_with fail
          refine (HL.out w1 F W d m HS1.out hd1 hd2 (HVM0.out trivial) hm (by omega) (by omega)).mono ?_
          rintro e w2 ⟨rfl, hs2, hk2⟩
          have HS2 := hidC hs2
          have HK2 := hidC (HK1.out.trans hk2)
          clear hs2 hk2
          go_wp2_with fail
          go_ret
          rw [HQ.out]
          exact ⟨rfl, HS2.out, HK2.out⟩
  · rw [if_pos he] at HQ HS1
    have hkn := (HG.out.err he).2
    simp only at hkn
    subst hkn
    go_wp2_with fail
    go_ret
    rw [HQ.out, List.append_nil]
    exact ⟨rfl, HS1.out, HK1.out⟩

set_option maxHeartbeats 2000000 in
set_option maxRecDepth 100000 in
theorem if_any {w0 : World} {p f c : Nat} {K : KW} {id : ByteArray} (hE : Env w0 p f c K id) (a : Nat) (o : O) (hok : o.Ok) (hc : chk o = 0) (l r : C) (t t2 : TypeId) (x x2 : Value) (hL : ThF 26 w0 a id p (.iface t x) (ck K id l) l.weight) (hR : ThF 26 w0 a id p (.iface t2 x2) (ck K id r) r.weight) :
    ThF 50 w0 a id p (.agg #[o.val, .iface t x, .iface t2 x2]) (ck K id (.iff o l r)) (C.iff o l r).weight := by
  intro w F W d k hs hd1 hd2 hv hk hlf hlw
  obtain ⟨tn, xn, ho⟩ := Vl.form_iface o (chk_sz hc).1
  have HL := hidC hL
  have HR := hidC hR
  have HN := hidC (fun (w : World) (h : StA w0 w a id p F W) => number_any hE w a F W h (by omega) o hok hc d ⟨by omega, by omega⟩)
  rw [ho] at HN
  have HG := hidC (rk_good hE.vals d o (chk_sz hc).1)
  rw [ho]
  clear ho
  have HBA := hidC (below_alloc (Below.refl w.heap.size w) (.cells #[.iface tn xn, .iface t x, .iface t2 x2] 54))
  have HSV := hidC (hs.step HBA.out)
  have HX := hidC (heap_alloc_new w (.cells #[.iface tn xn, .iface t x, .iface t2 x2] 54))
  have HNA := hidC (HSV.out.at_cells HX.out (by decide))
  have HKV := hidC (Kept.of_below (a := a) HBA.out)
  have HHK := hidC (And.intro hv hk)
  have HQ : Hid (ck K id (.iff o l r) d k = if (rk K d o).e ≠ 0 then ⟨[], [], (rk K d o).e⟩ else if (rk K d o).known = true then (if 0 < (rk K d o).n then ck K id l d k else ck K id r d k) else ⟨[], waitN K d o, 0⟩) := rfl
  simp only [C.weight] at hlf hlw
  clear hs hv hk hE hL hR hok hc
  go_enter Try.func50, Try.ntmps50
  go_wp2_with fail
  refine (HN.out _ HSV.out).mono ?_
  rintro e w1 ⟨rfl, hs1, hk1⟩
  have HX1 := hidC (hk1.cells HX.out HNA.out (by decide) (by decide))
  have HS1 := hidC hs1
  have HK1 := hidC (HKV.out.trans hk1)
  clear hs1 hk1
  have c1 : w1.cell? ⟨w.heap.size, 1, none⟩ = some (.iface t x) := cell_of_row _ _ 1 _ _ _ HX1.out
  have c2 : w1.cell? ⟨w.heap.size, 2, none⟩ = some (.iface t2 x2) := cell_of_row _ _ 2 _ _ _ HX1.out
  unfold numW at HS1
  generalize rk K d o = y at *
  obtain ⟨n, known, e⟩ := y
  simp only at HQ HS1
  unfold ofE
  simp only
  by_cases he : e = 0
  · subst he
    rw [if_neg (by simp)] at HQ HS1
    cases known
    · rw [if_neg (by simp)] at HQ HS1
      go_wp2_with fail
      go_ret
      rw [HQ.out, List.append_nil]
      exact ⟨rfl, HS1.out, HK1.out⟩
    · rw [if_pos rfl] at HQ HS1
      by_cases hn : 0 < n
      · rw [if_pos hn] at HQ
        go_wp2_with fail
        refine (HL.out w1 F W d k HS1.out hd1 hd2 HHK.out.1 HHK.out.2 (by omega) (by omega)).mono ?_
        rintro e w2 ⟨rfl, hs2, hk2⟩
        have HS2 := hidC hs2
        have HK2 := hidC (HK1.out.trans hk2)
        clear hs2 hk2
        go_wp2_with fail
        go_ret
        rw [HQ.out]
        exact ⟨rfl, HS2.out, HK2.out⟩
      · rw [if_neg hn] at HQ
        go_wp2_with fail
        refine (HR.out w1 F W d k HS1.out hd1 hd2 HHK.out.1 HHK.out.2 (by omega) (by omega)).mono ?_
        rintro e w2 ⟨rfl, hs2, hk2⟩
        have HS2 := hidC hs2
        have HK2 := hidC (HK1.out.trans hk2)
        clear hs2 hk2
        go_wp2_with fail
        go_ret
        rw [HQ.out]
        exact ⟨rfl, HS2.out, HK2.out⟩
  · rw [if_pos he] at HQ HS1
    have hkn := (HG.out.err he).2
    simp only at hkn
    subst hkn
    go_wp2_with fail
    go_ret
    rw [HQ.out, List.append_nil]
    exact ⟨rfl, HS1.out, HK1.out⟩

end Go.Proofs.Ytngjlkdpplmpaaa.Ca
namespace Go.Proofs.Ytngjlkdpplmpaaa.Ca
open Go.RowKit Wd Cn Vl
set_option linter.unusedVariables false

set_option maxHeartbeats 2000000 in
set_option maxRecDepth 100000 in
theorem th_or {w0 : World} {p f c : Nat} {K : KW} {id : ByteArray} (hE : Env w0 p f c K id) (a : Nat) (s : ByteArray) (hsz : s.size ≤ 2147483648) (l r : C) (hfl : formC l = true) (hfr : formC r = true) (ihl : ThC w0 a id p K l) (ihr : ThC w0 a id p K r) : ThC w0 a id p K (.or s l r) := by
  intro w F W d k hs hd1 hd2 hv hk hlf hlw
  have HS := hidC hs
  have h0 := fun v xT w => notZero 32 v xT w (by decide)
  have h1 := fun v xT w => notOne 32 v xT w (by decide)
  have h2 := fun v xT w => notGive 32 v xT w (by decide)
  have h3 := fun v xT w => notAnd 32 v xT w (by decide)
  have h4 := fun v xT w => isOr v xT w
  obtain ⟨t, x, he⟩ := form_val l hfl
  obtain ⟨t2, x2, he2⟩ := form_val r hfr
  unfold ThC at ihl ihr
  rw [he] at ihl
  rw [he2] at ihr
  have HC := hidC (or_any hE a s hsz l r t t2 x x2 ihl ihr)
  clear ihl ihr hfl hfr
  have HHK := hidC (And.intro hv hk)
  clear hs hv hk hE
  unfold C.val
  rw [he, he2]
  go_enter Try.func26, Try.ntmps26
  go_wp2_with fail
  refine (HC.out _ F W d k (HS.out.step (below_alloc (Below.refl _ _) _)) hd1 hd2 HHK.out.1 HHK.out.2 hlf hlw).mono ?_
  rintro e w2 ⟨rfl, hs2, hk2⟩
  have HS2 := hidC hs2
  have HK2 := hidC hk2
  clear hs2 hk2
  go_wp2_with fail
  go_ret
  exact ⟨rfl, HS2.out, (Kept.of_below (below_alloc (Below.refl _ _) _)).trans HK2.out⟩

set_option maxHeartbeats 2000000 in
set_option maxRecDepth 100000 in
theorem th_scale {w0 : World} {p f c : Nat} {K : KW} {id : ByteArray} (hE : Env w0 p f c K id) (a : Nat) (o : O) (hok : o.Ok) (hc : chk o = 0) (cc : C) (hf : formC cc = true) (ih : ThC w0 a id p K cc) : ThC w0 a id p K (.scale o cc) := by
  intro w F W d k hs hd1 hd2 hv hk hlf hlw
  have HS := hidC hs
  have h0 := fun v xT w => notZero 30 v xT w (by decide)
  have h1 := fun v xT w => notOne 30 v xT w (by decide)
  have h2 := fun v xT w => notGive 30 v xT w (by decide)
  have h3 := fun v xT w => notAnd 30 v xT w (by decide)
  have h4 := fun v xT w => notOr 30 v xT w (by decide)
  have h5 := fun v xT w => isScale v xT w
  obtain ⟨t, x, he⟩ := form_val cc hf
  obtain ⟨tn, xn, ho⟩ := Vl.form_iface o (chk_sz hc).1
  unfold ThC at ih
  rw [he] at ih
  have HC := hidC (scale_any hE a o hok hc cc t x ih)
  rw [ho] at HC
  clear ih hf hok hc
  have HHK := hidC (And.intro hv hk)
  clear hs hv hk hE
  unfold C.val
  rw [ho, he]
  go_enter Try.func26, Try.ntmps26
  go_wp2_with fail
  refine (HC.out _ F W d k (HS.out.step (below_alloc (Below.refl _ _) _)) hd1 hd2 HHK.out.1 HHK.out.2 hlf hlw).mono ?_
  rintro e w2 ⟨rfl, hs2, hk2⟩
  have HS2 := hidC hs2
  have HK2 := hidC hk2
  clear hs2 hk2
  go_wp2_with fail
  go_ret
  exact ⟨rfl, HS2.out, (Kept.of_below (below_alloc (Below.refl _ _) _)).trans HK2.out⟩

set_option maxHeartbeats 2000000 in
set_option maxRecDepth 100000 in
theorem th_if {w0 : World} {p f c : Nat} {K : KW} {id : ByteArray} (hE : Env w0 p f c K id) (a : Nat) (o : O) (hok : o.Ok) (hc : chk o = 0) (l r : C) (hfl : formC l = true) (hfr : formC r = true) (ihl : ThC w0 a id p K l) (ihr : ThC w0 a id p K r) : ThC w0 a id p K (.iff o l r) := by
  intro w F W d k hs hd1 hd2 hv hk hlf hlw
  have HS := hidC hs
  have h0 := fun v xT w => notZero 54 v xT w (by decide)
  have h1 := fun v xT w => notOne 54 v xT w (by decide)
  have h2 := fun v xT w => notGive 54 v xT w (by decide)
  have h3 := fun v xT w => notAnd 54 v xT w (by decide)
  have h4 := fun v xT w => notOr 54 v xT w (by decide)
  have h5 := fun v xT w => notScale 54 v xT w (by decide)
  have h6 := fun v xT w => notWhen 54 v xT w (by decide)
  have h7 := fun v xT w => isIf1 v xT w
  obtain ⟨t, x, he⟩ := form_val l hfl
  obtain ⟨t2, x2, he2⟩ := form_val r hfr
  unfold ThC at ihl ihr
  rw [he] at ihl
  rw [he2] at ihr
  obtain ⟨tn, xn, ho⟩ := Vl.form_iface o (chk_sz hc).1
  have HC := hidC (if_any hE a o hok hc l r t t2 x x2 ihl ihr)
  rw [ho] at HC
  clear ihl ihr hfl hfr hok hc
  have HHK := hidC (And.intro hv hk)
  clear hs hv hk hE
  unfold C.val
  rw [ho, he, he2]
  go_enter Try.func26, Try.ntmps26
  go_wp2_with fail
  refine (HC.out _ F W d k HS.out hd1 hd2 HHK.out.1 HHK.out.2 hlf hlw).mono ?_
  rintro e w2 ⟨rfl, hs2, hk2⟩
  have HS2 := hidC hs2
  have HK2 := hidC hk2
  clear hs2 hk2
  go_wp2_with fail
  go_ret
  exact ⟨rfl, HS2.out, HK2.out⟩

theorem chk_of {o : O} (h : formB o = true) (hn : o.nodes ≤ 60) (hd : o.depth ≤ 12) : chk o = 0 := by
  unfold chk
  rw [if_pos h, if_neg (by omega)]
theorem through_any {w0 : World} {p f q : Nat} {K : KW} {id : ByteArray} (hE : Env w0 p f q K id) (a : Nat) (c : C) : formC c = true → c.Ok → c.nodes ≤ 60 → c.depth ≤ 12 → ThC w0 a id p K c := by
  induction c with
  | zero => intro _ _ _ _; exact th_zero w0 a id p K
  | one s => intro _ _ _ _; exact th_one w0 a id p K s
  | odd v => intro h; simp [formC] at h
  | give c ih => intro hf hok hn hd; simp only [C.nodes, C.depth] at hn hd; exact th_give w0 a id p K c hf (ih hf hok (by omega) (by omega))
  | when d' c ih =>
    intro hf hok hn hd
    simp only [C.nodes, C.depth] at hn hd
    have h2 := hf
    simp only [formC, Bool.and_eq_true] at h2
    exact th_when w0 a id p K d' c hf (ih h2.2 hok.2 (by omega) (by omega))
  | and l r hl hr =>
    intro hf hok hn hd
    simp only [C.nodes, C.depth] at hn hd
    simp only [formC, Bool.and_eq_true] at hf
    exact th_and w0 a id p K l r hf.1 hf.2 (hl hf.1 hok.1 (by omega) (by omega)) (hr hf.2 hok.2 (by omega) (by omega))
  | or s l r hl hr =>
    intro hf hok hn hd
    simp only [C.nodes, C.depth] at hn hd
    simp only [formC, Bool.and_eq_true] at hf
    exact th_or hE a s hok.1 l r hf.1.2 hf.2 (hl hf.1.2 hok.2.1 (by omega) (by omega)) (hr hf.2 hok.2.2 (by omega) (by omega))
  | scale o c ih =>
    intro hf hok hn hd
    simp only [C.nodes, C.depth] at hn hd
    simp only [formC, Bool.and_eq_true] at hf
    exact th_scale hE a o hok.1 (chk_of hf.1 (by omega) (by omega)) c hf.2 (ih hf.2 hok.2 (by omega) (by omega))
  | iff o l r hl hr =>
    intro hf hok hn hd
    simp only [C.nodes, C.depth] at hn hd
    simp only [formC, Bool.and_eq_true] at hf
    exact th_if hE a o hok.1 (chk_of hf.1.1 (by omega) (by omega)) l r hf.1.2 hf.2 (hl hf.1.2 hok.2.1 (by omega) (by omega)) (hr hf.2 hok.2.2 (by omega) (by omega))
theorem form_weight (c : C) (h : formC c = true) : c.weight = c.nodes := by
  induction c with
  | zero => rfl
  | one s => rfl
  | odd v => simp [formC] at h
  | give c ih => simp only [C.weight, C.nodes]; rw [ih h]
  | when d c ih => simp only [formC, Bool.and_eq_true] at h; simp only [C.weight, C.nodes]; rw [ih h.2]
  | and l r hl hr => simp only [formC, Bool.and_eq_true] at h; simp only [C.weight, C.nodes]; rw [hl h.1, hr h.2]
  | or s l r hl hr => simp only [formC, Bool.and_eq_true] at h; simp only [C.weight, C.nodes]; rw [hl h.1.2, hr h.2]
  | scale o c ih => simp only [formC, Bool.and_eq_true] at h; simp only [C.weight, C.nodes]; rw [ih h.2]
  | iff o l r hl hr => simp only [formC, Bool.and_eq_true] at h; simp only [C.weight, C.nodes]; rw [hl h.1.2, hr h.2]
/-- What a right contract is. -/
theorem chkC_ok {c : C} (h : chkC c = 0) : formC c = true ∧ c.nodes ≤ 60 ∧ c.depth ≤ 12 ∧ twice c.labels = false := by
  unfold chkC at h
  split at h
  · rename_i h1
    split at h
    · cases h
    · rename_i h2
      split at h
      · cases h
      · rename_i h3
        exact ⟨h1, by omega, by omega, by simpa using h3⟩
  · cases h
theorem Env.below {w0 w : World} {p f c : Nat} {K : KW} {id : ByteArray} (h : Env w0 p f c K id) (hb : Below w0.heap.size w0 w) : Env w p f c K id := ⟨h.kin.below hb, h.vals, h.chs, h.idl⟩

/-- What cash.Of answers. -/
def ofK (K : KW) (id : ByteArray) (c : C) (d : Int) : Ck := if chkC c = 0 ∧ 0 ≤ d ∧ d ≤ 10000 then (if (ck K id c d 1).e = 0 then ⟨(ck K id c d 1).f, addW [] (ck K id c d 1).w, 0⟩ else ⟨[], [], (ck K id c d 1).e⟩) else ⟨[], [], 1⟩
def OfPost (w : World) (r : Ck) (e : Ending) (w' : World) : Prop := ∃ vF vW, e = .returned (.tuple #[vF, vW, .int .i64 r.e]) ∧ w'.ownsRow w.heap.size 46 3 vF r.f.length (rowFl r.f) ∧ w'.ownsRow w.heap.size 43 5 vW r.w.length (rowWt r.w) ∧ Below w.heap.size w w'
theorem OfPost.none (w w' : World) (e : Int) (h : Below w.heap.size w w') : OfPost w ⟨[], [], e⟩ (.returned (.tuple #[.slice none 0 0, .slice none 0 0, .int .i64 e])) w' := ⟨_, _, rfl, World.ownsRow_nil _ _ _ _, World.ownsRow_nil _ _ _ _, h⟩

set_option maxHeartbeats 2000000 in
set_option maxRecDepth 100000 in
theorem cash_any (c : C) (hok : c.Ok) (hsz : c.weight ≤ 1000000) (w : World) (p f q : Nat) (K : KW) (id : ByteArray) (hE : Env w p f q K id) (d : Int) (hd : dayOk d) :
    Calls Try.prog 11 #[.string id, c.val, .int .i64 d, .pointer (some ⟨p, 0, none⟩)] w (OfPost w (ofK K id c d)) := by
  have HCH := hidC (checkT_any c hok hsz w)
  have HE := hidC hE
  have HOK := hidC hok
  have hd' := hd
  unfold dayOk at hd'
  clear hE hok hd
  by_cases hc : chkC c = 0
  rotate_left
  · have HQ : Hid (ofK K id c d = ⟨[], [], 1⟩) := by unfold Hid ofK; rw [if_neg (fun h => hc h.1)]
    have hc' : (chkC c != 0) = true := by simpa using hc
    go_enter Try.func11, Try.ntmps11
    go_wp2_with fail
    refine HCH.out.mono ?_
    rintro e w1 ⟨rfl, hb1⟩
    go_wp2_with fail
    go_ret3
    rw [HQ.out]
    exact OfPost.none _ _ _ hb1
  · rw [hc] at HCH
    by_cases hr : 0 ≤ d ∧ d ≤ 10000
    rotate_left
    · have HQ : Hid (ofK K id c d = ⟨[], [], 1⟩) := by unfold Hid ofK; rw [if_neg (fun h => hr h.2)]
      rcases (by omega : d < 0 ∨ (0 ≤ d ∧ 10000 < d)) with h1 | ⟨h1, h2⟩
      all_goals
        clear hr
        go_enter Try.func11, Try.ntmps11
        go_wp2_with fail
        refine HCH.out.mono ?_
        rintro e w1 ⟨rfl, hb1⟩
        go_wp2_with fail
        go_ret3
        rw [HQ.out]
        exact OfPost.none _ _ _ hb1
    · obtain ⟨h1, h2⟩ := hr
      have HQ : Hid (ofK K id c d = if (ck K id c d 1).e = 0 then ⟨(ck K id c d 1).f, addW [] (ck K id c d 1).w, 0⟩ else ⟨[], [], (ck K id c d 1).e⟩) := by unfold Hid ofK; rw [if_pos ⟨hc, h1, h2⟩]
      obtain ⟨k1, k2, k3, k4⟩ := chkC_ok hc
      have hw60 : c.weight ≤ 60 := by rw [form_weight c k1]; exact k2
      have HTH := hidC (fun (w0 : World) (a : Nat) (hE : Env w0 p f q K id) => through_any hE a c k1 HOK.out k2 k3)
      clear k1 k2 k3 k4 hc
      go_enter Try.func11, Try.ntmps11
      go_wp2_with fail
      refine HCH.out.mono ?_
      rintro e w1 ⟨rfl, hb1⟩
      have HB1 := hidC hb1
      clear hb1
      go_wp2_with fail
      have HS0 : Hid (StA w1 (w1.alloc (.cells (mkA id p (.slice none 0 0) (.slice none 0 0)) 91)) w1.heap.size id p [] []) :=
        ⟨⟨_, _, ⟨heap_alloc_new _ _, World.ownsRow_nil _ _ _ _, World.ownsRow_nil _ _ _ _, Nat.le_refl _⟩⟩, below_alloc (Below.refl _ _) _⟩
      unfold mkA at HS0
      refine (HTH.out w1 w1.heap.size (HE.out.below HB1.out) _ [] [] d 1 HS0.out h1 h2 (by rfl) (by omega) (by simp; omega) (by simp; omega)).mono ?_
      rintro e w2 ⟨rfl, hs2, hk2⟩
      rw [List.nil_append] at hs2
      obtain ⟨⟨vF, vW, hin⟩, hb2⟩ := hs2
      have HIN := hidC hin
      have HB2 := hidC (HB1.out.trans (hb2.mono HB1.out.size))
      have c2 := hin.cell2 (twoA id p)
      have c3 := hin.cell3 (twoA id p)
      have HBB := hidC HB1.out.size
      clear hin hb2 hk2
      generalize ck K id c d 1 = x at *
      obtain ⟨xf, xw, xe⟩ := x
      simp only at HQ HIN c2 c3 ⊢
      by_cases he : xe = 0
      · subst he
        rw [if_pos rfl] at HQ
        obtain ⟨ao, cap, rfl⟩ := row_shape HIN.out.rf
        obtain ⟨ao2, cap2, rfl⟩ := row_shape HIN.out.rw'
        go_wp2_with fail
        go_region
        go_wp2_with fail
        go_ret3
        rw [HQ.out]
        exact ⟨_, _, rfl, ownsRow_base HIN.out.rf HBB.out, ownsRow_base HIN.out.rw' HBB.out, HB2.out.drew⟩
      · rw [if_neg he] at HQ
        have he' : (xe != 0) = true := by simpa using he
        go_wp2_with fail
        go_ret3
        rw [HQ.out]
        exact OfPost.none _ _ _ HB2.out

end Go.Proofs.Ytngjlkdpplmpaaa.Ca
namespace Go.Proofs.Ytngjlkdpplmpaaa.Vl
open Go.RowKit Wd Cn
set_option linter.unusedVariables false

theorem rin_gr {w w' : World} {B r M : Nat} {K : KW} {vF vC : Value} (h : RIn w B r K vF vC) (hg : Gr M w w') (hM : ∃ es cl, w.heap[M]? = some (.map es cl)) : RIn w' B r K vF vC := by
  obtain ⟨es, cl, hm⟩ := hM
  have hr : r ≠ M := by
    rintro rfl
    have := h.blk
    rw [hm] at this
    cases this
  have hgb : w.grownBy w' (some M) := ⟨hg.os, hg.tape, hg.output, hg.size, fun k hk hne => hg.block k hk (fun e => hne (by rw [e]))⟩
  refine ⟨(hg.block r (Array.getElem?_eq_some_iff.1 h.blk).1 hr).trans h.blk, h.rf.kept hgb ?_, h.rc.kept hgb ?_, h.hr⟩
  · right
    intro e
    obtain ⟨cs, hc⟩ := row_block h.rf e
    rw [hm] at hc
    cases hc
  · right
    intro e
    obtain ⟨cs, hc⟩ := row_block h.rc e
    rw [hm] at hc
    cases hc
theorem rt_cells {B r : Nat} {w w' : World} (h : RT B r w w') {k : Nat} {cs : Array Value} {t : TypeId} (hk : w.heap[k]? = some (.cells cs t)) (hr : k ≠ r) (h1 : t ≠ 180) (h2 : t ≠ 148) : w'.heap[k]? = some (.cells cs t) := by
  rw [h.kept k (Array.getElem?_eq_some_iff.1 hk).1 hr (fun cs' e => ?_) (fun cs' e => ?_)]
  · exact hk
  · rw [hk] at e; injection e with e; injection e with _ e; exact h1 e
  · rw [hk] at e; injection e with e; injection e with _ e; exact h2 e
theorem rt_map {B r : Nat} {w w' : World} (h : RT B r w w') {k : Nat} {es : Array MapEntry} {cl : Nat} (hk : w.heap[k]? = some (.map es cl)) (hr : k ≠ r) : w'.heap[k]? = w.heap[k]? :=
  h.kept k (Array.getElem?_eq_some_iff.1 hk).1 hr (fun cs e => by rw [hk] at e; cases e) (fun cs e => by rw [hk] at e; cases e)
theorem in_rt {w0 W W' : World} {p f c r B : Nat} {K Kr : KW} {vF vC : Value} (h : In w0 W p f c K) (hr : RIn W B r Kr vF vC) (hB : w0.heap.size ≤ B) (ht : RT B r W W') : In w0 W' p f c K := by
  have hpr : p ≠ r := by
    rintro rfl
    have := h.kin.blk
    rw [hr.blk] at this
    injection this with e
    injection e with _ e
    exact absurd e (by decide)
  obtain ⟨es1, c1, m1, l1⟩ := h.kin.fix
  obtain ⟨es2, c2, m2, l2⟩ := h.kin.ch
  have hfr : f ≠ r := by
    rintro rfl
    rw [hr.blk] at m1
    cases m1
  have hcr : c ≠ r := by
    rintro rfl
    rw [hr.blk] at m2
    cases m2
  refine ⟨h.kin.same ?_ (rt_map ht m1 hfr) (rt_map ht m2 hcr), h.below.trans (ht.below.mono hB), h.hp, h.hf, h.hc⟩
  rw [rt_cells ht h.kin.blk hpr (by decide) (by decide), h.kin.blk]

/-- Both worlds in memory, with what each knows; the one from w0 on, the other from block B on. -/
structure Bo (w0 W : World) (p f c r B : Nat) (Kc Kr : KW) : Prop where
  i : In w0 W p f c Kc
  rr : ∃ vF vC, RIn W B r Kr vF vC
  hB : w0.heap.size ≤ B
  hBW : B ≤ W.heap.size
theorem Bo.step {w0 W W' : World} {p f c r B : Nat} {Kc Kr : KW} (h : Bo w0 W p f c r B Kc Kr) (hb : Below W.heap.size W W') : Bo w0 W' p f c r B Kc Kr := by
  obtain ⟨vF, vC, hr⟩ := h.rr
  exact ⟨h.i.step hb, ⟨vF, vC, hr.below hb⟩, h.hB, Nat.le_trans h.hBW hb.size⟩
theorem Bo.gr {w0 W W' : World} {p f c r B M : Nat} {Kc Kc' Kr : KW} (h : Bo w0 W p f c r B Kc Kr) (hk : KIn W' p f c Kc') (hg : Gr M W W') (hM : w0.heap.size ≤ M) (hm : ∃ es cl, W.heap[M]? = some (.map es cl)) : Bo w0 W' p f c r B Kc' Kr := by
  obtain ⟨vF, vC, hr⟩ := h.rr
  exact ⟨h.i.gr hk hg hM, ⟨vF, vC, rin_gr hr hg hm⟩, h.hB, Nat.le_trans h.hBW hg.size⟩
theorem Bo.rt {w0 W W' : World} {p f c r B : Nat} {Kc Kr Kr' : KW} (h : Bo w0 W p f c r B Kc Kr) (hk : ∃ vF vC, RIn W' B r Kr' vF vC) (ht : RT B r W W') : Bo w0 W' p f c r B Kc Kr' := by
  obtain ⟨vF, vC, hr⟩ := h.rr
  exact ⟨in_rt h.i hr h.hB ht, hk, h.hB, Nat.le_trans h.hBW ht.below.size⟩
theorem Bo.mapF {w0 W : World} {p f c r B : Nat} {Kc Kr : KW} (h : Bo w0 W p f c r B Kc Kr) : ∃ es cl, W.heap[f]? = some (.map es cl) := by
  obtain ⟨es, cl, hm, _⟩ := h.i.kin.fix
  exact ⟨es, cl, hm⟩
/-- What stands beside both stays: what is neither map, nor the document's world, nor a row of it. -/
theorem bo_fix {w0 W : World} {p f c r B : Nat} {Kc Kr : KW} (h : Bo w0 W p f c r B Kc Kr) (s : ByteArray) (d v : Int) (hk : fixOk (s, d)) :
    Calls Try.prog 15 #[.pointer (some ⟨p, 0, none⟩), .string s, .int .i64 d, .int .i64 v] W fun e w' => e = .returned (.int .i64 (fixE Kc s d v)) ∧ Bo w0 w' p f c r B (fixN Kc s d v) Kr ∧ Gr f W w' :=
  (fix_any W p f c Kc h.i.kin s d v hk).mono fun e w' h1 => ⟨h1.1, h.gr h1.2.1 h1.2.2 h.i.hf h.mapF, h1.2.2⟩
theorem bo_rfix {w0 W : World} {p f c r B : Nat} {Kc Kr : KW} (h : Bo w0 W p f c r B Kc Kr) (s : ByteArray) (d v : Int) (hs : s.size ≤ 1000000) (hl : Kr.F.length ≤ 1000) :
    Calls Try.prog 58 #[.pointer (some ⟨r, 0, none⟩), .string s, .int .i64 d, .int .i64 v] W fun e w' => e = .returned (.int .i64 (fixE Kr s d v)) ∧ Bo w0 w' p f c r B Kc (fixN Kr s d v) ∧ RT B r W w' := by
  obtain ⟨vF, vC, hr⟩ := h.rr
  exact (refFix_any W _ r Kr vF vC hr h.hBW s d v hs hl).mono fun e w' h1 => ⟨h1.1, h.rt h1.2.1 h1.2.2, h1.2.2⟩

end Go.Proofs.Ytngjlkdpplmpaaa.Vl
