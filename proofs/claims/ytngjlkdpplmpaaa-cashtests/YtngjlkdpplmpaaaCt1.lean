/- What a contract pays, and waits for, as a plain function of what is known. -/
import Derived.Test.YtngjlkdpplmpaaaVLaws0
import Derived.Test.YtngjlkdpplmpaaaRefChk
import Derived.Test.YtngjlkdpplmpaaaR05
import Derived.Test.YtngjlkdpplmpaaaV2
import Derived.Test.YtngjlkdpplmpaaaR06
import Derived.Test.YtngjlkdpplmpaaaMixP
import Derived.Test.YtngjlkdpplmpaaaMix
namespace Go.Proofs.Ytngjlkdpplmpaaa.Ca
open Go.RowKit Wd Cn Vl
set_option linter.unusedVariables false

/-- A payment. -/
structure Fl where
  day : Int
  cur : ByteArray
  amt : Int
/-- What is waited for. -/
structure Wt where
  ch : Bool
  name : ByteArray
  label : ByteArray
  day : Int
  side : Int
theorem wt_iff (a b : Wt) : (a.ch = b.ch ∧ a.name = b.name ∧ a.label = b.label ∧ a.day = b.day ∧ a.side = b.side) ↔ a = b := by
  cases a; cases b; simp
instance : DecidableEq Wt := fun a b => decidable_of_iff _ (wt_iff a b)
/-- What a walk meets: payments, waits (each as often as it is met), the first error. -/
structure Ck where
  f : List Fl
  w : List Wt
  e : Int
def Ck.seq (a b : Ck) : Ck := if a.e ≠ 0 then a else ⟨a.f ++ b.f, a.w ++ b.w, b.e⟩
def side (k : Int) : Int := if 0 < k then 0 else 1
def nameW (d : Int) (s : ByteArray) : Wt := ⟨false, s, ByteArray.empty, d, 0⟩
def chW (d : Int) (s : ByteArray) (k : Int) : Wt := ⟨true, ByteArray.empty, s, d, side k⟩
def waitN (K : KW) (d : Int) (o : O) : List Wt := (lackN K d o.names).map (nameW d)
def ck (K : KW) (id : ByteArray) : C → Int → Int → Ck
  | .zero, _, _ => ⟨[], [], 0⟩
  | .one s, d, k => ⟨[⟨d, s, k⟩], [], 0⟩
  | .give c, d, k => ck K id c d (-k)
  | .and l r, d, k => (ck K id l d k).seq (ck K id r d k)
  | .when d' c, d, k => ck K id c (Max.max d d') k
  | .or s l r, d, k => match K.chosen (id, s) with
    | none => ⟨[], [chW d s k], 0⟩
    | some p => if p.1 = 0 then ck K id l (Max.max d p.2) k else ck K id r (Max.max d p.2) k
  | .scale o c, d, k => if (rk K d o).e ≠ 0 then ⟨[], [], (rk K d o).e⟩ else if (rk K d o).known = true then (if (mulR k (rk K d o).n).2 = true then (if (mulR k (rk K d o).n).1 = 0 then ⟨[], [], 0⟩ else ck K id c d (mulR k (rk K d o).n).1) else ⟨[], [], 6⟩) else ⟨[], waitN K d o, 0⟩
  | .iff o l r, d, k => if (rk K d o).e ≠ 0 then ⟨[], [], (rk K d o).e⟩ else if (rk K d o).known = true then (if 0 < (rk K d o).n then ck K id l d k else ck K id r d k) else ⟨[], waitN K d o, 0⟩
  | .odd _, _, _ => ⟨[], [], 0⟩

/-- A wait more, but once. -/
def putW (W : List Wt) (y : Wt) : List Wt := if y ∈ W then W else W ++ [y]
def addW (W ys : List Wt) : List Wt := ys.foldl putW W
/-- As the document keeps them: a name's but once. -/
def putR (W : List Wt) (y : Wt) : List Wt := if y.ch = false ∧ y ∈ W then W else W ++ [y]
def addRf (W ys : List Wt) : List Wt := ys.foldl putR W
theorem addW_app (W a b : List Wt) : addW W (a ++ b) = addW (addW W a) b := by simp [addW]
theorem addRf_app (W a b : List Wt) : addRf W (a ++ b) = addRf (addRf W a) b := by simp [addRf]
theorem addW_nil (W : List Wt) : addW W [] = W := rfl
theorem addRf_nil (W : List Wt) : addRf W [] = W := rfl
theorem putW_len (W : List Wt) (y : Wt) : (putW W y).length ≤ W.length + 1 := by unfold putW; split <;> simp
theorem putR_len (W : List Wt) (y : Wt) : (putR W y).length ≤ W.length + 1 := by unfold putR; split <;> simp
theorem addW_len (ys : List Wt) : ∀ W, (addW W ys).length ≤ W.length + ys.length := by
  induction ys with
  | nil => intro W; simp [addW]
  | cons y ys ih => intro W; have h1 := ih (putW W y); have h2 := putW_len W y; simp only [addW, List.foldl_cons, List.length_cons] at h1 ⊢; omega
theorem addRf_len (ys : List Wt) : ∀ W, (addRf W ys).length ≤ W.length + ys.length := by
  induction ys with
  | nil => intro W; simp [addRf]
  | cons y ys ih => intro W; have h1 := ih (putR W y); have h2 := putR_len W y; simp only [addRf, List.foldl_cons, List.length_cons] at h1 ⊢; omega
theorem putW_mem (W : List Wt) (y z : Wt) : z ∈ putW W y ↔ z ∈ W ∨ z = y := by
  unfold putW
  split
  · rename_i h
    exact ⟨.inl, fun h1 => h1.elim id (fun e => by rw [e]; exact h)⟩
  · simp
theorem addW_mem (ys : List Wt) : ∀ (W : List Wt) (z : Wt), z ∈ addW W ys ↔ z ∈ W ∨ z ∈ ys := by
  induction ys with
  | nil => intro W z; simp [addW]
  | cons y ys ih =>
    intro W z
    have h := ih (putW W y) z
    simp only [addW, List.foldl_cons, List.mem_cons] at h ⊢
    rw [h, putW_mem, or_assoc]

/-! ### labels stand once, so the document's waits are the program's -/
def chLab (ys : List Wt) : List ByteArray := (ys.filter (·.ch)).map (·.label)
theorem chLab_app (a b : List Wt) : chLab (a ++ b) = chLab a ++ chLab b := by simp [chLab]
theorem chLab_names (d : Int) (l : List ByteArray) : chLab (l.map (nameW d)) = [] := by
  induction l with
  | nil => rfl
  | cons s l ih => simp [chLab, nameW]
theorem ck_labels (K : KW) (id : ByteArray) (c : C) : ∀ d k, (chLab (ck K id c d k).w).Sublist c.labels := by
  induction c with
  | zero => intro d k; exact List.nil_sublist _
  | one s => intro d k; exact List.nil_sublist _
  | odd v => intro d k; exact List.nil_sublist _
  | give c ih => intro d k; exact ih d (-k)
  | when d' c ih => intro d k; exact ih _ k
  | and l r hl hr =>
    intro d k
    simp only [ck, Ck.seq, C.labels]
    split
    · exact (hl d k).trans (List.sublist_append_left _ _)
    · simp only [chLab_app]
      exact (hl d k).append (hr d k)
  | or s l r hl hr =>
    intro d k
    simp only [ck, C.labels]
    cases K.chosen (id, s) with
    | none => simp [chLab, chW]
    | some p =>
      simp only
      split
      · exact ((hl _ k).trans (List.sublist_append_left _ _)).cons _
      · exact ((hr _ k).trans (List.sublist_append_right _ _)).cons _
  | scale o c ih =>
    intro d k
    simp only [ck, C.labels]
    split
    · exact List.nil_sublist _
    · split
      · split
        · split
          · exact List.nil_sublist _
          · exact ih _ _
        · exact List.nil_sublist _
      · show (chLab (waitN K d o)).Sublist _
        unfold waitN
        rw [chLab_names]
        exact List.nil_sublist _
  | iff o l r hl hr =>
    intro d k
    simp only [ck, C.labels]
    split
    · exact List.nil_sublist _
    · split
      · split
        · exact (hl _ k).trans (List.sublist_append_left _ _)
        · exact (hr _ k).trans (List.sublist_append_right _ _)
      · show (chLab (waitN K d o)).Sublist _
        unfold waitN
        rw [chLab_names]
        exact List.nil_sublist _
theorem addRf_eq (ys : List Wt) : ∀ W : List Wt, (chLab ys).Nodup → (∀ z ∈ W, z.ch = true → z.label ∉ chLab ys) → addRf W ys = addW W ys := by
  induction ys with
  | nil => intro W _ _; rfl
  | cons y ys ih =>
    intro W hn hd
    have e : putR W y = putW W y := by
      unfold putR putW
      cases hy : y.ch
      · simp
      · rw [if_neg (by simp)]
        rw [if_neg (fun hm => hd y hm hy (by simp [chLab, hy]))]
    show addRf (putR W y) ys = addW (putW W y) ys
    rw [e]
    refine ih _ ?_ ?_
    · cases hy : y.ch
      · simpa [chLab, hy] using hn
      · simp [chLab, hy] at hn; exact hn.2
    · intro z hz hc
      rcases (putW_mem W y z).1 hz with h | h
      · intro h2
        refine hd z h hc ?_
        cases hy : y.ch
        · simpa [chLab, hy] using h2
        · simp only [chLab, List.filter_cons, hy, if_true, List.map_cons, List.mem_cons]; exact .inr h2
      · subst h
        simp [chLab, hc] at hn
        intro h2
        obtain ⟨u, hu, hl⟩ := List.mem_map.1 h2
        rw [List.mem_filter] at hu
        exact hn.1 u hu.1 hu.2 hl
/-- The waits of a contract whose labels stand once. -/
theorem ck_once (K : KW) (id : ByteArray) (c : C) (d k : Int) (h : twice c.labels = false) : addRf [] (ck K id c d k).w = addW [] (ck K id c d k).w := by
  refine addRf_eq _ _ ?_ (by simp)
  refine (ck_labels K id c d k).nodup ?_
  apply Classical.byContradiction
  intro hn
  rw [(twice_iff c.labels).2 hn] at h
  cases h

/-! ### how much -/
theorem lackN_len (K : KW) (d : Int) (o : O) : (waitN K d o).length ≤ o.nodes := by
  unfold waitN
  rw [List.length_map]
  exact Nat.le_trans (lackN_length _ _ _) (names_length o)
theorem ck_len (K : KW) (id : ByteArray) (c : C) : ∀ d k, (ck K id c d k).f.length ≤ c.weight ∧ (ck K id c d k).w.length ≤ c.weight := by
  induction c with
  | zero => intro d k; simp [ck]
  | one s => intro d k; simp [ck, C.weight]
  | odd v => intro d k; simp [ck]
  | give c ih => intro d k; have := ih d (-k); simp only [ck, C.weight]; omega
  | when d' c ih => intro d k; have := ih (Max.max d d') k; simp only [ck, C.weight]; omega
  | and l r hl hr =>
    intro d k
    have h1 := hl d k
    have h2 := hr d k
    simp only [ck, Ck.seq, C.weight]
    split
    · omega
    · simp only [List.length_append]; omega
  | or s l r hl hr =>
    intro d k
    simp only [ck, C.weight]
    cases K.chosen (id, s) with
    | none => simp
    | some p =>
      have h1 := hl (Max.max d p.2) k
      have h2 := hr (Max.max d p.2) k
      simp only
      split <;> omega
  | scale o c ih =>
    intro d k
    have h1 := ih d (mulR k (rk K d o).n).1
    have h2 := lackN_len K d o
    simp only [ck, C.weight]
    split
    · simp
    · split
      · split
        · split
          · simp
          · omega
        · simp
      · simp only [List.length_nil]; omega
  | iff o l r hl hr =>
    intro d k
    have h1 := hl d k
    have h3 := hr d k
    have h2 := lackN_len K d o
    simp only [ck, C.weight]
    split
    · simp
    · split
      · split <;> omega
      · simp only [List.length_nil]; omega

/-! ### so many times -/
def Fl.times (n : Int) (x : Fl) : Fl := ⟨x.day, x.cur, n * x.amt⟩
def Wt.turn (n : Int) (y : Wt) : Wt := if y.ch = true ∧ n < 0 then ⟨y.ch, y.name, y.label, y.day, 1 - y.side⟩ else y
theorem turn_name (n d : Int) (s : ByteArray) : (nameW d s).turn n = nameW d s := by simp [Wt.turn, nameW]
theorem vB_less (n y : Int) (hn : n ≠ 0) (h : vB (n * y) = true) : vB y = true := by
  rw [vB_iff] at *
  have h1 : (n * y).natAbs = n.natAbs * y.natAbs := Int.natAbs_mul n y
  have h2 : 1 ≤ n.natAbs := by omega
  have h3 : y.natAbs ≤ n.natAbs * y.natAbs := Nat.le_mul_of_pos_left _ h2
  omega
theorem side_times (n k : Int) (hn : n ≠ 0) (hk : k ≠ 0) : side (n * k) = if n < 0 then 1 - side k else side k := by
  unfold side
  rcases Int.lt_or_gt_of_ne hn with h | h
  · rcases Int.lt_or_gt_of_ne hk with g | g
    · have := Int.mul_pos_of_neg_of_neg h g
      rw [if_pos this, if_pos h, if_neg (by omega)]; rfl
    · have := Int.mul_neg_of_neg_of_pos h g
      rw [if_neg (by omega), if_pos h, if_pos g]; rfl
  · rcases Int.lt_or_gt_of_ne hk with g | g
    · have := Int.mul_neg_of_pos_of_neg h g
      rw [if_neg (by omega), if_neg (by omega), if_neg (by omega)]
    · have := Int.mul_pos h g
      rw [if_pos this, if_neg (by omega), if_pos g]
theorem turn_ch (n d k : Int) (s : ByteArray) (hn : n ≠ 0) (hk : k ≠ 0) : (chW d s k).turn n = chW d s (n * k) := by
  unfold chW
  rw [side_times n k hn hk]
  unfold Wt.turn
  by_cases h : n < 0
  · rw [if_pos ⟨rfl, h⟩, if_pos h]
  · rw [if_neg (fun x => h x.2), if_neg h]
theorem mulR_iff (a b : Int) : (mulR a b).2 = true ↔ vB a = true ∧ vB b = true ∧ vB (a * b) = true := by
  unfold mulR
  split
  · rename_i h; simp only [Bool.and_eq_true] at h; simp [h]
  · rename_i h; simp only [Bool.and_eq_true] at h; simp; intro x y; cases hz : vB (a * b)
    · rfl
    · exact absurd ⟨⟨x, y⟩, hz⟩ h
theorem mulR_val (a b : Int) (h : (mulR a b).2 = true) : (mulR a b).1 = a * b := by
  obtain ⟨h1, h2, h3⟩ := (mulR_iff a b).1 h
  unfold mulR
  rw [h1, h2, h3]
  rfl
theorem ck_times (K : KW) (hK : KW.Vals K) (id : ByteArray) (n : Int) (hn : n ≠ 0) (c : C) : formC c = true → ∀ d k, k ≠ 0 → (ck K id c d (n * k)).e = 0 →
    (ck K id c d k).e = 0 ∧ (ck K id c d (n * k)).f = (ck K id c d k).f.map (Fl.times n) ∧ (ck K id c d (n * k)).w = (ck K id c d k).w.map (Wt.turn n) := by
  induction c with
  | zero => intro _ d k _ _; exact ⟨rfl, rfl, rfl⟩
  | one s => intro _ d k _ _; exact ⟨rfl, rfl, rfl⟩
  | odd v => intro _ d k _ _; exact ⟨rfl, rfl, rfl⟩
  | give c ih =>
    intro hf d k hk he
    simp only [ck] at he ⊢
    rw [show -(n * k) = n * (-k) by rw [Int.mul_neg]] at he ⊢
    exact ih hf d (-k) (by omega) he
  | when d' c ih =>
    intro hf d k hk he
    simp only [formC, Bool.and_eq_true] at hf
    exact ih hf.2 _ k hk he
  | and l r hl hr =>
    intro hf d k hk he
    simp only [formC, Bool.and_eq_true] at hf
    simp only [ck, Ck.seq] at he ⊢
    split at he
    · rename_i h; exact absurd he h
    · rename_i h
      have h0 : (ck K id l d (n * k)).e = 0 := by simpa using h
      obtain ⟨a1, a2, a3⟩ := hl hf.1 d k hk h0
      obtain ⟨b1, b2, b3⟩ := hr hf.2 d k hk he
      rw [if_neg h, if_neg (by simpa using a1)]
      exact ⟨b1, by simp only [List.map_append, a2, b2], by simp only [List.map_append, a3, b3]⟩
  | or s l r hl hr =>
    intro hf d k hk he
    simp only [formC, Bool.and_eq_true] at hf
    simp only [ck] at he ⊢
    cases hx : K.chosen (id, s) with
    | none =>
      refine ⟨rfl, rfl, ?_⟩
      simp only [List.map_cons, List.map_nil]
      rw [turn_ch n d k s hn hk]
    | some p =>
      rw [hx] at he
      simp only at he ⊢
      split at he
      · rename_i h; rw [if_pos h, if_pos h]; exact hl hf.1.2 _ k hk he
      · rename_i h; rw [if_neg h, if_neg h]; exact hr hf.2 _ k hk he
  | scale o c ih =>
    intro hf d k hk he
    simp only [formC, Bool.and_eq_true] at hf
    simp only [ck] at he ⊢
    split at he
    · rename_i h; exact absurd he h
    · rename_i h
      rw [if_neg h, if_neg h]
      split at he
      · rename_i h1
        rw [if_pos h1, if_pos h1]
        split at he
        · rename_i h2
          obtain ⟨g1, g2, g3⟩ := (mulR_iff _ _).1 h2
          have e1 := mulR_val _ _ h2
          rw [Int.mul_assoc] at g3 e1
          have h3 : (mulR k (rk K d o).n).2 = true := (mulR_iff _ _).2 ⟨vB_less n k hn g1, g2, vB_less n _ hn g3⟩
          have e2 := mulR_val _ _ h3
          rw [if_pos h2, if_pos h3, e1, e2]
          rw [e1] at he
          by_cases h4 : k * (rk K d o).n = 0
          · rw [if_pos h4, h4, Int.mul_zero, if_pos rfl]; exact ⟨rfl, rfl, rfl⟩
          · have h5 : n * (k * (rk K d o).n) ≠ 0 := Int.mul_ne_zero hn h4
            rw [if_neg h5] at he
            rw [if_neg h4, if_neg h5]
            exact ih hf.2 d _ h4 he
        · cases he
      · rename_i h1
        rw [if_neg h1, if_neg h1]
        refine ⟨rfl, rfl, ?_⟩
        unfold waitN
        rw [List.map_map]
        refine (List.map_congr_left fun s _ => ?_)
        exact (turn_name n d s).symm
  | iff o l r hl hr =>
    intro hf d k hk he
    simp only [formC, Bool.and_eq_true] at hf
    simp only [ck] at he ⊢
    split at he
    · rename_i h; exact absurd he h
    · rename_i h
      rw [if_neg h, if_neg h]
      split at he
      · rename_i h1
        rw [if_pos h1, if_pos h1]
        split at he
        · rename_i h2; rw [if_pos h2, if_pos h2]; exact hl hf.1.2 d k hk he
        · rename_i h2; rw [if_neg h2, if_neg h2]; exact hr hf.2 d k hk he
      · rename_i h1
        rw [if_neg h1, if_neg h1]
        refine ⟨rfl, rfl, ?_⟩
        unfold waitN
        rw [List.map_map]
        refine (List.map_congr_left fun s _ => ?_)
        exact (turn_name n d s).symm
theorem turn_turn (n : Int) (y : Wt) : (y.turn n).turn n = y := by
  unfold Wt.turn
  by_cases h : y.ch = true ∧ n < 0
  · rw [if_pos h, if_pos ⟨h.1, h.2⟩]
    cases y
    simp only [Wt.mk.injEq, true_and]
    omega
  · rw [if_neg h, if_neg h]
theorem turn_inj (n : Int) {a b : Wt} (h : a.turn n = b.turn n) : a = b := by
  rw [← turn_turn n a, h, turn_turn]
theorem addW_turn (n : Int) (ys : List Wt) : ∀ W, addW (W.map (Wt.turn n)) (ys.map (Wt.turn n)) = (addW W ys).map (Wt.turn n) := by
  induction ys with
  | nil => intro W; rfl
  | cons y ys ih =>
    intro W
    show addW (putW (W.map (Wt.turn n)) (y.turn n)) (ys.map (Wt.turn n)) = (addW (putW W y) ys).map (Wt.turn n)
    rw [← ih (putW W y)]
    congr 1
    unfold putW
    by_cases h : y ∈ W
    · rw [if_pos h, if_pos (List.mem_map_of_mem h)]
    · rw [if_neg h, if_neg (fun hm => by obtain ⟨z, hz, e⟩ := List.mem_map.1 hm; rw [turn_inj n e] at hz; exact h hz)]
      simp

end Go.Proofs.Ytngjlkdpplmpaaa.Ca
namespace Go.Proofs.Ytngjlkdpplmpaaa.Ca
open Go.RowKit Wd Cn Vl
set_option linter.unusedVariables false

/-- What was chosen is in range. -/
def KW.Chs (K : KW) : Prop := ∀ q ∈ K.C, (q.2.1 = 0 ∨ q.2.1 = 1) ∧ 0 ≤ q.2.2 ∧ q.2.2 ≤ 10000
theorem chs_at {K : KW} (h : KW.Chs K) {p : ByteArray × ByteArray} {v : Int × Int} (hf : K.chosen p = some v) : (v.1 = 0 ∨ v.1 = 1) ∧ 0 ≤ v.2 ∧ v.2 ≤ 10000 :=
  h _ (find_some K.C p v hf)
theorem dayB_iff (d : Int) : dayB d = true ↔ 0 ≤ d ∧ d ≤ 10000 := by simp [dayB]

/-- The error is that of an amount that is too great, or none. -/
theorem ck_errs (K : KW) (hK : KW.Vals K) (id : ByteArray) (c : C) : formC c = true → ∀ d k, (ck K id c d k).e = 0 ∨ (ck K id c d k).e = 6 := by
  induction c with
  | zero => intro _ d k; exact .inl rfl
  | one s => intro _ d k; exact .inl rfl
  | odd v => intro _ d k; exact .inl rfl
  | give c ih => intro hf d k; exact ih hf d (-k)
  | when d' c ih => intro hf d k; simp only [formC, Bool.and_eq_true] at hf; exact ih hf.2 _ k
  | and l r hl hr =>
    intro hf d k
    simp only [formC, Bool.and_eq_true] at hf
    simp only [ck, Ck.seq]
    split
    · exact hl hf.1 d k
    · exact hr hf.2 d k
  | or s l r hl hr =>
    intro hf d k
    simp only [formC, Bool.and_eq_true] at hf
    simp only [ck]
    cases K.chosen (id, s) with
    | none => exact .inl rfl
    | some p =>
      simp only
      split
      · exact hl hf.1.2 _ k
      · exact hr hf.2 _ k
  | scale o c ih =>
    intro hf d k
    simp only [formC, Bool.and_eq_true] at hf
    simp only [ck]
    split
    · exact (rk_good hK d o hf.1).errs
    · split
      · split
        · split
          · exact .inl rfl
          · exact ih hf.2 _ _
        · exact .inr rfl
      · exact .inl rfl
  | iff o l r hl hr =>
    intro hf d k
    simp only [formC, Bool.and_eq_true] at hf
    simp only [ck]
    split
    · exact (rk_good hK d o hf.1.1).errs
    · split
      · split
        · exact hl hf.1.2 d k
        · exact hr hf.2 d k
      · exact .inl rfl

def Fl.In (d : Int) (x : Fl) : Prop := d ≤ x.day ∧ x.day ≤ 10000 ∧ x.amt ≠ 0 ∧ vB x.amt = true
theorem Fl.In.mono {d d' : Int} {x : Fl} (h : x.In d') (hd : d ≤ d') : x.In d := ⟨Int.le_trans hd h.1, h.2⟩
/-- What is paid is paid on a day from d on, and is not nothing. -/
theorem ck_flows (K : KW) (hC : KW.Chs K) (id : ByteArray) (c : C) : formC c = true → ∀ d k, d ≤ 10000 → k ≠ 0 → vB k = true → ∀ x ∈ (ck K id c d k).f, x.In d := by
  induction c with
  | zero => intro _ d k _ _ _ x hx; simp [ck] at hx
  | one s => intro _ d k hd hk hv x hx; simp [ck] at hx; subst hx; exact ⟨Int.le_refl _, hd, hk, hv⟩
  | odd v => intro _ d k _ _ _ x hx; simp [ck] at hx
  | give c ih => intro hf d k hd hk hv x hx; exact ih hf d (-k) hd (by omega) (vB_neg k hv) x hx
  | when d' c ih =>
    intro hf d k hd hk hv x hx
    simp only [formC, Bool.and_eq_true] at hf
    have h1 := (dayB_iff d').1 hf.1
    exact (ih hf.2 (Max.max d d') k (by omega) hk hv x hx).mono (by omega)
  | and l r hl hr =>
    intro hf d k hd hk hv x hx
    simp only [formC, Bool.and_eq_true] at hf
    simp only [ck, Ck.seq] at hx
    split at hx
    · exact hl hf.1 d k hd hk hv x hx
    · rcases List.mem_append.1 hx with h | h
      · exact hl hf.1 d k hd hk hv x h
      · exact hr hf.2 d k hd hk hv x h
  | or s l r hl hr =>
    intro hf d k hd hk hv x hx
    simp only [formC, Bool.and_eq_true] at hf
    simp only [ck] at hx
    cases hx2 : K.chosen (id, s) with
    | none => rw [hx2] at hx; simp at hx
    | some p =>
      rw [hx2] at hx
      have h1 := chs_at hC hx2
      simp only at hx
      split at hx
      · exact (hl hf.1.2 (Max.max d p.2) k (by omega) hk hv x hx).mono (by omega)
      · exact (hr hf.2 (Max.max d p.2) k (by omega) hk hv x hx).mono (by omega)
  | scale o c ih =>
    intro hf d k hd hk hv x hx
    simp only [formC, Bool.and_eq_true] at hf
    simp only [ck] at hx
    split at hx
    · simp at hx
    · split at hx
      · split at hx
        · rename_i h2
          split at hx
          · simp at hx
          · rename_i h3
            exact ih hf.2 d _ hd h3 (mulR_in _ _ h2) x hx
        · simp at hx
      · simp at hx
  | iff o l r hl hr =>
    intro hf d k hd hk hv x hx
    simp only [formC, Bool.and_eq_true] at hf
    simp only [ck] at hx
    split at hx
    · simp at hx
    · split at hx
      · split at hx
        · exact hl hf.1.2 d k hd hk hv x hx
        · exact hr hf.2 d k hd hk hv x hx
      · simp at hx

/-- What is waited for: a day that may be; a choice that is not made, or a name that is not fixed. -/
structure Wt.In (K : KW) (id : ByteArray) (labels : List ByteArray) (d : Int) (y : Wt) : Prop where
  lo : d ≤ y.day
  hi : y.day ≤ 10000
  side : y.side = 0 ∨ y.side = 1
  ch : y.ch = true → y.name = ByteArray.empty ∧ y.label ∈ labels ∧ K.chosen (id, y.label) = none
  nm : y.ch = false → y.label = ByteArray.empty ∧ y.side = 0 ∧ nameGo 0 (runesOf y.name) = true ∧ y.name.size ≤ 2147483648 ∧ K.fixed (y.name, y.day) = none
theorem Wt.In.mono {K : KW} {id : ByteArray} {l l' : List ByteArray} {d d' : Int} {y : Wt} (h : y.In K id l' d') (hd : d ≤ d') (hl : ∀ s ∈ l', s ∈ l) : y.In K id l d :=
  ⟨Int.le_trans hd h.lo, h.hi, h.side, fun x => ⟨(h.ch x).1, hl _ (h.ch x).2.1, (h.ch x).2.2⟩, h.nm⟩
theorem side_in (k : Int) : side k = 0 ∨ side k = 1 := by unfold side; split <;> simp
theorem waitN_in (K : KW) (id : ByteArray) (l : List ByteArray) (d : Int) (hd : d ≤ 10000) (o : O) (hok : o.Ok) (hf : formB o = true) : ∀ y ∈ waitN K d o, y.In K id l d := by
  intro y hy
  obtain ⟨s, hs, rfl⟩ := List.mem_map.1 hy
  have h := lack_mem hs
  exact ⟨Int.le_refl _, hd, .inl rfl, fun h => (by cases h), fun _ => ⟨rfl, rfl, names_form o hf s h.1, Vl.names_small o hok s h.1, h.2⟩⟩
theorem ck_waits (K : KW) (hC : KW.Chs K) (id : ByteArray) (c : C) : formC c = true → c.Ok → ∀ d k, d ≤ 10000 → ∀ y ∈ (ck K id c d k).w, y.In K id c.labels d := by
  induction c with
  | zero => intro _ _ d k _ x hx; simp [ck] at hx
  | one s => intro _ _ d k _ x hx; simp [ck] at hx
  | odd v => intro _ _ d k _ x hx; simp [ck] at hx
  | give c ih => intro hf hok d k hd x hx; exact ih hf hok d (-k) hd x hx
  | when d' c ih =>
    intro hf hok d k hd x hx
    simp only [formC, Bool.and_eq_true] at hf
    have h1 := (dayB_iff d').1 hf.1
    exact (ih hf.2 hok.2 (Max.max d d') k (by omega) x hx).mono (by omega) (fun _ h => h)
  | and l r hl hr =>
    intro hf hok d k hd x hx
    simp only [formC, Bool.and_eq_true] at hf
    simp only [ck, Ck.seq] at hx
    have hL : ∀ x ∈ (ck K id l d k).w, x.In K id (C.and l r).labels d := fun x h => (hl hf.1 hok.1 d k hd x h).mono (Int.le_refl _) (fun s h => by simp [C.labels, h])
    have hR : ∀ x ∈ (ck K id r d k).w, x.In K id (C.and l r).labels d := fun x h => (hr hf.2 hok.2 d k hd x h).mono (Int.le_refl _) (fun s h => by simp [C.labels, h])
    split at hx
    · exact hL x hx
    · rcases List.mem_append.1 hx with h | h
      · exact hL x h
      · exact hR x h
  | or s l r hl hr =>
    intro hf hok d k hd x hx
    simp only [formC, Bool.and_eq_true] at hf
    simp only [ck] at hx
    cases hx2 : K.chosen (id, s) with
    | none =>
      rw [hx2] at hx
      simp at hx
      subst hx
      exact ⟨Int.le_refl _, hd, side_in k, fun _ => ⟨rfl, by simp [chW, C.labels], hx2⟩, fun h => (by cases h)⟩
    | some p =>
      rw [hx2] at hx
      have h1 := chs_at hC hx2
      simp only at hx
      split at hx
      · exact (hl hf.1.2 hok.2.1 (Max.max d p.2) k (by omega) x hx).mono (by omega) (fun s h => by simp [C.labels, h])
      · exact (hr hf.2 hok.2.2 (Max.max d p.2) k (by omega) x hx).mono (by omega) (fun s h => by simp [C.labels, h])
  | scale o c ih =>
    intro hf hok d k hd x hx
    simp only [formC, Bool.and_eq_true] at hf
    simp only [ck] at hx
    split at hx
    · simp at hx
    · split at hx
      · split at hx
        · split at hx
          · simp at hx
          · exact ih hf.2 hok.2 d _ hd x hx
        · simp at hx
      · exact waitN_in K id _ d hd o hok.1 hf.1 x hx
  | iff o l r hl hr =>
    intro hf hok d k hd x hx
    simp only [formC, Bool.and_eq_true] at hf
    simp only [ck] at hx
    split at hx
    · simp at hx
    · split at hx
      · split at hx
        · exact (hl hf.1.2 hok.2.1 d k hd x hx).mono (Int.le_refl _) (fun s h => by simp [C.labels, h])
        · exact (hr hf.2 hok.2.2 d k hd x hx).mono (Int.le_refl _) (fun s h => by simp [C.labels, h])
      · exact waitN_in K id _ d hd o hok.1 hf.1.1 x hx

/-! ### what is known grows -/
def ExtW (K K' : KW) : Prop := Ext K K' ∧ ∀ p v, K.chosen p = some v → K'.chosen p = some v
theorem ck_grows (K K' : KW) (hK : KW.Vals K) (hx : ExtW K K') (id : ByteArray) (c : C) : formC c = true → ∀ d k, (ck K id c d k).e = 0 → (ck K' id c d k).e = 0 → (ck K id c d k).f.Sublist (ck K' id c d k).f := by
  induction c with
  | zero => intro _ d k _ _; exact List.Sublist.refl _
  | one s => intro _ d k _ _; exact List.Sublist.refl _
  | odd v => intro _ d k _ _; exact List.Sublist.refl _
  | give c ih => intro hf d k; exact ih hf d (-k)
  | when d' c ih => intro hf d k; simp only [formC, Bool.and_eq_true] at hf; exact ih hf.2 _ k
  | and l r hl hr =>
    intro hf d k h1 h2
    simp only [formC, Bool.and_eq_true] at hf
    simp only [ck, Ck.seq] at h1 h2 ⊢
    split at h1
    · rename_i h; exact absurd h1 h
    · rename_i h
      split at h2
      · rename_i g; exact absurd h2 g
      · rename_i g
        rw [if_neg h, if_neg g]
        exact (hl hf.1 d k (by simpa using h) (by simpa using g)).append (hr hf.2 d k h1 h2)
  | or s l r hl hr =>
    intro hf d k h1 h2
    simp only [formC, Bool.and_eq_true] at hf
    simp only [ck] at h1 h2 ⊢
    cases hq : K.chosen (id, s) with
    | none => exact List.nil_sublist _
    | some p =>
      rw [hq] at h1
      rw [hx.2 _ _ hq] at h2 ⊢
      simp only at h1 h2 ⊢
      split at h1
      · rename_i h; rw [if_pos h] at h2 ⊢; rw [if_pos h]; exact hl hf.1.2 _ k h1 h2
      · rename_i h; rw [if_neg h] at h2 ⊢; rw [if_neg h]; exact hr hf.2 _ k h1 h2
  | scale o c ih =>
    intro hf d k h1 h2
    simp only [formC, Bool.and_eq_true] at hf
    simp only [ck] at h1 h2 ⊢
    split at h1
    · rename_i h; exact absurd h1 h
    · rename_i h
      rw [if_neg h]
      split at h1
      · rename_i g
        rw [rk_ext hK hx.1 d o hf.1 g, if_neg h, if_pos g] at h2
        rw [if_pos g, rk_ext hK hx.1 d o hf.1 g, if_neg h, if_pos g]
        split at h1
        · rename_i m
          rw [if_pos m] at h2 ⊢
          split at h1
          · rename_i z; rw [if_pos z]; exact List.nil_sublist _
          · rename_i z; rw [if_neg z] at h2 ⊢; rw [if_neg z]; rw [if_pos m]; exact ih hf.2 _ _ h1 h2
        · cases h1
      · rename_i g
        rw [if_neg g]
        exact List.nil_sublist _
  | iff o l r hl hr =>
    intro hf d k h1 h2
    simp only [formC, Bool.and_eq_true] at hf
    simp only [ck] at h1 h2 ⊢
    split at h1
    · rename_i h; exact absurd h1 h
    · rename_i h
      rw [if_neg h]
      split at h1
      · rename_i g
        rw [rk_ext hK hx.1 d o hf.1.1 g, if_neg h, if_pos g] at h2
        rw [if_pos g, rk_ext hK hx.1 d o hf.1.1 g, if_neg h, if_pos g]
        split at h1
        · rename_i z; rw [if_pos z] at h2 ⊢; rw [if_pos z]; exact hl hf.1.2 _ _ h1 h2
        · rename_i z; rw [if_neg z] at h2 ⊢; rw [if_neg z]; exact hr hf.2 _ _ h1 h2
      · rename_i g
        rw [if_neg g]
        exact List.nil_sublist _

/-! ### a row met in another, one by one -/
instance : DecidableEq Fl := fun a b => decidable_of_iff (a.day = b.day ∧ a.cur = b.cur ∧ a.amt = b.amt) (by cases a; cases b; simp)
/-- How many of a are met in b, in their order, k of them already. -/
def metN (a : List Fl) (b : List Fl) (k : Nat) : Nat := b.foldl (fun k x => if a[k]? = some x then k + 1 else k) k
theorem met_all (a : List Fl) : ∀ (b : List Fl) (k : Nat), k ≤ a.length → (a.drop k).Sublist b → metN a b k = a.length := by
  intro b
  induction b with
  | nil =>
    intro k hk h
    have := List.sublist_nil.1 h
    rw [List.drop_eq_nil_iff] at this
    show k = _
    omega
  | cons x b ih =>
    intro k hk h
    show metN a b (if a[k]? = some x then k + 1 else k) = _
    by_cases hlt : k < a.length
    · rw [List.drop_eq_getElem_cons hlt] at h
      split
      · rename_i e
        rw [List.getElem?_eq_getElem hlt] at e
        injection e with e
        rw [e] at h
        exact ih (k + 1) hlt (List.cons_sublist_cons.1 h)
      · rename_i e
        rw [List.getElem?_eq_getElem hlt] at e
        refine ih k hk ?_
        rw [List.drop_eq_getElem_cons hlt]
        cases h with
        | cons _ h => exact h
        | cons_cons _ h => exact absurd rfl e
    · have hk' : k = a.length := by omega
      subst hk'
      rw [List.getElem?_eq_none (Nat.le_refl _), if_neg (by simp)]
      exact ih _ (Nat.le_refl _) (by rw [List.drop_length]; exact List.nil_sublist _)

end Go.Proofs.Ytngjlkdpplmpaaa.Ca
namespace Go.Proofs.Ytngjlkdpplmpaaa.Ca
open Go.RowKit Wd Cn Vl
set_option linter.unusedVariables false

def Fl.cells (x : Fl) : List Value := [.int .i64 x.day, .string x.cur, .int .i64 x.amt]
def Wt.cells (y : Wt) : List Value := [.bool y.ch, .string y.name, .string y.label, .int .i64 y.day, .int .i64 y.side]
def Wt.val (y : Wt) : Value := .agg #[.bool y.ch, .string y.name, .string y.label, .int .i64 y.day, .int .i64 y.side]
def rowFl (l : List Fl) : List Value := l.flatMap Fl.cells
def rowWt (l : List Wt) : List Value := l.flatMap Wt.cells
theorem rowFl_app (a b : List Fl) : rowFl (a ++ b) = rowFl a ++ rowFl b := by simp [rowFl]
theorem rowWt_app (a b : List Wt) : rowWt (a ++ b) = rowWt a ++ rowWt b := by simp [rowWt]
theorem rowFl_at : ∀ (F : List Fl) (i : Nat) (x : Fl), F[i]? = some x → (rowFl F)[i * 3]? = some (.int .i64 x.day) ∧ (rowFl F)[i * 3 + 1]? = some (.string x.cur) ∧ (rowFl F)[i * 3 + 2]? = some (.int .i64 x.amt)
  | [], i, x, h => by simp at h
  | q :: F, 0, x, h => by simp at h; subst h; simp [rowFl, Fl.cells]
  | q :: F, i + 1, x, h => by
    have ih := rowFl_at F i x (by simpa using h)
    have e : rowFl (q :: F) = Fl.cells q ++ rowFl F := by simp [rowFl]
    rw [e, show (i + 1) * 3 = 3 + i * 3 by omega, show 3 + i * 3 + 1 = 3 + (i * 3 + 1) by omega, show 3 + i * 3 + 2 = 3 + (i * 3 + 2) by omega]
    rw [List.getElem?_append_right (by simp [Fl.cells]), List.getElem?_append_right (by simp [Fl.cells]), List.getElem?_append_right (by simp [Fl.cells])]
    simpa [Fl.cells] using ih
theorem rowWt_at : ∀ (F : List Wt) (i : Nat) (x : Wt), F[i]? = some x → (rowWt F)[i * 5]? = some (.bool x.ch) ∧ (rowWt F)[i * 5 + 1]? = some (.string x.name) ∧ (rowWt F)[i * 5 + 2]? = some (.string x.label) ∧ (rowWt F)[i * 5 + 3]? = some (.int .i64 x.day) ∧ (rowWt F)[i * 5 + 4]? = some (.int .i64 x.side)
  | [], i, x, h => by simp at h
  | q :: F, 0, x, h => by simp at h; subst h; simp [rowWt, Wt.cells]
  | q :: F, i + 1, x, h => by
    have ih := rowWt_at F i x (by simpa using h)
    have e : rowWt (q :: F) = Wt.cells q ++ rowWt F := by simp [rowWt]
    rw [e, show (i + 1) * 5 = 5 + i * 5 by omega, show 5 + i * 5 + 1 = 5 + (i * 5 + 1) by omega, show 5 + i * 5 + 2 = 5 + (i * 5 + 2) by omega, show 5 + i * 5 + 3 = 5 + (i * 5 + 3) by omega, show 5 + i * 5 + 4 = 5 + (i * 5 + 4) by omega]
    rw [List.getElem?_append_right (by simp [Wt.cells]), List.getElem?_append_right (by simp [Wt.cells]), List.getElem?_append_right (by simp [Wt.cells]), List.getElem?_append_right (by simp [Wt.cells]), List.getElem?_append_right (by simp [Wt.cells])]
    simpa [Wt.cells] using ih

/-- Cells of a block, the third of which is the payments', the fourth the waits'. -/
structure Two (mk : Value → Value → Array Value) : Prop where
  g2 : ∀ x y, (mk x y)[2]? = some x
  g3 : ∀ x y, (mk x y)[3]? = some y
  s2 : ∀ x y v, (mk x y).setIfInBounds 2 v = mk v y
  s3 : ∀ x y v, (mk x y).setIfInBounds 3 v = mk x v
/-- What a walk keeps, in memory, from block B on. -/
structure AIn (w : World) (B a : Nat) (T : TypeId) (mk : Value → Value → Array Value) (F : List Fl) (W : List Wt) (vF vW : Value) : Prop where
  blk : w.heap[a]? = some (.cells (mk vF vW) T)
  rf : w.ownsRow B 46 3 vF F.length (rowFl F)
  rw' : w.ownsRow B 43 5 vW W.length (rowWt W)
  ha : B ≤ a
theorem AIn.below {w w' : World} {B a : Nat} {T : TypeId} {mk : Value → Value → Array Value} {F : List Fl} {W : List Wt} {vF vW : Value} (h : AIn w B a T mk F W vF vW) (hb : Below w.heap.size w w') : AIn w' B a T mk F W vF vW := by
  have hg : w.grownBy w' none := ⟨hb.os, hb.tape, hb.output, hb.size, fun k hk _ => hb.block k hk⟩
  refine ⟨(hb.block a (Array.getElem?_eq_some_iff.1 h.blk).1).trans h.blk, h.rf.kept hg ?_, h.rw'.kept hg ?_, h.ha⟩
  · cases hv : vF.ownBlock <;> simp
  · cases hv : vW.ownBlock <;> simp
section
variable {w : World} {B a : Nat} {T : TypeId} {mk : Value → Value → Array Value} {F : List Fl} {W : List Wt} {vF vW : Value}
theorem AIn.neF (h : AIn w B a T mk F W vF vW) (hT : T ≠ 46) : vF.ownBlock ≠ some a := by
  intro e
  obtain ⟨cs, hc⟩ := row_block h.rf e
  have := h.blk
  rw [hc] at this
  injection this with e
  injection e with _ e
  exact hT e.symm
theorem AIn.neW (h : AIn w B a T mk F W vF vW) (hT : T ≠ 43) : vW.ownBlock ≠ some a := by
  intro e
  obtain ⟨cs, hc⟩ := row_block h.rw' e
  have := h.blk
  rw [hc] at this
  injection this with e
  injection e with _ e
  exact hT e.symm
theorem AIn.neFW (h : AIn w B a T mk F W vF vW) : vW.ownBlock = none ∨ vW.ownBlock ≠ vF.ownBlock := by
  cases hc : vW.ownBlock with
  | none => exact .inl rfl
  | some k =>
    right
    intro e
    obtain ⟨cs, h1⟩ := row_block h.rw' hc
    obtain ⟨cs', h2⟩ := row_block h.rf e.symm
    rw [h1] at h2
    cases h2
theorem AIn.cell2 (h : AIn w B a T mk F W vF vW) (hm : Two mk) : w.cell? ⟨a, 2, none⟩ = some vF := cell_blk h.blk (hm.g2 _ _)
theorem AIn.cell3 (h : AIn w B a T mk F W vF vW) (hm : Two mk) : w.cell? ⟨a, 3, none⟩ = some vW := cell_blk h.blk (hm.g3 _ _)
/-- A payment more. -/
theorem AIn.addF {w1 : World} {v' : Value} (h : AIn w B a T mk F W vF vW) (hm : Two mk) (hT1 : T ≠ 46) (hT2 : T ≠ 43) (hB : B ≤ w.heap.size) (x : Fl)
    (hown : w1.ownsRow B 46 3 v' (F.length + 1) (rowFl F ++ x.cells)) (hg : w.grownBy w1 vF.ownBlock) :
    AIn (w1.setCell ⟨a, 2, none⟩ v') B a T mk (F ++ [x]) W v' vW ∧ Below B w (w1.setCell ⟨a, 2, none⟩ v') := by
  have hr : a < w.heap.size := (Array.getElem?_eq_some_iff.1 h.blk).1
  have hb1 : w1.heap[a]? = some (.cells (mk vF vW) T) := (hg.block a hr (fun e => h.neF hT1 e.symm)).trans h.blk
  have hne' : v'.ownBlock ≠ some a := by
    intro e
    obtain ⟨cs, hc⟩ := row_block hown e
    rw [hc] at hb1
    injection hb1 with e
    injection e with _ e
    exact hT1 e.symm
  have hrc : w1.ownsRow B 43 5 vW W.length (rowWt W) := h.rw'.kept hg h.neFW
  refine ⟨⟨?_, ?_, ?_, h.ha⟩, ?_⟩
  · have := heap_setCell_same w1 a 2 _ _ v' hb1
    rw [hm.s2] at this
    exact this
  · have := ownsRow_setCell_other hown (a := ⟨a, 2, none⟩) (by exact hne') v'
    rw [rowFl_app]
    simpa [rowFl] using this
  · exact ownsRow_setCell_other hrc (a := ⟨a, 2, none⟩) (by exact h.neW hT2) v'
  · have hb : Below B w w1 := ⟨hg.os, hg.tape, hg.output, hg.size, fun k hk => hg.block k (by omega) (fun e => by have := (h.rf.lt k e.symm).1; omega)⟩
    exact hb.setCell h.ha v'
/-- A wait more. -/
theorem AIn.addW {w1 : World} {v' : Value} (h : AIn w B a T mk F W vF vW) (hm : Two mk) (hT1 : T ≠ 46) (hT2 : T ≠ 43) (hB : B ≤ w.heap.size) (y : Wt)
    (hown : w1.ownsRow B 43 5 v' (W.length + 1) (rowWt W ++ y.cells)) (hg : w.grownBy w1 vW.ownBlock) :
    AIn (w1.setCell ⟨a, 3, none⟩ v') B a T mk F (W ++ [y]) vF v' ∧ Below B w (w1.setCell ⟨a, 3, none⟩ v') := by
  have hr : a < w.heap.size := (Array.getElem?_eq_some_iff.1 h.blk).1
  have hb1 : w1.heap[a]? = some (.cells (mk vF vW) T) := (hg.block a hr (fun e => h.neW hT2 e.symm)).trans h.blk
  have hne' : v'.ownBlock ≠ some a := by
    intro e
    obtain ⟨cs, hc⟩ := row_block hown e
    rw [hc] at hb1
    injection hb1 with e
    injection e with _ e
    exact hT2 e.symm
  have hrf : w1.ownsRow B 46 3 vF F.length (rowFl F) := h.rf.kept hg (by
    rcases h.neFW with e | e
    · cases hv : vF.ownBlock with
      | none => exact .inl rfl
      | some k => right; rw [e]; simp
    · exact .inr (fun x => e x.symm))
  refine ⟨⟨?_, ?_, ?_, h.ha⟩, ?_⟩
  · have := heap_setCell_same w1 a 3 _ _ v' hb1
    rw [hm.s3] at this
    exact this
  · exact ownsRow_setCell_other hrf (a := ⟨a, 3, none⟩) (by exact h.neF hT1) v'
  · have := ownsRow_setCell_other hown (a := ⟨a, 3, none⟩) (by exact hne') v'
    rw [rowWt_app]
    simpa [rowWt] using this
  · have hb : Below B w w1 := ⟨hg.os, hg.tape, hg.output, hg.size, fun k hk => hg.block k (by omega) (fun e => by have := (h.rw'.lt k e.symm).1; omega)⟩
    exact hb.setCell h.ha v'
end
/-- What a walk may turn: its block, rows of payments and of waits; all else stays. -/
structure Kept (a : Nat) (w w' : World) : Prop where
  size : w.heap.size ≤ w'.heap.size
  kept : ∀ k, k < w.heap.size → k ≠ a → (∀ cs, w.heap[k]? ≠ some (.cells cs 46)) → (∀ cs, w.heap[k]? ≠ some (.cells cs 43)) → w'.heap[k]? = w.heap[k]?
theorem Kept.of_below {a : Nat} {w w' : World} (h : Below w.heap.size w w') : Kept a w w' := ⟨h.size, fun k hk _ _ _ => h.block k hk⟩
theorem Kept.trans {a : Nat} {u v w : World} (h : Kept a u v) (g : Kept a v w) : Kept a u w := by
  refine ⟨Nat.le_trans h.size g.size, fun k hk hka h1 h2 => ?_⟩
  have e := h.kept k hk hka h1 h2
  exact (g.kept k (Nat.lt_of_lt_of_le hk h.size) hka (by rw [e]; exact h1) (by rw [e]; exact h2)).trans e
theorem Kept.cells {a : Nat} {w w' : World} (h : Kept a w w') {k : Nat} {cs : Array Value} {t : TypeId} (hk : w.heap[k]? = some (.cells cs t)) (hr : k ≠ a) (h1 : t ≠ 46) (h2 : t ≠ 43) : w'.heap[k]? = some (.cells cs t) := by
  rw [h.kept k (Array.getElem?_eq_some_iff.1 hk).1 hr (fun cs' e => ?_) (fun cs' e => ?_)]
  · exact hk
  · rw [hk] at e; injection e with e; injection e with _ e; exact h1 e
  · rw [hk] at e; injection e with e; injection e with _ e; exact h2 e
/-- A row of another kind stays. -/
theorem Kept.row {a : Nat} {w w' : World} (h : Kept a w w') {B : Nat} {e : TypeId} {size n : Nat} {v : Value} {xs : List Value} (hr : w.ownsRow B e size v n xs) (hna : v.ownBlock ≠ some a) (h1 : e ≠ 46) (h2 : e ≠ 43) : w'.ownsRow B e size v n xs := by
  refine ⟨hr.1, ?_⟩
  rcases hr.2 with hn | ⟨g, cap, cur, rfl, hb, hg, rest⟩
  · exact .inl hn
  · exact .inr ⟨g, cap, cur, rfl, hb, h.cells hg (fun e => hna (by simp [Value.ownBlock, e])) h1 h2, rest⟩
/-- Behind a store into the walk's block, when a row has grown. -/
theorem Kept.grown {a i : Nat} {w w1 : World} {B : Nat} {e : TypeId} {size n : Nat} {v x : Value} {xs : List Value} (hr : w.ownsRow B e size v n xs) (he : e = 46 ∨ e = 43) (hg : w.grownBy w1 v.ownBlock) : Kept a w (w1.setCell ⟨a, i, none⟩ x) := by
  refine ⟨by simpa using hg.size, fun k hk hka h1 h2 => ?_⟩
  rw [heap_setCell_other w1 ⟨a, i, none⟩ k _ hka]
  refine hg.block k hk (fun e' => ?_)
  obtain ⟨cs, hc⟩ := row_block hr e'.symm
  rcases he with rfl | rfl
  · exact h1 cs hc
  · exact h2 cs hc
/-- What a walk keeps, and what was there when it began. -/
def St (w0 w : World) (a : Nat) (T : TypeId) (mk : Value → Value → Array Value) (F : List Fl) (W : List Wt) : Prop := (∃ vF vW, AIn w w0.heap.size a T mk F W vF vW) ∧ Below w0.heap.size w0 w
theorem St.step {w0 w w' : World} {a : Nat} {T : TypeId} {mk : Value → Value → Array Value} {F : List Fl} {W : List Wt} (h : St w0 w a T mk F W) (hb : Below w.heap.size w w') : St w0 w' a T mk F W := by
  obtain ⟨⟨vF, vW, h1⟩, h2⟩ := h
  exact ⟨⟨vF, vW, h1.below hb⟩, h2.trans (hb.mono h2.size)⟩
theorem St.at_row {w0 w : World} {a : Nat} {T : TypeId} {mk : Value → Value → Array Value} {F : List Fl} {W : List Wt} (h : St w0 w a T mk F W) {B : Nat} {e : TypeId} {size n : Nat} {v : Value} {xs : List Value} (hr : w.ownsRow B e size v n xs) (he : e ≠ T) : v.ownBlock ≠ some a := by
  obtain ⟨⟨vF, vW, h1⟩, _⟩ := h
  intro e'
  obtain ⟨cs, hc⟩ := row_block hr e'
  rw [h1.blk] at hc
  injection hc with e1
  injection e1 with _ e1
  exact he e1.symm
theorem St.at_cells {w0 w : World} {a : Nat} {T : TypeId} {mk : Value → Value → Array Value} {F : List Fl} {W : List Wt} (h : St w0 w a T mk F W) {k : Nat} {cs : Array Value} {t : TypeId} (hk : w.heap[k]? = some (.cells cs t)) (he : t ≠ T) : k ≠ a := by
  obtain ⟨⟨vF, vW, h1⟩, _⟩ := h
  rintro rfl
  rw [h1.blk] at hk
  injection hk with e1
  injection e1 with _ e1
  exact he e1.symm
theorem hidC {p : Prop} (h : p) : Hid p := h

end Go.Proofs.Ytngjlkdpplmpaaa.Ca
namespace Go.Proofs.Ytngjlkdpplmpaaa.Ca
open Go.RowKit Wd Cn Vl
set_option linter.unusedVariables false

/-- Waits in memory. -/
def HasWts (w : World) (ao : Option Addr) (l : List Wt) : Prop := ∀ i x, l[i]? = some x → ∃ g, ao = some ⟨g, 0, none⟩ ∧ g < w.heap.size ∧ w.cell? ⟨g, i * 5, none⟩ = some (.bool x.ch) ∧ w.cell? ⟨g, i * 5 + 1, none⟩ = some (.string x.name) ∧ w.cell? ⟨g, i * 5 + 2, none⟩ = some (.string x.label) ∧ w.cell? ⟨g, i * 5 + 3, none⟩ = some (.int .i64 x.day) ∧ w.cell? ⟨g, i * 5 + 4, none⟩ = some (.int .i64 x.side)
theorem HasWts.below {w w' : World} {ao : Option Addr} {l : List Wt} (h : HasWts w ao l) (hb : Below w.heap.size w w') : HasWts w' ao l := by
  intro i x hx
  obtain ⟨g, e, hg, h0, h1, h2, h3, h4⟩ := h i x hx
  have hc := fun o => hb.cell (p := ⟨g, o, none⟩) hg
  exact ⟨g, e, Nat.lt_of_lt_of_le hg hb.size, (hc _).trans h0, (hc _).trans h1, (hc _).trans h2, (hc _).trans h3, (hc _).trans h4⟩
theorem own_wts {w : World} {B : Nat} {v : Value} {l : List Wt} (h : w.ownsRow B 43 5 v l.length (rowWt l)) : ∃ ao cap, v = .slice ao l.length cap ∧ HasWts w ao l := by
  obtain ⟨ao, cap, rfl⟩ := row_shape h
  refine ⟨ao, cap, rfl, fun i x hx => ?_⟩
  have hi := (List.getElem?_eq_some_iff.1 hx).1
  obtain ⟨g, cap', e, hg, hc⟩ := row_cells h (by omega)
  injection e with e1 _ _
  obtain ⟨h0, h1, h2, h3, h4⟩ := rowWt_at l i x hx
  exact ⟨g, e1, hg, hc _ _ h0, hc _ _ h1, hc _ _ h2, hc _ _ h3, hc _ _ h4⟩

set_option maxHeartbeats 4000000 in
set_option maxRecDepth 100000 in
theorem index_any (w : World) (ao : Option Addr) (cap : Nat) (l : List Wt) (h : HasWts w ao l) (hl : l.length ≤ 1000000) (y : Wt) :
    Calls Try.prog 101 #[.slice ao l.length cap, y.val] w fun e w' => ∃ n : Int, e = .returned (.int .i64 n) ∧ (0 ≤ n ↔ y ∈ l) ∧ Below w.heap.size w w' := by
  have HH := hidC h
  clear h
  obtain ⟨c, nm, lb, d, s⟩ := y
  unfold Wt.val
  go_enter Try.func101, Try.ntmps101
  go_wp2_with fail
  go_loopw [8] (fun s8 wr => ∃ i : Nat, i ≤ l.length ∧ s8 = .int .i64 i ∧ Hid (∀ j, j < i → l[j]? ≠ some ⟨c, nm, lb, d, s⟩) ∧ Below w.heap.size w wr ∧ wr.heap[w.heap.size]? = some (.cells #[.bool c, .string nm, .string lb, .int .i64 d, .int .i64 s] 43)) (fun s8 _ => l.length - (intOf s8).toNat)
  case atStart => exact ⟨0, by omega, rfl, (fun j hj => absurd hj (by omega)), below_alloc (Below.refl _ _) _, heap_alloc_new _ _⟩
  case round =>
    obtain ⟨i, hi, rfl, HNO, hb, hblk⟩ := hrel
    have HB := hidC hb
    have HK := hidC hblk
    clear hb hblk
    by_cases hlt : i < l.length
    · have hlt' : (i : Int) < (l.length : Int) := by omega
      obtain ⟨x, hx⟩ : ∃ x, l[i]? = some x := ⟨_, List.getElem?_eq_getElem hlt⟩
      obtain ⟨g, rfl, hg, d0, d1, d2, d3, d4⟩ := (HH.out.below HB.out) i x hx
      have b0 := cell_of_row _ _ 0 _ _ _ HK.out
      have b1 := cell_of_row _ _ 1 _ _ _ HK.out
      have b2 := cell_of_row _ _ 2 _ _ _ HK.out
      have b3 := cell_of_row _ _ 3 _ _ _ HK.out
      have b4 := cell_of_row _ _ 4 _ _ _ HK.out
      rw [show (#[.bool c, .string nm, .string lb, .int .i64 d, .int .i64 s] : Array Value)[0]? = some (.bool c) from rfl] at b0
      rw [show (#[.bool c, .string nm, .string lb, .int .i64 d, .int .i64 s] : Array Value)[1]? = some (.string nm) from rfl] at b1
      rw [show (#[.bool c, .string nm, .string lb, .int .i64 d, .int .i64 s] : Array Value)[2]? = some (.string lb) from rfl] at b2
      rw [show (#[.bool c, .string nm, .string lb, .int .i64 d, .int .i64 s] : Array Value)[3]? = some (.int .i64 d) from rfl] at b3
      rw [show (#[.bool c, .string nm, .string lb, .int .i64 d, .int .i64 s] : Array Value)[4]? = some (.int .i64 s) from rfl] at b4
      have HX := hidC hx
      clear hx hg
      obtain ⟨xc, xn, xl, xd, xs⟩ := x
      simp only at d0 d1 d2 d3 d4
      by_cases he : c = xc ∧ nm = xn ∧ lb = xl ∧ d = xd ∧ s = xs
      · obtain ⟨rfl, rfl, rfl, rfl, rfl⟩ := he
        have e1 : (nm.toList == nm.toList) = true := beq_self_eq_true _
        have e2 : (lb.toList == lb.toList) = true := beq_self_eq_true _
        go_wp2_with fail
        go_region
        go_wp2_with fail
        all_goals go_ret
        all_goals exact ⟨_, rfl, ⟨fun _ => List.mem_of_getElem? HX.out, fun _ => by omega⟩, HB.out.drew⟩
      · have HNE := hidC he
        have HNO' : Hid (∀ j, j < i + 1 → l[j]? ≠ some ⟨c, nm, lb, d, s⟩) := fun j hj e => by
          rcases (by omega : j < i ∨ j = i) with h | h
          · exact HNO.out j h e
          · subst h
            rw [HX.out] at e
            injection e with e
            injection e with h0 h1 h2 h3 h4
            exact HNE.out ⟨h0.symm, h1.symm, h2.symm, h3.symm, h4.symm⟩
        have ways : (c = true ∧ xc = false) ∨ (c = false ∧ xc = true) ∨ (c = xc ∧ (nm.toList == xn.toList) = false) ∨ (c = xc ∧ (nm.toList == xn.toList) = true ∧ (lb.toList == xl.toList) = false) ∨ (c = xc ∧ (nm.toList == xn.toList) = true ∧ (lb.toList == xl.toList) = true ∧ (d == xd) = false) ∨ (c = xc ∧ (nm.toList == xn.toList) = true ∧ (lb.toList == xl.toList) = true ∧ (d == xd) = true ∧ (s == xs) = false) := by
          by_cases g0 : c = xc
          · by_cases g1 : nm = xn
            · by_cases g2 : lb = xl
              · by_cases g3 : d = xd
                · have g4 : s ≠ xs := fun g4 => he ⟨g0, g1, g2, g3, g4⟩
                  exact .inr (.inr (.inr (.inr (.inr ⟨g0, by rw [g1]; exact beq_self_eq_true _, by rw [g2]; exact beq_self_eq_true _, by simpa using g3, by simpa using g4⟩))))
                · exact .inr (.inr (.inr (.inr (.inl ⟨g0, by rw [g1]; exact beq_self_eq_true _, by rw [g2]; exact beq_self_eq_true _, by simpa using g3⟩))))
              · exact .inr (.inr (.inr (.inl ⟨g0, by rw [g1]; exact beq_self_eq_true _, beq_eq_false_iff_ne.2 fun e => g2 (bytes_inj e)⟩)))
            · exact .inr (.inr (.inl ⟨g0, beq_eq_false_iff_ne.2 fun e => g1 (bytes_inj e)⟩))
          · cases c <;> cases xc <;> simp at g0 ⊢
        clear he
        rcases ways with ⟨rfl, rfl⟩ | ⟨rfl, rfl⟩ | ⟨rfl, f1⟩ | ⟨rfl, f1, f2⟩ | ⟨rfl, f1, f2, f3⟩ | ⟨rfl, f1, f2, f3, f4⟩
        all_goals
          go_wp2_with fail
          go_region
          go_wp2_with fail
          all_goals go_roundw
          case rel => exact ⟨i + 1, by omega, by go_num, HNO', HB.out.drew, HK.out⟩
          case measure => simp [intOf] <;> omega
    · have hle : i = l.length := by omega
      subst hle
      go_wp2_with fail
      go_ret
      refine ⟨-1, rfl, ⟨fun h => absurd h (by omega), fun h => ?_⟩, HB.out⟩
      obtain ⟨j, hj⟩ := List.mem_iff_getElem?.1 h
      exact absurd hj (HNO.out j (List.getElem?_eq_some_iff.1 hj).1)

set_option maxHeartbeats 1000000 in
theorem contains_any (w : World) (ao : Option Addr) (cap : Nat) (l : List Wt) (h : HasWts w ao l) (hl : l.length ≤ 1000000) (y : Wt) :
    Calls Try.prog 95 #[.slice ao l.length cap, y.val] w fun e w' => e = .returned (.bool (decide (y ∈ l))) ∧ Below w.heap.size w w' := by
  have HI : Hid (∀ W : World, Below w.heap.size w W → Calls Try.prog 101 #[.slice ao l.length cap, .agg #[.bool y.ch, .string y.name, .string y.label, .int .i64 y.day, .int .i64 y.side]] W fun e w' => ∃ n : Int, e = .returned (.int .i64 n) ∧ (0 ≤ n ↔ y ∈ l) ∧ Below W.heap.size W w') := fun W hW => index_any W ao cap l (h.below hW) hl y
  clear h
  have HB := hidC (below_alloc (Below.refl w.heap.size w) (.cells #[.bool y.ch, .string y.name, .string y.label, .int .i64 y.day, .int .i64 y.side] 43))
  unfold Wt.val
  go_enter Try.func95, Try.ntmps95
  go_wp2_with fail
  refine (HI.out _ HB.out).mono ?_
  rintro e w1 ⟨n, rfl, hn, hb⟩
  have HN := hidC hn
  have HB1 := hidC (HB.out.trans (hb.mono HB.out.size))
  clear hb hn
  go_wp2_with fail
  go_ret
  exact ⟨ret_bool (decide_eq_decide.2 HN.out), HB1.out⟩

set_option maxHeartbeats 400000 in
theorem holder_any (k : Int) (w : World) : Calls Try.prog 79 #[.int .i64 k] w fun e w' => e = .returned (.int .i64 (side k)) ∧ w' = w := by
  by_cases h : 0 < k
  · have HS : Hid (side k = 0) := by unfold Hid side; rw [if_pos h]
    go_enter Try.func79, Try.ntmps79
    go_wp2_with fail
    go_ret
    rw [HS.out]
    exact ⟨rfl, rfl⟩
  · have HS : Hid (side k = 1) := by unfold Hid side; rw [if_neg h]
    go_enter Try.func79, Try.ntmps79
    go_wp2_with fail
    go_ret
    rw [HS.out]
    exact ⟨rfl, rfl⟩

end Go.Proofs.Ytngjlkdpplmpaaa.Ca
namespace Go.Proofs.Ytngjlkdpplmpaaa.Ca
open Go.RowKit Wd Cn Vl
set_option linter.unusedVariables false

def mkA (id : ByteArray) (p : Nat) (x y : Value) : Array Value := #[.string id, .pointer (some ⟨p, 0, none⟩), x, y]
theorem twoA (id : ByteArray) (p : Nat) : Two (mkA id p) := ⟨fun _ _ => rfl, fun _ _ => rfl, fun _ _ _ => rfl, fun _ _ _ => rfl⟩
/-- The program's walk in memory. -/
def StA (w0 w : World) (a : Nat) (id : ByteArray) (p : Nat) (F : List Fl) (W : List Wt) : Prop := St w0 w a 91 (mkA id p) F W
theorem infoFl : (Try.prog.info? 46).map (fun i => (i.zero, i.size, i.bytes)) = some (some (.agg #[.int .i64 0, .string ByteArray.empty, .int .i64 0]), 3, 32) := by kernel_rfl
theorem infoWt : (Try.prog.info? 43).map (fun i => (i.zero, i.size, i.bytes)) = some (some (.agg #[.bool false, .string ByteArray.empty, .string ByteArray.empty, .int .i64 0, .int .i64 0]), 5, 56) := by kernel_rfl

/-- A payment more behind the row: what the builtin answers, and what stands behind the store. -/
theorem AIn.pushF {w : World} {B a : Nat} {T : TypeId} {mk : Value → Value → Array Value} {F : List Fl} {W : List Wt} {vF vW : Value} (h : AIn w B a T mk F W vF vW) (hm : Two mk) (hT1 : T ≠ 46) (hT2 : T ≠ 43) (hB : B ≤ w.heap.size) (hl : F.length ≤ 100000) (x : Fl) (ab : Nat) (hc : w.heap[ab]? = some (.cells #[.int .i64 x.day, .string x.cur, .int .i64 x.amt] 46)) (ty : TypeId) :
    ∃ v' w', (Builtin.append_ #[37, 37] ty #[vF, .slice (some ⟨ab, 0, none⟩) 1 1]).run Try.prog w = .ok v' w' ∧ w'.cell? ⟨a, 2, none⟩ = some vF ∧ w'.frozen? ⟨a, 2, none⟩ = false ∧ (∃ ao cap, v' = .slice ao (F.length + 1) cap) ∧ w.grownBy w' vF.ownBlock ∧
      AIn (w'.setCell ⟨a, 2, none⟩ v') B a T mk (F ++ [x]) W v' vW ∧ Below B w (w'.setCell ⟨a, 2, none⟩ v') := by
  obtain ⟨i0, hi, hz⟩ := Option.map_eq_some_iff.1 infoFl
  simp only [Prod.mk.injEq] at hz
  obtain ⟨hz0, hz1, hz2⟩ := hz
  obtain ⟨v', w', hr, ho, hg, _⟩ := run_append_own (P := Try.prog) w B 37 ty 46 i0 (.agg #[.int .i64 0, .string ByteArray.empty, .int .i64 0]) 3 32 Try.underlying37 hi hz0 hz1 hz2 rfl (by decide) vF F.length (rowFl F) h.rf ⟨ab, 0, none⟩ 1 1 x.cells rfl
    (by
      intro j u hj
      rw [Addr.add_lit, Nat.zero_add, cell_of_row _ _ _ _ _ _ hc]
      simpa [Fl.cells] using hj)
    (by
      intro u hu
      simp [Fl.cells] at hu
      rcases hu with rfl | rfl | rfl <;> rfl) (by unfold maxLen; omega) (by omega) hB
  have ha : a < w.heap.size := (Array.getElem?_eq_some_iff.1 h.blk).1
  have hb1 : w'.heap[a]? = some (.cells (mk vF vW) T) := (hg.block a ha (fun e => h.neF hT1 e.symm)).trans h.blk
  obtain ⟨k1, k2⟩ := h.addF hm hT1 hT2 hB x ho hg
  exact ⟨v', w', hr, cell_blk hb1 (hm.g2 _ _), frozen_of_row w' a 2 _ _ hb1, row_shape ho, hg, k1, k2⟩
/-- A wait more behind the row: what the builtin answers, and what stands behind the store. -/
theorem AIn.pushW {w : World} {B a : Nat} {T : TypeId} {mk : Value → Value → Array Value} {F : List Fl} {W : List Wt} {vF vW : Value} (h : AIn w B a T mk F W vF vW) (hm : Two mk) (hT1 : T ≠ 46) (hT2 : T ≠ 43) (hB : B ≤ w.heap.size) (hl : W.length ≤ 100000) (x : Wt) (ab : Nat) (hc : w.heap[ab]? = some (.cells #[.bool x.ch, .string x.name, .string x.label, .int .i64 x.day, .int .i64 x.side] 43)) (ty : TypeId) :
    ∃ v' w', (Builtin.append_ #[38, 38] ty #[vW, .slice (some ⟨ab, 0, none⟩) 1 1]).run Try.prog w = .ok v' w' ∧ w'.cell? ⟨a, 3, none⟩ = some vW ∧ w'.frozen? ⟨a, 3, none⟩ = false ∧ (∃ ao cap, v' = .slice ao (W.length + 1) cap) ∧ w.grownBy w' vW.ownBlock ∧
      AIn (w'.setCell ⟨a, 3, none⟩ v') B a T mk F (W ++ [x]) vF v' ∧ Below B w (w'.setCell ⟨a, 3, none⟩ v') := by
  obtain ⟨i0, hi, hz⟩ := Option.map_eq_some_iff.1 infoWt
  simp only [Prod.mk.injEq] at hz
  obtain ⟨hz0, hz1, hz2⟩ := hz
  obtain ⟨v', w', hr, ho, hg, _⟩ := run_append_own (P := Try.prog) w B 38 ty 43 i0 (.agg #[.bool false, .string ByteArray.empty, .string ByteArray.empty, .int .i64 0, .int .i64 0]) 5 56 Try.underlying38 hi hz0 hz1 hz2 rfl (by decide) vW W.length (rowWt W) h.rw' ⟨ab, 0, none⟩ 1 1 x.cells rfl
    (by
      intro j u hj
      rw [Addr.add_lit, Nat.zero_add, cell_of_row _ _ _ _ _ _ hc]
      simpa [Wt.cells] using hj)
    (by
      intro u hu
      simp [Wt.cells] at hu
      rcases hu with rfl | rfl | rfl | rfl | rfl <;> rfl) (by unfold maxLen; omega) (by omega) hB
  have ha : a < w.heap.size := (Array.getElem?_eq_some_iff.1 h.blk).1
  have hb1 : w'.heap[a]? = some (.cells (mk vF vW) T) := (hg.block a ha (fun e => h.neW hT2 e.symm)).trans h.blk
  obtain ⟨k1, k2⟩ := h.addW hm hT1 hT2 hB x ho hg
  exact ⟨v', w', hr, cell_blk hb1 (hm.g3 _ _), frozen_of_row w' a 3 _ _ hb1, row_shape ho, hg, k1, k2⟩

set_option maxHeartbeats 2000000 in
set_option maxRecDepth 100000 in
theorem wait_any (w0 w : World) (a : Nat) (id : ByteArray) (p : Nat) (F : List Fl) (W : List Wt) (h : StA w0 w a id p F W) (hl : W.length ≤ 100000) (y : Wt) :
    Calls Try.prog 78 #[.pointer (some ⟨a, 0, none⟩), y.val] w fun e w' => e = .returned (.tuple #[]) ∧ StA w0 w' a id p F (putW W y) ∧ Kept a w w' := by
  obtain ⟨⟨vF, vW, hin⟩, hb0⟩ := h
  have HB0 := hidC hb0
  have HR := hidC (hin.below (below_alloc (Below.refl w.heap.size w) (.cells #[.bool y.ch, .string y.name, .string y.label, .int .i64 y.day, .int .i64 y.side] 43)))
  have HBA := hidC (below_alloc (Below.refl w.heap.size w) (.cells #[.bool y.ch, .string y.name, .string y.label, .int .i64 y.day, .int .i64 y.side] 43))
  have HY := hidC (heap_alloc_new w (.cells #[.bool y.ch, .string y.name, .string y.label, .int .i64 y.day, .int .i64 y.side] 43))
  have HLT := hidC (fun k (hk : vW.ownBlock = some k) => (hin.rw'.lt k hk).2)
  clear hin hb0
  obtain ⟨ao, cap, rfl, hw⟩ := own_wts HR.out.rw'
  have HW := hidC hw
  clear hw
  unfold Wt.val
  go_enter Try.func78, Try.ntmps78
  go_wp2_with fail
  generalize w.alloc (.cells #[.bool y.ch, .string y.name, .string y.label, .int .i64 y.day, .int .i64 y.side] 43) = V at *
  have HBV := hidC (below_drew (Below.refl V.heap.size V))
  have HF : Hid (∀ w', Below V.heap.size V w' → w'.cell? ⟨a, 3, none⟩ = some (.slice ao W.length cap) ∧ w'.cell? ⟨w.heap.size, 0, none⟩ = some (.bool y.ch) ∧ w'.cell? ⟨w.heap.size, 1, none⟩ = some (.string y.name) ∧ w'.cell? ⟨w.heap.size, 2, none⟩ = some (.string y.label) ∧ w'.cell? ⟨w.heap.size, 3, none⟩ = some (.int .i64 y.day) ∧ w'.cell? ⟨w.heap.size, 4, none⟩ = some (.int .i64 y.side)) := fun w' hw' => by
    have hb := (hw'.block _ (Array.getElem?_eq_some_iff.1 HY.out).1).trans HY.out
    exact ⟨(HR.out.below hw').cell3 (twoA id p), cell_of_row _ _ 0 _ _ _ hb, cell_of_row _ _ 1 _ _ _ hb, cell_of_row _ _ 2 _ _ _ hb, cell_of_row _ _ 3 _ _ _ hb, cell_of_row _ _ 4 _ _ _ hb⟩
  refine Mx.wp_region_mix (fun w' => Below V.heap.size V w') [(0, false), (1, false), (2, false), (3, false), (4, false), (5, true), (6, false)] (by kernel_rfl) (by kernel_rfl) HBV.out ?_ (by kernel_rfl)
  simp only [List.map_cons, List.map_nil, List.getD_cons_zero, List.getD_cons_succ]
  generalize hops : (#[_, _, _, _, _, _, _] : Array Oper) = ops
  clear hops
  refine Mx.m_pure (.pointer (some ⟨a, 0, none⟩)) (Mx.wanted_none rfl) (fun w' hw' => ?_) ?_
  · go_simp
  simp only [Act.put, List.setIfInBounds_toArray, List.set_cons_zero, List.set_cons_succ]
  refine Mx.m_pure (.pointer (some ⟨a, 0, none⟩)) (Mx.wanted_none rfl) (fun w' hw' => ?_) ?_
  · go_simp
  simp only [Act.put, List.setIfInBounds_toArray, List.set_cons_zero, List.set_cons_succ]
  refine Mx.m_pure (.pointer (some ⟨a, 3, none⟩)) (Mx.wanted_none rfl) (fun w' hw' => ?_) ?_
  · go_simp
  simp only [Act.put, List.setIfInBounds_toArray, List.set_cons_zero, List.set_cons_succ]
  refine Mx.m_pure (.slice ao W.length cap) (Mx.wanted_none rfl) (fun w' hw' => ?_) ?_
  · obtain ⟨q0, q1, q2, q3, q4, q5⟩ := HF.out w' hw'
    go_simp
  simp only [Act.put, List.setIfInBounds_toArray, List.set_cons_zero, List.set_cons_succ]
  refine Mx.m_pure (.agg #[.bool y.ch, .string y.name, .string y.label, .int .i64 y.day, .int .i64 y.side]) (Mx.wanted_none rfl) (fun w' hw' => ?_) ?_
  · obtain ⟨q0, q1, q2, q3, q4, q5⟩ := HF.out w' hw'
    go_simp
  simp only [Act.put, List.setIfInBounds_toArray, List.set_cons_zero, List.set_cons_succ]
  refine Mx.m_call 95 #[.slice ao W.length cap, y.val] (Mx.wanted_none rfl) ?_ ?_
  · unfold Wt.val
    go_simp
  refine (contains_any _ ao cap W (HW.out.below HBV.out) (by omega) y).mono ?_
  rintro e w1 ⟨rfl, hb⟩
  have HV1 := hidC (HBV.out.trans (hb.mono HBV.out.size))
  refine ⟨_, rfl, HV1.out, ?_⟩
  clear hb
  simp only [Act.put, List.setIfInBounds_toArray, List.set_cons_zero, List.set_cons_succ]
  refine Mx.m_pure (.bool (!decide (y ∈ W))) (Mx.wanted_none rfl) (fun w' hw' => ?_) ?_
  · go_simp
  simp only [Act.put, List.setIfInBounds_toArray, List.set_cons_zero, List.set_cons_succ]
  refine Mx.m_nil (fun _ => ?_)
  have HB1 := hidC (HBA.out.trans (HV1.out.mono HBA.out.size))
  by_cases hy : y ∈ W
  · have HP : Hid (putW W y = W) := by unfold Hid putW; rw [if_pos hy]
    rw [decide_eq_true hy]
    clear hy
    go_wp2_with fail
    go_end0
    rw [HP.out]
    exact ⟨rfl, ⟨⟨_, _, HR.out.below HV1.out⟩, HB0.out.trans (HB1.out.mono HB0.out.size)⟩, Kept.of_below HB1.out⟩
  · have HP : Hid (putW W y = W ++ [y]) := by unfold Hid putW; rw [if_neg hy]
    rw [decide_eq_false hy]
    clear hy
    go_wp2_with fail
    have HD := hidC (HV1.out.trans ((below_drew (Below.refl w1.heap.size w1)).mono HV1.out.size))
    have HRD := hidC (HR.out.below HD.out)
    have HYD : Hid (w1.drew.heap[w.heap.size]? = some (.cells #[.bool y.ch, .string y.name, .string y.label, .int .i64 y.day, .int .i64 y.side] 43)) := (HD.out.block _ (Array.getElem?_eq_some_iff.1 HY.out).1).trans HY.out
    have HB2 : Hid (Below w.heap.size w w1.drew) := HBA.out.trans (HD.out.mono HBA.out.size)
    have HFC : Hid (∀ w' : World, (w'.cell? ⟨a, 3, none⟩ = some (.slice ao W.length cap) ∧ w'.heap[w.heap.size]? = some (.cells #[.bool y.ch, .string y.name, .string y.label, .int .i64 y.day, .int .i64 y.side] 43)) → w'.cell? ⟨a, 3, none⟩ = some (.slice ao W.length cap) ∧ w'.cell? ⟨w.heap.size, 0, none⟩ = some (.bool y.ch) ∧ w'.cell? ⟨w.heap.size, 1, none⟩ = some (.string y.name) ∧ w'.cell? ⟨w.heap.size, 2, none⟩ = some (.string y.label) ∧ w'.cell? ⟨w.heap.size, 3, none⟩ = some (.int .i64 y.day) ∧ w'.cell? ⟨w.heap.size, 4, none⟩ = some (.int .i64 y.side)) := fun w' hw' =>
      ⟨hw'.1, cell_of_row _ _ 0 _ _ _ hw'.2, cell_of_row _ _ 1 _ _ _ hw'.2, cell_of_row _ _ 2 _ _ _ hw'.2, cell_of_row _ _ 3 _ _ _ hw'.2, cell_of_row _ _ 4 _ _ _ hw'.2⟩
    refine Mx.wp_region_mix5 (fun w' => w'.cell? ⟨a, 3, none⟩ = some (.slice ao W.length cap) ∧ w'.heap[w.heap.size]? = some (.cells #[.bool y.ch, .string y.name, .string y.label, .int .i64 y.day, .int .i64 y.side] 43)) 10 [(0, false), (1, false), (2, false), (3, false), (4, false), (5, false), (6, true), (7, true), (8, true), (9, true), (10, true)] (by kernel_rfl) (by kernel_rfl) ⟨HRD.out.cell3 (twoA id p), HYD.out⟩ ?_ (by kernel_rfl)
    simp only [List.map_cons, List.map_nil, List.getD_cons_zero, List.getD_cons_succ]
    generalize hops : (#[_, _, _, _, _, _, _, _, _, _, _] : Array Oper) = ops
    clear hops
    refine Mx.l_pure (.pointer (some ⟨a, 0, none⟩)) (by decide) (Mx.wanted_none rfl) (fun w' hw' => ?_) ?_
    · go_simp
    simp only [Act.put, List.setIfInBounds_toArray, List.set_cons_zero, List.set_cons_succ]
    refine Mx.l_pure (.pointer (some ⟨a, 0, none⟩)) (by decide) (Mx.wanted_none rfl) (fun w' hw' => ?_) ?_
    · go_simp
    simp only [Act.put, List.setIfInBounds_toArray, List.set_cons_zero, List.set_cons_succ]
    refine Mx.l_pure (.pointer (some ⟨a, 0, none⟩)) (by decide) (Mx.wanted_none rfl) (fun w' hw' => ?_) ?_
    · go_simp
    simp only [Act.put, List.setIfInBounds_toArray, List.set_cons_zero, List.set_cons_succ]
    refine Mx.l_pure (.pointer (some ⟨a, 3, none⟩)) (by decide) (Mx.wanted_none rfl) (fun w' hw' => ?_) ?_
    · go_simp
    simp only [Act.put, List.setIfInBounds_toArray, List.set_cons_zero, List.set_cons_succ]
    refine Mx.l_pure (.slice ao W.length cap) (by decide) (Mx.wanted_none rfl) (fun w' hw' => ?_) ?_
    · obtain ⟨q0, q1, q2, q3, q4, q5⟩ := HFC.out w' hw'
      go_simp
    simp only [Act.put, List.setIfInBounds_toArray, List.set_cons_zero, List.set_cons_succ]
    refine Mx.l_pure (.agg #[.bool y.ch, .string y.name, .string y.label, .int .i64 y.day, .int .i64 y.side]) (by decide) (Mx.wanted_none rfl) (fun w' hw' => ?_) ?_
    · obtain ⟨q0, q1, q2, q3, q4, q5⟩ := HFC.out w' hw'
      go_simp
    simp only [Act.put, List.setIfInBounds_toArray, List.set_cons_zero, List.set_cons_succ]
    generalize hX : w1.drew = X at *
    clear hX
    have HB3 := hidC (below_alloc (Below.refl X.heap.size X) (.cells #[.bool y.ch, .string y.name, .string y.label, .int .i64 y.day, .int .i64 y.side] 43))
    have HRA := hidC (HRD.out.below HB3.out)
    have HYA : Hid ((X.alloc (.cells #[.bool y.ch, .string y.name, .string y.label, .int .i64 y.day, .int .i64 y.side] 43)).heap[w.heap.size]? = some (.cells #[.bool y.ch, .string y.name, .string y.label, .int .i64 y.day, .int .i64 y.side] 43)) := (HB3.out.block _ (Array.getElem?_eq_some_iff.1 HYD.out).1).trans HYD.out
    refine Mx.l_run (.slice (some ⟨X.heap.size, 0, none⟩) 1 1) (Mx.wanted_none rfl) (w' := X.alloc (.cells #[.bool y.ch, .string y.name, .string y.label, .int .i64 y.day, .int .i64 y.side] 43)) ?_ ⟨HRA.out.cell3 (twoA id p), HYA.out⟩ ?_
    · go_simp
    simp only [Act.put, List.setIfInBounds_toArray, List.set_cons_zero, List.set_cons_succ]
    have hB0 : w0.heap.size ≤ (X.alloc (.cells #[.bool y.ch, .string y.name, .string y.label, .int .i64 y.day, .int .i64 y.side] 43)).heap.size := Nat.le_trans HB0.out.size (Nat.le_trans HB2.out.size HB3.out.size)
    obtain ⟨v', w4, hrun, hc3, hf3, ⟨ao2, cap2, hv'⟩, hg, k1, k2⟩ := HRA.out.pushW (twoA id p) (by decide) (by decide) hB0 hl y X.heap.size (heap_alloc_new _ _) 38
    have HK1 := hidC k1
    have HK2 := hidC k2
    have HKP : Hid (Kept a (X.alloc (.cells #[.bool y.ch, .string y.name, .string y.label, .int .i64 y.day, .int .i64 y.side] 43)) (w4.setCell ⟨a, 3, none⟩ v')) := Kept.grown HRA.out.rw' (.inr rfl) hg
    have HY4 : Hid (w4.heap[w.heap.size]? = some (.cells #[.bool y.ch, .string y.name, .string y.label, .int .i64 y.day, .int .i64 y.side] 43)) := (hg.block _ (Array.getElem?_eq_some_iff.1 HYA.out).1 (fun e => by have := HLT.out _ e.symm; omega)).trans HYA.out
    clear hg k1 k2
    generalize X.alloc (.cells #[.bool y.ch, .string y.name, .string y.label, .int .i64 y.day, .int .i64 y.side] 43) = w3 at *
    refine Mx.l_run v' (Mx.wanted_none rfl) (w' := w4) ?_ ⟨hc3, HY4.out⟩ ?_
    · simp [execOp, resolve, invoke, builtin, Act.eval, hrun]
    clear hrun
    subst hv'
    simp only [Act.put, List.setIfInBounds_toArray, List.set_cons_zero, List.set_cons_succ]
    refine Mx.l_run (.pointer (some ⟨a, 0, none⟩)) (Mx.wanted_none rfl) (w' := w4) ?_ ⟨hc3, HY4.out⟩ ?_
    · go_simp
    simp only [Act.put, List.setIfInBounds_toArray, List.set_cons_zero, List.set_cons_succ]
    refine Mx.l_run (.pointer (some ⟨a, 3, none⟩)) (Mx.wanted_none rfl) (w' := w4) ?_ ⟨hc3, HY4.out⟩ ?_
    · go_simp
    simp only [Act.put, List.setIfInBounds_toArray, List.set_cons_zero, List.set_cons_succ]
    refine Mx.l_last (w' := w4.setCell ⟨a, 3, none⟩ (.slice ao2 (W.length + 1) cap2)) (Mx.wanted_none rfl) ?_ ?_
    · go_simp
    simp only [Act.put]
    generalize w4.setCell ⟨a, 3, none⟩ (.slice ao2 (W.length + 1) cap2) = w5 at *
    clear hc3 hf3
    go_wp2_with fail
    go_end0
    rw [HP.out]
    have h1 : Below w.heap.size w w3 := HB2.out.trans (HB3.out.mono HB2.out.size)
    exact ⟨rfl, ⟨⟨_, _, HK1.out⟩, (HB0.out.trans (h1.mono HB0.out.size)).trans HK2.out⟩, (Kept.of_below h1).trans HKP.out⟩

end Go.Proofs.Ytngjlkdpplmpaaa.Ca
namespace Go.Proofs.Ytngjlkdpplmpaaa.Ca
open Go.RowKit Wd Cn Vl
set_option linter.unusedVariables false

/-- What a walk knows: the program's world in memory, what is known, the contract's name. -/
structure Env (w0 : World) (p f c : Nat) (K : KW) (id : ByteArray) : Prop where
  kin : KIn w0 p f c K
  vals : KW.Vals K
  chs : KW.Chs K
  idl : id.size ≤ 1000000
def numW (K : KW) (d : Int) (o : O) : List Wt := if (rk K d o).e ≠ 0 then [] else if (rk K d o).known = true then [] else waitN K d o
theorem addW_snoc (W ys : List Wt) (y : Wt) : addW W (ys ++ [y]) = putW (addW W ys) y := by rw [addW_app]; rfl
theorem chk_sz {o : O} (h : chk o = 0) : formB o = true ∧ o.nodes ≤ 60 := by
  unfold chk at h
  split at h
  · rename_i h1
    split at h
    · cases h
    · exact ⟨h1, by omega⟩
  · cases h

set_option maxHeartbeats 2000000 in
set_option maxRecDepth 100000 in
theorem number_any {w0 : World} {p f c : Nat} {K : KW} {id : ByteArray} (hE : Env w0 p f c K id) (w : World) (a : Nat) (F : List Fl) (W : List Wt) (h : StA w0 w a id p F W) (hl : W.length ≤ 60000) (o : O) (hok : o.Ok) (hc : chk o = 0) (d : Int) (hd : dayOk d) :
    Calls Try.prog 80 #[.pointer (some ⟨a, 0, none⟩), o.val, .int .i64 d] w fun e w' => e = ofE (rk K d o) ∧ StA w0 w' a id p F (addW W (numW K d o)) ∧ Kept a w w' := by
  obtain ⟨hf, hnd⟩ := chk_sz hc
  have HK := hidC hE.kin
  have HG := hidC (rk_good hE.vals d o hf)
  have HS := hidC h
  obtain ⟨⟨vF, vW, hin⟩, hb0⟩ := h
  have HB0 := hidC hb0
  have c1 : w.cell? ⟨a, 1, none⟩ = some (.pointer (some ⟨p, 0, none⟩)) := cell_blk hin.blk rfl
  have HC1 : Hid (∀ w', Below w.heap.size w w' → w'.cell? ⟨a, 1, none⟩ = some (.pointer (some ⟨p, 0, none⟩))) := fun w' hw' => cell_blk (hin.below hw').blk rfl
  have HOF : Hid (ofR K d o = rk K d o) := Vl.ofR_ok hc
  have HNE : Hid (needR K d o = lackN K d o.names) := by unfold Hid needR; rw [if_pos hc]
  have HLEN := hidC (lackN_len K d o)
  have HOK := hidC hok
  clear hin hb0 hE
  go_enter Try.func80, Try.ntmps80
  go_wp2_with fail
  refine (of_any o hok (by omega) w p f c K d (HK.out.below HB0.out) hd).mono ?_
  rintro e w1 ⟨rfl, hb1⟩
  have HB1 := hidC hb1
  have HS1 := hidC (HS.out.step hb1)
  have c1' := HC1.out w1 hb1
  rw [HOF.out]
  unfold ofE
  clear hb1 c1 hok
  by_cases he : (rk K d o).e = 0
  · by_cases hk : (rk K d o).known = true
    · have HN : Hid (numW K d o = []) := by unfold Hid numW; rw [if_neg (by simpa using he), if_pos hk]
      have HX : Hid (ofE (rk K d o) = Ending.returned (.tuple #[.int .i64 (rk K d o).n, .bool true, .int .i64 0])) := by unfold Hid ofE; rw [he, hk]
      rw [he, hk]
      generalize (rk K d o).n = n at *
      go_wp2_with fail
      go_ret3
      rw [HX.out, HN.out]
      exact ⟨rfl, HS1.out, Kept.of_below HB1.out⟩
    · have HN : Hid (numW K d o = waitN K d o) := by unfold Hid numW; rw [if_neg (by simpa using he), if_neg hk]
      have hk' : (rk K d o).known = false := by simpa using hk
      have hn0 := HG.out.unk hk'
      have HX : Hid (ofE (rk K d o) = Ending.returned (.tuple #[.int .i64 0, .bool false, .int .i64 0])) := by unfold Hid ofE; rw [he, hk', hn0]
      rw [he, hk', hn0]
      clear he hk hk' hn0 HG
      go_wp2_with fail
      refine (needs_any o HOK.out (by omega) w1 p f c K d ((HK.out.below HB0.out).below HB1.out) hd).mono ?_
      rintro e w2 ⟨v2, rfl, hown, hb2⟩
      rw [HNE.out] at hown
      have HS2 := hidC (HS1.out.step hb2)
      have HKP2 := hidC (Kept.of_below (a := a) (HB1.out.trans (hb2.mono HB1.out.size)))
      obtain ⟨ao, cap, rfl⟩ := row_shape hown
      have HOWN := hidC hown
      have hll : (lackN K d o.names).length ≤ 60 := by
        have := HLEN.out
        unfold waitN at this
        rw [List.length_map] at this
        omega
      clear hown hb2 c1'
      have HN2 : Hid (numW K d o = (lackN K d o.names).map (nameW d)) := HN.out
      clear HN
      generalize lackN K d o.names = l at *
      go_wp2_with fail
      go_loopw [38] (fun s38 wr => ∃ i : Nat, i ≤ l.length ∧ s38 = .int .i64 i ∧ StA w0 wr a id p F (addW W ((l.take i).map (nameW d))) ∧ Kept a w wr ∧ wr.ownsRow w1.heap.size 9 1 (.slice ao l.length cap) l.length (strCells l)) (fun s38 _ => l.length - (intOf s38).toNat)
      case atStart => exact ⟨0, by omega, rfl, HS2.out, HKP2.out, HOWN.out⟩
      case round =>
        obtain ⟨i, hi, rfl, hs, hkp, hrow⟩ := hrel
        have HSR := hidC hs
        have HKR := hidC hkp
        have HROW := hidC hrow
        clear hs hkp hrow
        by_cases hlt : i < l.length
        · have hlt' : (i : Int) < (l.length : Int) := by omega
          obtain ⟨ao', cap', he, hcl, _⟩ := own_str HROW.out
          simp only [Value.slice.injEq] at he
          obtain ⟨rfl, -, -⟩ := he
          obtain ⟨g, rfl, hg, hcell⟩ := hcl i hlt
          have HT : Hid (addW W ((l.take (i + 1)).map (nameW d)) = putW (addW W ((l.take i).map (nameW d))) (nameW d l[i])) := by
            unfold Hid
            rw [take_more l i l[i] (List.getElem?_eq_getElem hlt), List.map_append]
            exact addW_snoc _ _ _
          have hal : (addW W ((l.take i).map (nameW d))).length ≤ 100000 := by
            have h1 := addW_len ((l.take i).map (nameW d)) W
            rw [List.length_map, List.length_take] at h1
            omega
          clear hcl
          generalize l[i] = s at *
          generalize addW W ((l.take i).map (nameW d)) = W' at *
          have HWT := hidC (wait_any w0 wr a id p F W' HSR.out hal (nameW d s))
          unfold nameW Wt.val at HWT
          simp only at HWT
          go_wp2_with fail
          refine HWT.out.mono ?_
          rintro e w4 ⟨rfl, hs4, hk4⟩
          have HS4 : Hid (StA w0 w4 a id p F (putW W' (nameW d s))) := hs4
          have HK4 := hidC (HKR.out.trans hk4)
          have HR4 := hidC (hk4.row HROW.out (HSR.out.at_row HROW.out (by decide)) (by decide) (by decide))
          clear hs4 hk4 hcell
          go_wp2_with fail
          go_roundw
          case rel => exact ⟨i + 1, by omega, by go_num, by rw [HT.out]; exact HS4.out, HK4.out, HR4.out⟩
          case measure => simp [intOf] <;> omega
        · have hle : i = l.length := by omega
          subst hle
          rw [List.take_length] at HSR
          go_wp2_with fail
          go_ret3
          rw [HX.out, HN2.out]
          exact ⟨rfl, HSR.out, HKR.out⟩
  · have HN : Hid (numW K d o = []) := by unfold Hid numW; rw [if_pos he]
    have hk' := (HG.out.err he).2
    have he' : ((rk K d o).e != 0) = true := by simpa using he
    have HX : Hid (ofE (rk K d o) = Ending.returned (.tuple #[.int .i64 (rk K d o).n, .bool false, .int .i64 (rk K d o).e])) := by unfold Hid ofE; rw [hk']
    rw [hk']
    generalize (rk K d o).n = n at *
    generalize (rk K d o).e = e6 at *
    go_wp2_with fail
    go_ret3
    rw [HX.out, HN.out]
    exact ⟨rfl, HS1.out, Kept.of_below HB1.out⟩

end Go.Proofs.Ytngjlkdpplmpaaa.Ca
namespace Go.Proofs.Ytngjlkdpplmpaaa.Ca
open Go.RowKit Wd Cn Vl
set_option linter.unusedVariables false

/-- What a call of the walk does at a contract's value: its error, what it met. -/
def ThF (g : FuncId) (w0 : World) (a : Nat) (id : ByteArray) (p : Nat) (v : Value) (r : Int → Int → Ck) (n : Nat) : Prop := ∀ (w : World) (F : List Fl) (W : List Wt) (d k : Int), StA w0 w a id p F W → 0 ≤ d → d ≤ 10000 → vB k = true → k ≠ 0 → F.length + n ≤ 50000 → W.length + n ≤ 50000 →
  Calls Try.prog g #[.pointer (some ⟨a, 0, none⟩), v, .int .i64 d, .int .i64 k] w fun e w' => e = .returned (.int .i64 (r d k).e) ∧ StA w0 w' a id p (F ++ (r d k).f) (addW W (r d k).w) ∧ Kept a w w'
def ThC (w0 : World) (a : Nat) (id : ByteArray) (p : Nat) (K : KW) (c : C) : Prop := ThF 26 w0 a id p c.val (ck K id c) c.weight
theorem form_val (c : C) (h : formC c = true) : ∃ t x, c.val = .iface t x := by
  cases c <;> first | exact ⟨_, _, rfl⟩ | simp [formC] at h
theorem assert_one {P : Program} {t : TypeId} {u : TypeDesc} (hu : P.underlying t = some u) (hn : ∀ m, u ≠ .interface m) (v : Value) (xT : TypeId) (w : World) :
    (Instr.typeAssert (.iface t v) xT t false).run P w = .ok v w := by
  cases u <;> first | (exfalso; exact hn _ rfl) | simp [Instr.typeAssert, run_underlying hu]
theorem isIf1 (v : Value) (xT : TypeId) (w : World) : (Instr.typeAssert (.iface 54 v) xT 54 false).run Try.prog w = .ok v w := assert_one Try.underlying54 (by intro m h; cases h) v xT w
theorem negR_ok {k : Int} (h : vB k = true) : negR k = (-k, true) := by unfold negR; rw [if_pos h]
theorem vB_i64 {k : Int} (h : vB k = true) : -1000000000000 ≤ k ∧ k ≤ 1000000000000 := (vB_iff k).1 h

set_option maxHeartbeats 2000000 in
set_option maxRecDepth 100000 in
theorem th_zero (w0 : World) (a : Nat) (id : ByteArray) (p : Nat) (K : KW) : ThC w0 a id p K .zero := by
  intro w F W d k hs hd1 hd2 hv hk hlf hlw
  have HS := hidC hs
  have h0 := fun v xT w => isZero v xT w
  have HQ : Hid (ck K id .zero d k = ⟨[], [], 0⟩) := rfl
  clear hs
  unfold C.val
  go_enter Try.func26, Try.ntmps26
  go_wp2_with fail
  go_ret
  rw [HQ.out, List.append_nil]
  exact ⟨rfl, HS.out.step (below_alloc (Below.refl _ _) _), Kept.of_below (below_alloc (Below.refl _ _) _)⟩

set_option maxHeartbeats 2000000 in
set_option maxRecDepth 100000 in
theorem th_one (w0 : World) (a : Nat) (id : ByteArray) (p : Nat) (K : KW) (s : ByteArray) : ThC w0 a id p K (.one s) := by
  intro w F W d k hs hd1 hd2 hv hk hlf hlw
  have HS := hidC hs
  have h0 := fun v xT w => notZero 24 v xT w (by decide)
  have h1 := fun v xT w => isOne v xT w
  have HQ : Hid (ck K id (.one s) d k = ⟨[⟨d, s, k⟩], [], 0⟩) := rfl
  obtain ⟨⟨vF, vW, hin⟩, hb0⟩ := hs
  have HB0 := hidC hb0
  have HB1 := hidC (below_drew (below_alloc (Below.refl w.heap.size w) (.cells #[.string s] 24)))
  have HR := hidC (hin.below HB1.out)
  have HX : Hid ((w.alloc (.cells #[.string s] 24)).drew.heap[w.heap.size]? = some (.cells #[.string s] 24)) := heap_alloc_new _ _
  obtain ⟨ao, cap, hvF⟩ := row_shape hin.rf
  have hFl : F.length ≤ 100000 := by omega
  have HHK := hidC (And.intro hv hk)
  clear hin hb0 hv hk
  subst hvF
  unfold C.val
  go_enter Try.func26, Try.ntmps26
  go_wp2_with fail
  generalize w.alloc (.cells #[.string s] 24) = V at *
  have HFC : Hid (∀ w' : World, (w'.cell? ⟨a, 2, none⟩ = some (.slice ao F.length cap) ∧ w'.heap[w.heap.size]? = some (.cells #[.string s] 24)) → w'.cell? ⟨a, 2, none⟩ = some (.slice ao F.length cap) ∧ w'.cell? ⟨w.heap.size, 0, none⟩ = some (.string s)) := fun w' hw' =>
    ⟨hw'.1, cell_of_row _ _ 0 _ _ _ hw'.2⟩
  refine Mx.wp_region_mix5 (fun w' => w'.cell? ⟨a, 2, none⟩ = some (.slice ao F.length cap) ∧ w'.heap[w.heap.size]? = some (.cells #[.string s] 24)) 14 [(0, false), (1, false), (2, false), (3, false), (4, false), (5, false), (6, false), (7, false), (8, false), (9, false), (10, true), (11, true), (12, true), (13, true), (14, true)] (by kernel_rfl) (by kernel_rfl) ⟨HR.out.cell2 (twoA id p), HX.out⟩ ?_ (by kernel_rfl)
  simp only [List.map_cons, List.map_nil, List.getD_cons_zero, List.getD_cons_succ]
  generalize hops : (#[_, _, _, _, _, _, _, _, _, _, _, _, _, _, _] : Array Oper) = ops
  clear hops
  refine Mx.l_pure (.pointer (some ⟨a, 0, none⟩)) (by decide) (Mx.wanted_none rfl) (fun w' hw' => ?_) ?_
  · go_simp
  simp only [Act.put, List.setIfInBounds_toArray, List.set_cons_zero, List.set_cons_succ]
  refine Mx.l_pure (.pointer (some ⟨a, 0, none⟩)) (by decide) (Mx.wanted_none rfl) (fun w' hw' => ?_) ?_
  · go_simp
  simp only [Act.put, List.setIfInBounds_toArray, List.set_cons_zero, List.set_cons_succ]
  refine Mx.l_pure (.pointer (some ⟨a, 0, none⟩)) (by decide) (Mx.wanted_none rfl) (fun w' hw' => ?_) ?_
  · go_simp
  simp only [Act.put, List.setIfInBounds_toArray, List.set_cons_zero, List.set_cons_succ]
  refine Mx.l_pure (.pointer (some ⟨a, 2, none⟩)) (by decide) (Mx.wanted_none rfl) (fun w' hw' => ?_) ?_
  · go_simp
  simp only [Act.put, List.setIfInBounds_toArray, List.set_cons_zero, List.set_cons_succ]
  refine Mx.l_pure (.slice ao F.length cap) (by decide) (Mx.wanted_none rfl) (fun w' hw' => ?_) ?_
  · obtain ⟨q0, q1⟩ := HFC.out w' hw'
    go_simp
  simp only [Act.put, List.setIfInBounds_toArray, List.set_cons_zero, List.set_cons_succ]
  refine Mx.l_pure (.int .i64 d) (by decide) (Mx.wanted_none rfl) (fun w' hw' => ?_) ?_
  · go_simp
  simp only [Act.put, List.setIfInBounds_toArray, List.set_cons_zero, List.set_cons_succ]
  refine Mx.l_pure (.pointer (some ⟨w.heap.size, 0, none⟩)) (by decide) (Mx.wanted_none rfl) (fun w' hw' => ?_) ?_
  · go_simp
  simp only [Act.put, List.setIfInBounds_toArray, List.set_cons_zero, List.set_cons_succ]
  refine Mx.l_pure (.string s) (by decide) (Mx.wanted_none rfl) (fun w' hw' => ?_) ?_
  · obtain ⟨q0, q1⟩ := HFC.out w' hw'
    go_simp
  simp only [Act.put, List.setIfInBounds_toArray, List.set_cons_zero, List.set_cons_succ]
  refine Mx.l_pure (.int .i64 k) (by decide) (Mx.wanted_none rfl) (fun w' hw' => ?_) ?_
  · go_simp
  simp only [Act.put, List.setIfInBounds_toArray, List.set_cons_zero, List.set_cons_succ]
  refine Mx.l_pure (.agg #[.int .i64 d, .string s, .int .i64 k]) (by decide) (Mx.wanted_none rfl) (fun w' hw' => ?_) ?_
  · go_simp
  simp only [Act.put, List.setIfInBounds_toArray, List.set_cons_zero, List.set_cons_succ]
  generalize hX : V.drew = X at *
  clear hX
  have HB3 := hidC (below_alloc (Below.refl X.heap.size X) (.cells #[.int .i64 d, .string s, .int .i64 k] 46))
  have HRA := hidC (HR.out.below HB3.out)
  have HXA : Hid ((X.alloc (.cells #[.int .i64 d, .string s, .int .i64 k] 46)).heap[w.heap.size]? = some (.cells #[.string s] 24)) := (HB3.out.block _ (Array.getElem?_eq_some_iff.1 HX.out).1).trans HX.out
  refine Mx.l_run (.slice (some ⟨X.heap.size, 0, none⟩) 1 1) (Mx.wanted_none rfl) (w' := X.alloc (.cells #[.int .i64 d, .string s, .int .i64 k] 46)) ?_ ⟨HRA.out.cell2 (twoA id p), HXA.out⟩ ?_
  · go_simp
  simp only [Act.put, List.setIfInBounds_toArray, List.set_cons_zero, List.set_cons_succ]
  have hB0 : w0.heap.size ≤ (X.alloc (.cells #[.int .i64 d, .string s, .int .i64 k] 46)).heap.size := Nat.le_trans HB0.out.size (Nat.le_trans HB1.out.size HB3.out.size)
  obtain ⟨v', w4, hrun, hc3, hf3, ⟨ao2, cap2, hv'⟩, hg, k1, k2⟩ := HRA.out.pushF (twoA id p) (by decide) (by decide) hB0 hFl ⟨d, s, k⟩ X.heap.size (heap_alloc_new _ _) 37
  have HK1 := hidC k1
  have HK2 := hidC k2
  have HKP : Hid (Kept a (X.alloc (.cells #[.int .i64 d, .string s, .int .i64 k] 46)) (w4.setCell ⟨a, 2, none⟩ v')) := Kept.grown HRA.out.rf (.inl rfl) hg
  have HX4 : Hid (w4.heap[w.heap.size]? = some (.cells #[.string s] 24)) := (hg.block _ (Array.getElem?_eq_some_iff.1 HXA.out).1 (fun e => by
    obtain ⟨cs, hc⟩ := row_block HRA.out.rf e.symm
    have := HXA.out
    rw [hc] at this
    injection this with e1
    injection e1 with _ e1
    exact absurd e1 (by decide))).trans HXA.out
  clear hg k1 k2
  generalize X.alloc (.cells #[.int .i64 d, .string s, .int .i64 k] 46) = w3 at *
  refine Mx.l_run v' (Mx.wanted_none rfl) (w' := w4) ?_ ⟨hc3, HX4.out⟩ ?_
  · simp [execOp, resolve, invoke, builtin, Act.eval, hrun]
  clear hrun
  subst hv'
  simp only [Act.put, List.setIfInBounds_toArray, List.set_cons_zero, List.set_cons_succ]
  refine Mx.l_run (.pointer (some ⟨a, 0, none⟩)) (Mx.wanted_none rfl) (w' := w4) ?_ ⟨hc3, HX4.out⟩ ?_
  · go_simp
  simp only [Act.put, List.setIfInBounds_toArray, List.set_cons_zero, List.set_cons_succ]
  refine Mx.l_run (.pointer (some ⟨a, 2, none⟩)) (Mx.wanted_none rfl) (w' := w4) ?_ ⟨hc3, HX4.out⟩ ?_
  · go_simp
  simp only [Act.put, List.setIfInBounds_toArray, List.set_cons_zero, List.set_cons_succ]
  refine Mx.l_last (w' := w4.setCell ⟨a, 2, none⟩ (.slice ao2 (F.length + 1) cap2)) (Mx.wanted_none rfl) ?_ ?_
  · go_simp
  simp only [Act.put]
  generalize w4.setCell ⟨a, 2, none⟩ (.slice ao2 (F.length + 1) cap2) = w5 at *
  clear hc3 hf3
  go_wp2_with fail
  go_ret
  have h1 : Below w.heap.size w w3 := HB1.out.trans (HB3.out.mono HB1.out.size)
  rw [HQ.out]
  exact ⟨rfl, ⟨⟨_, _, HK1.out⟩, (HB0.out.trans (h1.mono HB0.out.size)).trans HK2.out⟩, (Kept.of_below h1).trans HKP.out⟩

set_option maxHeartbeats 2000000 in
set_option maxRecDepth 100000 in
theorem th_give (w0 : World) (a : Nat) (id : ByteArray) (p : Nat) (K : KW) (c : C) (hf : formC c = true) (ih : ThC w0 a id p K c) : ThC w0 a id p K (.give c) := by
  intro w F W d k hs hd1 hd2 hv hk hlf hlw
  have HS := hidC hs
  have h0 := fun v xT w => notZero 34 v xT w (by decide)
  have h1 := fun v xT w => notOne 34 v xT w (by decide)
  have h2 := fun v xT w => isGive v xT w
  have HQ : Hid (ck K id (.give c) d k = ck K id c d (-k)) := rfl
  obtain ⟨t, x, he⟩ := form_val c hf
  unfold ThC at ih
  rw [he] at ih
  have HI := hidC ih
  have hng := negR_ok hv
  have HN : Hid (Calls Try.prog 47 #[.int .i64 k] (w.alloc (.cells #[.iface t x] 34)) fun e w' => e = .returned (.tuple #[.int .i64 (-k), .bool true]) ∧ w' = w.alloc (.cells #[.iface t x] 34)) := by
    have := neg_any k (w.alloc (.cells #[.iface t x] 34))
    rw [hng] at this
    exact this
  have HV := hidC (vB_neg k hv)
  simp only [C.weight] at hlf hlw
  clear hs ih hng hv
  unfold C.val
  rw [he]
  clear he
  go_enter Try.func26, Try.ntmps26
  go_wp2_with fail
  refine calls_same HN.out ?_
  go_wp2_with fail
  refine (HI.out _ F W d (-k) (HS.out.step (below_alloc (Below.refl _ _) _)) hd1 hd2 HV.out (by omega) (by omega) (by omega)).mono ?_
  rintro e w2 ⟨rfl, hs2, hk2⟩
  have HS2 := hidC hs2
  have HK2 := hidC hk2
  clear hs2 hk2
  go_wp2_with fail
  go_ret
  rw [HQ.out]
  exact ⟨rfl, HS2.out, (Kept.of_below (below_alloc (Below.refl _ _) _)).trans HK2.out⟩

set_option maxHeartbeats 2000000 in
set_option maxRecDepth 100000 in
theorem th_when (w0 : World) (a : Nat) (id : ByteArray) (p : Nat) (K : KW) (d' : Int) (c : C) (hf : formC (.when d' c) = true) (ih : ThC w0 a id p K c) : ThC w0 a id p K (.when d' c) := by
  intro w F W d k hs hd1 hd2 hv hk hlf hlw
  have HS := hidC hs
  have h0 := fun v xT w => notZero 56 v xT w (by decide)
  have h1 := fun v xT w => notOne 56 v xT w (by decide)
  have h2 := fun v xT w => notGive 56 v xT w (by decide)
  have h3 := fun v xT w => notAnd 56 v xT w (by decide)
  have h4 := fun v xT w => notOr 56 v xT w (by decide)
  have h5 := fun v xT w => notScale 56 v xT w (by decide)
  have h6 := fun v xT w => isWhen v xT w
  have HQ : Hid (ck K id (.when d' c) d k = ck K id c (Max.max d d') k) := rfl
  simp only [formC, Bool.and_eq_true] at hf
  obtain ⟨g1, g2⟩ := (dayB_iff d').1 hf.1
  obtain ⟨t, x, he⟩ := form_val c hf.2
  unfold ThC at ih
  rw [he] at ih
  have HI := hidC ih
  simp only [C.weight] at hlf hlw
  have HHK := hidC (And.intro hv hk)
  clear hs ih hf hv hk
  unfold C.val
  rw [he]
  clear he
  rcases Int.lt_or_le d d' with hm | hm
  · have HM : Hid (Max.max d d' = d') := by unfold Hid; omega
    rw [HM.out] at HQ
    go_enter Try.func26, Try.ntmps26
    go_wp2_with fail
    refine (HI.out _ F W d' k (HS.out.step (below_alloc (Below.refl _ _) _)) g1 g2 HHK.out.1 HHK.out.2 (by omega) (by omega)).mono ?_
    rintro e w2 ⟨rfl, hs2, hk2⟩
    have HS2 := hidC hs2
    have HK2 := hidC hk2
    clear hs2 hk2
    go_wp2_with fail
    go_ret
    rw [HQ.out]
    exact ⟨rfl, HS2.out, (Kept.of_below (below_alloc (Below.refl _ _) _)).trans HK2.out⟩
  · have HM : Hid (Max.max d d' = d) := by unfold Hid; omega
    rw [HM.out] at HQ
    go_enter Try.func26, Try.ntmps26
    go_wp2_with fail
    refine (HI.out _ F W d k (HS.out.step (below_alloc (Below.refl _ _) _)) hd1 hd2 HHK.out.1 HHK.out.2 (by omega) (by omega)).mono ?_
    rintro e w2 ⟨rfl, hs2, hk2⟩
    have HS2 := hidC hs2
    have HK2 := hidC hk2
    clear hs2 hk2
    go_wp2_with fail
    go_ret
    rw [HQ.out]
    exact ⟨rfl, HS2.out, (Kept.of_below (below_alloc (Below.refl _ _) _)).trans HK2.out⟩

set_option maxHeartbeats 2000000 in
set_option maxRecDepth 100000 in
theorem th_and (w0 : World) (a : Nat) (id : ByteArray) (p : Nat) (K : KW) (l r : C) (hfl : formC l = true) (hfr : formC r = true) (ihl : ThC w0 a id p K l) (ihr : ThC w0 a id p K r) : ThC w0 a id p K (.and l r) := by
  intro w F W d k hs hd1 hd2 hv hk hlf hlw
  have HS := hidC hs
  have h0 := fun v xT w => notZero 64 v xT w (by decide)
  have h1 := fun v xT w => notOne 64 v xT w (by decide)
  have h2 := fun v xT w => notGive 64 v xT w (by decide)
  have h3 := fun v xT w => isAnd v xT w
  have HQ : Hid (ck K id (.and l r) d k = (ck K id l d k).seq (ck K id r d k)) := rfl
  obtain ⟨t, x, he⟩ := form_val l hfl
  obtain ⟨t2, x2, he2⟩ := form_val r hfr
  unfold ThC at ihl ihr
  rw [he] at ihl
  rw [he2] at ihr
  have HL := hidC ihl
  have HR := hidC ihr
  have HLEN := hidC (ck_len K id l d k)
  simp only [C.weight] at hlf hlw
  have HHK := hidC (And.intro hv hk)
  clear hs ihl ihr hfl hfr hv hk
  unfold C.val
  rw [he, he2]
  clear he he2
  go_enter Try.func26, Try.ntmps26
  go_wp2_with fail
  have HBX := hidC (heap_alloc_new w (.cells #[.iface t x, .iface t2 x2] 64))
  have HS1 := hidC (HS.out.step (below_alloc (Below.refl _ _) (.cells #[.iface t x, .iface t2 x2] 64)))
  have HK1 := hidC (Kept.of_below (a := a) (below_alloc (Below.refl w.heap.size w) (.cells #[.iface t x, .iface t2 x2] 64)))
  refine (HL.out _ F W d k HS1.out hd1 hd2 HHK.out.1 HHK.out.2 (by omega) (by omega)).mono ?_
  rintro e w2 ⟨rfl, hs2, hk2⟩
  have hb2 := hk2.cells HBX.out (HS1.out.at_cells HBX.out (by decide)) (by decide) (by decide)
  have c1 : w2.cell? ⟨w.heap.size, 1, none⟩ = some (.iface t2 x2) := cell_of_row _ _ 1 _ _ _ hb2
  have HS2 := hidC hs2
  have HK2 := hidC (HK1.out.trans hk2)
  clear hs2 hk2 hb2
  generalize hA : ck K id l d k = A at *
  by_cases h0 : A.e = 0
  · have HQ2 : Hid (A.seq (ck K id r d k) = ⟨A.f ++ (ck K id r d k).f, A.w ++ (ck K id r d k).w, (ck K id r d k).e⟩) := by unfold Hid Ck.seq; rw [if_neg (by simpa using h0)]
    rw [h0]
    clear h0 hA
    go_wp2_with fail
    refine (HR.out w2 _ _ d k HS2.out hd1 hd2 HHK.out.1 HHK.out.2 (by have := HLEN.out; rw [List.length_append]; omega) (by have := HLEN.out; have := addW_len A.w W; omega)).mono ?_
    rintro e w3 ⟨rfl, hs3, hk3⟩
    have HS3 := hidC hs3
    have HK3 := hidC (HK2.out.trans hk3)
    clear hs3 hk3
    go_wp2_with fail
    go_ret
    rw [HQ.out, HQ2.out]
    simp only
    rw [← List.append_assoc, addW_app]
    exact ⟨rfl, HS3.out, HK3.out⟩
  · have HQ2 : Hid (A.seq (ck K id r d k) = A) := by unfold Hid Ck.seq; rw [if_pos h0]
    have h0' : (A.e != 0) = true := by simpa using h0
    clear hA
    go_wp2_with fail
    go_ret
    rw [HQ.out, HQ2.out]
    exact ⟨rfl, HS2.out, HK2.out⟩

end Go.Proofs.Ytngjlkdpplmpaaa.Ca
namespace Go.Proofs.Ytngjlkdpplmpaaa.Ca
open Go.RowKit Wd Cn Vl
set_option linter.unusedVariables false

set_option maxHeartbeats 2000000 in
set_option maxRecDepth 100000 in
theorem or_any {w0 : World} {p f c : Nat} {K : KW} {id : ByteArray} (hE : Env w0 p f c K id) (a : Nat) (s : ByteArray) (hsz : s.size ≤ 2147483648) (l r : C) (t t2 : TypeId) (x x2 : Value) (hL : ThF 26 w0 a id p (.iface t x) (ck K id l) l.weight) (hR : ThF 26 w0 a id p (.iface t2 x2) (ck K id r) r.weight) :
    ThF 48 w0 a id p (.agg #[.string s, .iface t x, .iface t2 x2]) (ck K id (.or s l r)) (C.or s l r).weight := by
  intro w F W d k hs hd1 hd2 hv hk hlf hlw
  have HE := hidC hE
  have HL := hidC hL
  have HR := hidC hR
  have HB0 := hidC hs.2
  have HBA := hidC (below_alloc (Below.refl w.heap.size w) (.cells #[.string s, .iface t x, .iface t2 x2] 32))
  have HSV := hidC (hs.step HBA.out)
  have HX := hidC (heap_alloc_new w (.cells #[.string s, .iface t x, .iface t2 x2] 32))
  have HNA := hidC (HSV.out.at_cells HX.out (by decide))
  have HHK := hidC (And.intro hv hk)
  simp only [C.weight] at hlf hlw
  clear hs hv hk hE hL hR
  go_enter Try.func48, Try.ntmps48
  go_wp2_with fail
  generalize w.alloc (.cells #[.string s, .iface t x, .iface t2 x2] 32) = V at *
  have HFC : Hid (∀ w' : World, Below V.heap.size V w' → w'.cell? ⟨a, 0, none⟩ = some (.string id) ∧ w'.cell? ⟨a, 1, none⟩ = some (.pointer (some ⟨p, 0, none⟩)) ∧ w'.cell? ⟨w.heap.size, 0, none⟩ = some (.string s)) := fun w' hw' => by
    obtain ⟨⟨vF, vW, hin⟩, _⟩ := HSV.out
    exact ⟨cell_blk (hin.below hw').blk rfl, cell_blk (hin.below hw').blk rfl, cell_of_row _ _ 0 _ _ _ ((hw'.block _ (Array.getElem?_eq_some_iff.1 HX.out).1).trans HX.out)⟩
  have HD := hidC (below_drew (Below.refl V.heap.size V))
  refine Mx.wp_region_mix (fun w' => Below V.heap.size V w') [(0, false), (1, false), (2, false), (3, false), (4, false), (5, false), (6, false), (7, false), (8, false), (9, false), (10, true), (11, false), (12, false), (13, false), (14, false), (15, false), (16, false), (17, false)] (by kernel_rfl) (by kernel_rfl) HD.out ?_ (by kernel_rfl)
  simp only [List.map_cons, List.map_nil, List.getD_cons_zero, List.getD_cons_succ]
  generalize hops : (#[_, _, _, _, _, _, _, _, _, _, _, _, _, _, _, _, _, _] : Array Oper) = ops
  clear hops
  refine Mx.m_pure (.pointer (some ⟨a, 0, none⟩)) (Mx.wanted_none rfl) (fun w' hw' => ?_) ?_
  · go_simp
  simp only [Act.put, List.setIfInBounds_toArray, List.set_cons_zero, List.set_cons_succ]
  refine Mx.m_pure (.pointer (some ⟨a, 0, none⟩)) (Mx.wanted_none rfl) (fun w' hw' => ?_) ?_
  · go_simp
  simp only [Act.put, List.setIfInBounds_toArray, List.set_cons_zero, List.set_cons_succ]
  refine Mx.m_pure (.pointer (some ⟨a, 1, none⟩)) (Mx.wanted_none rfl) (fun w' hw' => ?_) ?_
  · go_simp
  simp only [Act.put, List.setIfInBounds_toArray, List.set_cons_zero, List.set_cons_succ]
  refine Mx.m_pure (.pointer (some ⟨p, 0, none⟩)) (Mx.wanted_none rfl) (fun w' hw' => ?_) ?_
  · obtain ⟨q0, q1, q2⟩ := HFC.out w' hw'
    go_simp
  simp only [Act.put, List.setIfInBounds_toArray, List.set_cons_zero, List.set_cons_succ]
  refine Mx.m_pure (.pointer (some ⟨a, 0, none⟩)) (Mx.wanted_none rfl) (fun w' hw' => ?_) ?_
  · go_simp
  simp only [Act.put, List.setIfInBounds_toArray, List.set_cons_zero, List.set_cons_succ]
  refine Mx.m_pure (.pointer (some ⟨a, 0, none⟩)) (Mx.wanted_none rfl) (fun w' hw' => ?_) ?_
  · go_simp
  simp only [Act.put, List.setIfInBounds_toArray, List.set_cons_zero, List.set_cons_succ]
  refine Mx.m_pure (.pointer (some ⟨a, 0, none⟩)) (Mx.wanted_none rfl) (fun w' hw' => ?_) ?_
  · go_simp
  simp only [Act.put, List.setIfInBounds_toArray, List.set_cons_zero, List.set_cons_succ]
  refine Mx.m_pure (.string id) (Mx.wanted_none rfl) (fun w' hw' => ?_) ?_
  · obtain ⟨q0, q1, q2⟩ := HFC.out w' hw'
    go_simp
  simp only [Act.put, List.setIfInBounds_toArray, List.set_cons_zero, List.set_cons_succ]
  refine Mx.m_pure (.pointer (some ⟨w.heap.size, 0, none⟩)) (Mx.wanted_none rfl) (fun w' hw' => ?_) ?_
  · go_simp
  simp only [Act.put, List.setIfInBounds_toArray, List.set_cons_zero, List.set_cons_succ]
  refine Mx.m_pure (.string s) (Mx.wanted_none rfl) (fun w' hw' => ?_) ?_
  · obtain ⟨q0, q1, q2⟩ := HFC.out w' hw'
    go_simp
  simp only [Act.put, List.setIfInBounds_toArray, List.set_cons_zero, List.set_cons_succ]
  refine Mx.m_call 77 #[.pointer (some ⟨p, 0, none⟩), .string id, .string s] (Mx.wanted_none rfl) ?_ ?_
  · go_simp
  refine (chosen_any _ p f c K (HE.out.kin.below (HSV.out.2.trans (HD.out.mono HSV.out.2.size))) id s ⟨Nat.le_trans HE.out.idl (by decide), Nat.le_trans hsz (by decide)⟩).mono ?_
  rintro e w1 ⟨rfl, hb⟩
  have HV1 := hidC (HD.out.trans (hb.mono HD.out.size))
  refine ⟨_, rfl, HV1.out, ?_⟩
  clear hb
  obtain ⟨o, ho⟩ : ∃ o, K.chosen (id, s) = o := ⟨_, rfl⟩
  rw [ho]
  have HO := hidC ho
  clear ho
  simp only [Act.put, List.setIfInBounds_toArray, List.set_cons_zero, List.set_cons_succ]
  refine Mx.m_pure (.tuple #[.int .i64 (o.getD (0, 0)).1, .int .i64 (o.getD (0, 0)).2, .bool o.isSome]) (Mx.wanted_none rfl) (fun w' hw' => ?_) ?_
  · go_simp
  simp only [Act.put, List.setIfInBounds_toArray, List.set_cons_zero, List.set_cons_succ]
  refine Mx.m_pure (.int .i64 (o.getD (0, 0)).1) (Mx.wanted_none rfl) (fun w' hw' => ?_) ?_
  · go_simp
  simp only [Act.put, List.setIfInBounds_toArray, List.set_cons_zero, List.set_cons_succ]
  refine Mx.m_pure (.int .i64 (o.getD (0, 0)).2) (Mx.wanted_none rfl) (fun w' hw' => ?_) ?_
  · go_simp
  simp only [Act.put, List.setIfInBounds_toArray, List.set_cons_zero, List.set_cons_succ]
  refine Mx.m_pure (.bool o.isSome) (Mx.wanted_none rfl) (fun w' hw' => ?_) ?_
  · go_simp
  simp only [Act.put, List.setIfInBounds_toArray, List.set_cons_zero, List.set_cons_succ]
  refine Mx.m_pure (.int .i64 (o.getD (0, 0)).1) (Mx.wanted_none rfl) (fun w' hw' => ?_) ?_
  · go_simp
  simp only [Act.put, List.setIfInBounds_toArray, List.set_cons_zero, List.set_cons_succ]
  refine Mx.m_pure (.int .i64 (o.getD (0, 0)).2) (Mx.wanted_none rfl) (fun w' hw' => ?_) ?_
  · go_simp
  simp only [Act.put, List.setIfInBounds_toArray, List.set_cons_zero, List.set_cons_succ]
  refine Mx.m_pure (.bool o.isSome) (Mx.wanted_none rfl) (fun w' hw' => ?_) ?_
  · go_simp
  simp only [Act.put, List.setIfInBounds_toArray, List.set_cons_zero, List.set_cons_succ]
  refine Mx.m_nil (fun _ => ?_)
  have HS1 := hidC (HSV.out.step HV1.out)
  have HX1 : Hid (w1.heap[w.heap.size]? = some (.cells #[.string s, .iface t x, .iface t2 x2] 32)) := (HV1.out.block _ (Array.getElem?_eq_some_iff.1 HX.out).1).trans HX.out
  have HK1 := hidC (Kept.of_below (a := a) (HBA.out.trans (HV1.out.mono HBA.out.size)))
  cases o with
  | none =>
    have HQ : Hid (ck K id (.or s l r) d k = ⟨[], [chW d s k], 0⟩) := by unfold Hid; simp only [ck]; rw [HO.out]
    simp only [Option.getD_none, Option.isSome_none]
    go_wp2_with fail
    have HXD : Hid (w1.drew.heap[w.heap.size]? = some (.cells #[.string s, .iface t x, .iface t2 x2] 32)) := HX1.out
    have HSD := hidC (HS1.out.step (below_drew (Below.refl w1.heap.size w1)))
    have HKD := hidC (HK1.out.trans (Kept.of_below (a := a) (below_drew (Below.refl w1.heap.size w1))))
    have HFC2 : Hid (∀ w' : World, w'.heap[w.heap.size]? = some (.cells #[.string s, .iface t x, .iface t2 x2] 32) → w'.cell? ⟨w.heap.size, 0, none⟩ = some (.string s)) := fun w' hw' => cell_of_row _ _ 0 _ _ _ hw'
    refine Mx.wp_region_mix (fun w' => w'.heap[w.heap.size]? = some (.cells #[.string s, .iface t x, .iface t2 x2] 32)) [(0, false), (1, false), (2, false), (3, false), (4, false), (5, true), (6, false), (7, true)] (by kernel_rfl) (by kernel_rfl) HXD.out ?_ (by kernel_rfl)
    simp only [List.map_cons, List.map_nil, List.getD_cons_zero, List.getD_cons_succ]
    generalize hops : (#[_, _, _, _, _, _, _, _] : Array Oper) = ops
    clear hops
    refine Mx.m_pure (.pointer (some ⟨a, 0, none⟩)) (Mx.wanted_none rfl) (fun w' hw' => ?_) ?_
    · go_simp
    simp only [Act.put, List.setIfInBounds_toArray, List.set_cons_zero, List.set_cons_succ]
    refine Mx.m_pure (.pointer (some ⟨w.heap.size, 0, none⟩)) (Mx.wanted_none rfl) (fun w' hw' => ?_) ?_
    · go_simp
    simp only [Act.put, List.setIfInBounds_toArray, List.set_cons_zero, List.set_cons_succ]
    refine Mx.m_pure (.string s) (Mx.wanted_none rfl) (fun w' hw' => ?_) ?_
    · have q0 := HFC2.out w' hw'
      go_simp
    simp only [Act.put, List.setIfInBounds_toArray, List.set_cons_zero, List.set_cons_succ]
    refine Mx.m_pure (.int .i64 d) (Mx.wanted_none rfl) (fun w' hw' => ?_) ?_
    · go_simp
    simp only [Act.put, List.setIfInBounds_toArray, List.set_cons_zero, List.set_cons_succ]
    refine Mx.m_pure (.int .i64 k) (Mx.wanted_none rfl) (fun w' hw' => ?_) ?_
    · go_simp
    simp only [Act.put, List.setIfInBounds_toArray, List.set_cons_zero, List.set_cons_succ]
    refine Mx.m_call 79 #[.int .i64 k] (Mx.wanted_none rfl) ?_ ?_
    · go_simp
    refine (holder_any k _).mono ?_
    rintro e w2 ⟨rfl, rfl⟩
    refine ⟨_, rfl, HXD.out, ?_⟩
    simp only [Act.put, List.setIfInBounds_toArray, List.set_cons_zero, List.set_cons_succ]
    refine Mx.m_pure (.agg #[.bool true, .string ByteArray.empty, .string s, .int .i64 d, .int .i64 (side k)]) (Mx.wanted_none rfl) (fun w' hw' => ?_) ?_
    · go_simp
      rfl
    simp only [Act.put, List.setIfInBounds_toArray, List.set_cons_zero, List.set_cons_succ]
    refine Mx.m_call 78 #[.pointer (some ⟨a, 0, none⟩), (chW d s k).val] (Mx.wanted_none rfl) ?_ ?_
    · unfold chW Wt.val
      go_simp
    refine (wait_any w0 _ a id p F W HSD.out (by omega) (chW d s k)).mono ?_
    rintro e w3 ⟨rfl, hs3, hk3⟩
    have HS3 := hidC hs3
    have HK3 := hidC (HKD.out.trans hk3)
    refine ⟨_, rfl, hk3.cells HXD.out HNA.out (by decide) (by decide), ?_⟩
    clear hs3 hk3
    simp only [Act.put, List.setIfInBounds_toArray, List.set_cons_zero, List.set_cons_succ]
    refine Mx.m_nil (fun _ => ?_)
    go_wp2_with fail
    go_ret
    rw [HQ.out, List.append_nil]
    exact ⟨rfl, HS3.out, HK3.out⟩
  | some q =>
    obtain ⟨q, d'⟩ := q
    obtain ⟨hq, g1, g2⟩ := chs_at HE.out.chs HO.out
    simp only at hq g1 g2
    have c1 : w1.cell? ⟨w.heap.size, 1, none⟩ = some (.iface t x) := cell_of_row _ _ 1 _ _ _ HX1.out
    have c2 : w1.cell? ⟨w.heap.size, 2, none⟩ = some (.iface t2 x2) := cell_of_row _ _ 2 _ _ _ HX1.out
    have HQ : Hid (ck K id (.or s l r) d k = if q = 0 then ck K id l (Max.max d d') k else ck K id r (Max.max d d') k) := by unfold Hid; simp only [ck]; rw [HO.out]
    simp only [Option.getD_some, Option.isSome_some]
    rcases hq with rfl | rfl
    · have HQ2 : Hid (ck K id (.or s l r) d k = ck K id l (Max.max d d') k) := by unfold Hid; rw [HQ.out]; rfl
      rcases Int.lt_or_le d d' with hm | hm
      · have HM : Hid (Max.max d d' = d') := by unfold Hid; omega
        rw [HM.out] at HQ2
        go_wp2_with fail
        refine (HL.out w1 F W d' k HS1.out g1 g2 HHK.out.1 HHK.out.2 (by omega) (by omega)).mono ?_
        rintro e w2 ⟨rfl, hs2, hk2⟩
        have HS2 := hidC hs2
        have HK2 := hidC (HK1.out.trans hk2)
        clear hs2 hk2
        go_wp2_with fail
        go_ret
        rw [HQ2.out]
        exact ⟨rfl, HS2.out, HK2.out⟩
      · have HM : Hid (Max.max d d' = d) := by unfold Hid; omega
        rw [HM.out] at HQ2
        go_wp2_with fail
        refine (HL.out w1 F W d k HS1.out hd1 hd2 HHK.out.1 HHK.out.2 (by omega) (by omega)).mono ?_
        rintro e w2 ⟨rfl, hs2, hk2⟩
        have HS2 := hidC hs2
        have HK2 := hidC (HK1.out.trans hk2)
        clear hs2 hk2
        go_wp2_with fail
        go_ret
        rw [HQ2.out]
        exact ⟨rfl, HS2.out, HK2.out⟩
    · have HQ2 : Hid (ck K id (.or s l r) d k = ck K id r (Max.max d d') k) := by unfold Hid; rw [HQ.out]; rfl
      rcases Int.lt_or_le d d' with hm | hm
      · have HM : Hid (Max.max d d' = d') := by unfold Hid; omega
        rw [HM.out] at HQ2
        go_wp2_with fail
        refine (HR.out w1 F W d' k HS1.out g1 g2 HHK.out.1 HHK.out.2 (by omega) (by omega)).mono ?_
        rintro e w2 ⟨rfl, hs2, hk2⟩
        have HS2 := hidC hs2
        have HK2 := hidC (HK1.out.trans hk2)
        clear hs2 hk2
        go_wp2_with fail
        go_ret
        rw [HQ2.out]
        exact ⟨rfl, HS2.out, HK2.out⟩
      · have HM : Hid (Max.max d d' = d) := by unfold Hid; omega
        rw [HM.out] at HQ2
        go_wp2_with fail
        refine (HR.out w1 F W d k HS1.out hd1 hd2 HHK.out.1 HHK.out.2 (by omega) (by omega)).mono ?_
        rintro e w2 ⟨rfl, hs2, hk2⟩
        have HS2 := hidC hs2
        have HK2 := hidC (HK1.out.trans hk2)
        clear hs2 hk2
        go_wp2_with fail
        go_ret
        rw [HQ2.out]
        exact ⟨rfl, HS2.out, HK2.out⟩

set_option maxHeartbeats 2000000 in
set_option maxRecDepth 100000 in
theorem scale_any {w0 : World} {p f c : Nat} {K : KW} {id : ByteArray} (hE : Env w0 p f c K id) (a : Nat) (o : O) (hok : o.Ok) (hc : chk o = 0) (cc : C) (t : TypeId) (x : Value) (hL : ThF 26 w0 a id p (.iface t x) (ck K id cc) cc.weight) :
    ThF 49 w0 a id p (.agg #[o.val, .iface t x]) (ck K id (.scale o cc)) (C.scale o cc).weight := by
  intro w F W d k hs hd1 hd2 hv hk hlf hlw
  obtain ⟨tn, xn, ho⟩ := Vl.form_iface o (chk_sz hc).1
  have HL := hidC hL
  have HN := hidC (fun (w : World) (h : StA w0 w a id p F W) => number_any hE w a F W h (by omega) o hok hc d ⟨by omega, by omega⟩)
  rw [ho] at HN
  have HG := hidC (rk_good hE.vals d o (chk_sz hc).1)
  rw [ho]
  clear ho
  have HBA := hidC (below_alloc (Below.refl w.heap.size w) (.cells #[.iface tn xn, .iface t x] 30))
  have HSV := hidC (hs.step HBA.out)
  have HX := hidC (heap_alloc_new w (.cells #[.iface tn xn, .iface t x] 30))
  have HNA := hidC (HSV.out.at_cells HX.out (by decide))
  have HKV := hidC (Kept.of_below (a := a) HBA.out)
  have HHK := hidC (And.intro hv hk)
  have HLN := hidC (Nat.le_trans (lackN_len K d o) (chk_sz hc).2)
  have HQ : Hid (ck K id (.scale o cc) d k = if (rk K d o).e ≠ 0 then ⟨[], [], (rk K d o).e⟩ else if (rk K d o).known = true then (if (mulR k (rk K d o).n).2 = true then (if (mulR k (rk K d o).n).1 = 0 then ⟨[], [], 0⟩ else ck K id cc d (mulR k (rk K d o).n).1) else ⟨[], [], 6⟩) else ⟨[], waitN K d o, 0⟩) := rfl
  have HM := hidC (fun (n : Int) (w : World) => mul_any k n w)
  simp only [C.weight] at hlf hlw
  clear hs hv hk hE hL hok hc
  go_enter Try.func49, Try.ntmps49
  go_wp2_with fail
  refine (HN.out _ HSV.out).mono ?_
  rintro e w1 ⟨rfl, hs1, hk1⟩
  have HX1 := hidC (hk1.cells HX.out HNA.out (by decide) (by decide))
  have HS1 := hidC hs1
  have HK1 := hidC (HKV.out.trans hk1)
  clear hs1 hk1
  have c1 : w1.cell? ⟨w.heap.size, 1, none⟩ = some (.iface t x) := cell_of_row _ _ 1 _ _ _ HX1.out
  unfold numW at HS1
  generalize rk K d o = y at *
  obtain ⟨n, known, e⟩ := y
  simp only at HQ HS1
  unfold ofE
  simp only
  by_cases he : e = 0
  · subst he
    rw [if_neg (by simp)] at HQ HS1
    cases known
    · rw [if_neg (by simp)] at HQ HS1
      go_wp2_with fail
      go_ret
      rw [HQ.out, List.append_nil]
      exact ⟨rfl, HS1.out, HK1.out⟩
    · rw [if_pos rfl] at HQ HS1
      have HM1 := hidC (HM.out n w1)
      have HVM0 : Hid ((mulR k n).2 = true → vB (mulR k n).1 = true) := mulR_in k n
      generalize mulR k n = m at *
      obtain ⟨m, ok⟩ := m
      simp only at HQ HM1 HVM0
      cases ok
      · rw [if_neg (by simp)] at HQ
        go_wp2_with fail
        refine calls_same HM1.out ?_
        go_wp2_with fail
        go_ret
        rw [HQ.out, List.append_nil]
        exact ⟨rfl, HS1.out, HK1.out⟩
      · rw [if_pos rfl] at HQ
        by_cases hm : m = 0
        · subst hm
          rw [if_pos rfl] at HQ
          go_wp2_with fail
          refine calls_same HM1.out ?_
          go_wp2_with fail
          go_ret
          rw [HQ.out, List.append_nil]
          exact ⟨rfl, HS1.out, HK1.out⟩
        · rw [if_neg hm] at HQ
          have hm' : (m == 0) = false := by simpa using hm
          go_wp2_with fail
          refine calls_same HM1.out ?_
          go_wp2_with fail
          refine (HL.out w1 F W d m HS1.out hd1 hd2 (HVM0.out trivial) hm (by omega) (by omega)).mono ?_
          rintro e w2 ⟨rfl, hs2, hk2⟩
          have HS2 := hidC hs2
          have HK2 := hidC (HK1.out.trans hk2)
          clear hs2 hk2
          go_wp2_with fail
          go_ret
          rw [HQ.out]
          exact ⟨rfl, HS2.out, HK2.out⟩
  · rw [if_pos he] at HQ HS1
    have hkn := (HG.out.err he).2
    simp only at hkn
    subst hkn
    go_wp2_with fail
    go_ret
    rw [HQ.out, List.append_nil]
    exact ⟨rfl, HS1.out, HK1.out⟩

set_option maxHeartbeats 2000000 in
set_option maxRecDepth 100000 in
theorem if_any {w0 : World} {p f c : Nat} {K : KW} {id : ByteArray} (hE : Env w0 p f c K id) (a : Nat) (o : O) (hok : o.Ok) (hc : chk o = 0) (l r : C) (t t2 : TypeId) (x x2 : Value) (hL : ThF 26 w0 a id p (.iface t x) (ck K id l) l.weight) (hR : ThF 26 w0 a id p (.iface t2 x2) (ck K id r) r.weight) :
    ThF 50 w0 a id p (.agg #[o.val, .iface t x, .iface t2 x2]) (ck K id (.iff o l r)) (C.iff o l r).weight := by
  intro w F W d k hs hd1 hd2 hv hk hlf hlw
  obtain ⟨tn, xn, ho⟩ := Vl.form_iface o (chk_sz hc).1
  have HL := hidC hL
  have HR := hidC hR
  have HN := hidC (fun (w : World) (h : StA w0 w a id p F W) => number_any hE w a F W h (by omega) o hok hc d ⟨by omega, by omega⟩)
  rw [ho] at HN
  have HG := hidC (rk_good hE.vals d o (chk_sz hc).1)
  rw [ho]
  clear ho
  have HBA := hidC (below_alloc (Below.refl w.heap.size w) (.cells #[.iface tn xn, .iface t x, .iface t2 x2] 54))
  have HSV := hidC (hs.step HBA.out)
  have HX := hidC (heap_alloc_new w (.cells #[.iface tn xn, .iface t x, .iface t2 x2] 54))
  have HNA := hidC (HSV.out.at_cells HX.out (by decide))
  have HKV := hidC (Kept.of_below (a := a) HBA.out)
  have HHK := hidC (And.intro hv hk)
  have HQ : Hid (ck K id (.iff o l r) d k = if (rk K d o).e ≠ 0 then ⟨[], [], (rk K d o).e⟩ else if (rk K d o).known = true then (if 0 < (rk K d o).n then ck K id l d k else ck K id r d k) else ⟨[], waitN K d o, 0⟩) := rfl
  simp only [C.weight] at hlf hlw
  clear hs hv hk hE hL hR hok hc
  go_enter Try.func50, Try.ntmps50
  go_wp2_with fail
  refine (HN.out _ HSV.out).mono ?_
  rintro e w1 ⟨rfl, hs1, hk1⟩
  have HX1 := hidC (hk1.cells HX.out HNA.out (by decide) (by decide))
  have HS1 := hidC hs1
  have HK1 := hidC (HKV.out.trans hk1)
  clear hs1 hk1
  have c1 : w1.cell? ⟨w.heap.size, 1, none⟩ = some (.iface t x) := cell_of_row _ _ 1 _ _ _ HX1.out
  have c2 : w1.cell? ⟨w.heap.size, 2, none⟩ = some (.iface t2 x2) := cell_of_row _ _ 2 _ _ _ HX1.out
  unfold numW at HS1
  generalize rk K d o = y at *
  obtain ⟨n, known, e⟩ := y
  simp only at HQ HS1
  unfold ofE
  simp only
  by_cases he : e = 0
  · subst he
    rw [if_neg (by simp)] at HQ HS1
    cases known
    · rw [if_neg (by simp)] at HQ HS1
      go_wp2_with fail
      go_ret
      rw [HQ.out, List.append_nil]
      exact ⟨rfl, HS1.out, HK1.out⟩
    · rw [if_pos rfl] at HQ HS1
      by_cases hn : 0 < n
      · rw [if_pos hn] at HQ
        go_wp2_with fail
        refine (HL.out w1 F W d k HS1.out hd1 hd2 HHK.out.1 HHK.out.2 (by omega) (by omega)).mono ?_
        rintro e w2 ⟨rfl, hs2, hk2⟩
        have HS2 := hidC hs2
        have HK2 := hidC (HK1.out.trans hk2)
        clear hs2 hk2
        go_wp2_with fail
        go_ret
        rw [HQ.out]
        exact ⟨rfl, HS2.out, HK2.out⟩
      · rw [if_neg hn] at HQ
        go_wp2_with fail
        refine (HR.out w1 F W d k HS1.out hd1 hd2 HHK.out.1 HHK.out.2 (by omega) (by omega)).mono ?_
        rintro e w2 ⟨rfl, hs2, hk2⟩
        have HS2 := hidC hs2
        have HK2 := hidC (HK1.out.trans hk2)
        clear hs2 hk2
        go_wp2_with fail
        go_ret
        rw [HQ.out]
        exact ⟨rfl, HS2.out, HK2.out⟩
  · rw [if_pos he] at HQ HS1
    have hkn := (HG.out.err he).2
    simp only at hkn
    subst hkn
    go_wp2_with fail
    go_ret
    rw [HQ.out, List.append_nil]
    exact ⟨rfl, HS1.out, HK1.out⟩

end Go.Proofs.Ytngjlkdpplmpaaa.Ca
namespace Go.Proofs.Ytngjlkdpplmpaaa.Ca
open Go.RowKit Wd Cn Vl
set_option linter.unusedVariables false

set_option maxHeartbeats 2000000 in
set_option maxRecDepth 100000 in
theorem th_or {w0 : World} {p f c : Nat} {K : KW} {id : ByteArray} (hE : Env w0 p f c K id) (a : Nat) (s : ByteArray) (hsz : s.size ≤ 2147483648) (l r : C) (hfl : formC l = true) (hfr : formC r = true) (ihl : ThC w0 a id p K l) (ihr : ThC w0 a id p K r) : ThC w0 a id p K (.or s l r) := by
  intro w F W d k hs hd1 hd2 hv hk hlf hlw
  have HS := hidC hs
  have h0 := fun v xT w => notZero 32 v xT w (by decide)
  have h1 := fun v xT w => notOne 32 v xT w (by decide)
  have h2 := fun v xT w => notGive 32 v xT w (by decide)
  have h3 := fun v xT w => notAnd 32 v xT w (by decide)
  have h4 := fun v xT w => isOr v xT w
  obtain ⟨t, x, he⟩ := form_val l hfl
  obtain ⟨t2, x2, he2⟩ := form_val r hfr
  unfold ThC at ihl ihr
  rw [he] at ihl
  rw [he2] at ihr
  have HC := hidC (or_any hE a s hsz l r t t2 x x2 ihl ihr)
  clear ihl ihr hfl hfr
  have HHK := hidC (And.intro hv hk)
  clear hs hv hk hE
  unfold C.val
  rw [he, he2]
  go_enter Try.func26, Try.ntmps26
  go_wp2_with fail
  refine (HC.out _ F W d k (HS.out.step (below_alloc (Below.refl _ _) _)) hd1 hd2 HHK.out.1 HHK.out.2 hlf hlw).mono ?_
  rintro e w2 ⟨rfl, hs2, hk2⟩
  have HS2 := hidC hs2
  have HK2 := hidC hk2
  clear hs2 hk2
  go_wp2_with fail
  go_ret
  exact ⟨rfl, HS2.out, (Kept.of_below (below_alloc (Below.refl _ _) _)).trans HK2.out⟩

set_option maxHeartbeats 2000000 in
set_option maxRecDepth 100000 in
theorem th_scale {w0 : World} {p f c : Nat} {K : KW} {id : ByteArray} (hE : Env w0 p f c K id) (a : Nat) (o : O) (hok : o.Ok) (hc : chk o = 0) (cc : C) (hf : formC cc = true) (ih : ThC w0 a id p K cc) : ThC w0 a id p K (.scale o cc) := by
  intro w F W d k hs hd1 hd2 hv hk hlf hlw
  have HS := hidC hs
  have h0 := fun v xT w => notZero 30 v xT w (by decide)
  have h1 := fun v xT w => notOne 30 v xT w (by decide)
  have h2 := fun v xT w => notGive 30 v xT w (by decide)
  have h3 := fun v xT w => notAnd 30 v xT w (by decide)
  have h4 := fun v xT w => notOr 30 v xT w (by decide)
  have h5 := fun v xT w => isScale v xT w
  obtain ⟨t, x, he⟩ := form_val cc hf
  obtain ⟨tn, xn, ho⟩ := Vl.form_iface o (chk_sz hc).1
  unfold ThC at ih
  rw [he] at ih
  have HC := hidC (scale_any hE a o hok hc cc t x ih)
  rw [ho] at HC
  clear ih hf hok hc
  have HHK := hidC (And.intro hv hk)
  clear hs hv hk hE
  unfold C.val
  rw [ho, he]
  go_enter Try.func26, Try.ntmps26
  go_wp2_with fail
  refine (HC.out _ F W d k (HS.out.step (below_alloc (Below.refl _ _) _)) hd1 hd2 HHK.out.1 HHK.out.2 hlf hlw).mono ?_
  rintro e w2 ⟨rfl, hs2, hk2⟩
  have HS2 := hidC hs2
  have HK2 := hidC hk2
  clear hs2 hk2
  go_wp2_with fail
  go_ret
  exact ⟨rfl, HS2.out, (Kept.of_below (below_alloc (Below.refl _ _) _)).trans HK2.out⟩

set_option maxHeartbeats 2000000 in
set_option maxRecDepth 100000 in
theorem th_if {w0 : World} {p f c : Nat} {K : KW} {id : ByteArray} (hE : Env w0 p f c K id) (a : Nat) (o : O) (hok : o.Ok) (hc : chk o = 0) (l r : C) (hfl : formC l = true) (hfr : formC r = true) (ihl : ThC w0 a id p K l) (ihr : ThC w0 a id p K r) : ThC w0 a id p K (.iff o l r) := by
  intro w F W d k hs hd1 hd2 hv hk hlf hlw
  have HS := hidC hs
  have h0 := fun v xT w => notZero 54 v xT w (by decide)
  have h1 := fun v xT w => notOne 54 v xT w (by decide)
  have h2 := fun v xT w => notGive 54 v xT w (by decide)
  have h3 := fun v xT w => notAnd 54 v xT w (by decide)
  have h4 := fun v xT w => notOr 54 v xT w (by decide)
  have h5 := fun v xT w => notScale 54 v xT w (by decide)
  have h6 := fun v xT w => notWhen 54 v xT w (by decide)
  have h7 := fun v xT w => isIf1 v xT w
  obtain ⟨t, x, he⟩ := form_val l hfl
  obtain ⟨t2, x2, he2⟩ := form_val r hfr
  unfold ThC at ihl ihr
  rw [he] at ihl
  rw [he2] at ihr
  obtain ⟨tn, xn, ho⟩ := Vl.form_iface o (chk_sz hc).1
  have HC := hidC (if_any hE a o hok hc l r t t2 x x2 ihl ihr)
  rw [ho] at HC
  clear ihl ihr hfl hfr hok hc
  have HHK := hidC (And.intro hv hk)
  clear hs hv hk hE
  unfold C.val
  rw [ho, he, he2]
  go_enter Try.func26, Try.ntmps26
  go_wp2_with fail
  refine (HC.out _ F W d k HS.out hd1 hd2 HHK.out.1 HHK.out.2 hlf hlw).mono ?_
  rintro e w2 ⟨rfl, hs2, hk2⟩
  have HS2 := hidC hs2
  have HK2 := hidC hk2
  clear hs2 hk2
  go_wp2_with fail
  go_ret
  exact ⟨rfl, HS2.out, HK2.out⟩

theorem chk_of {o : O} (h : formB o = true) (hn : o.nodes ≤ 60) (hd : o.depth ≤ 12) : chk o = 0 := by
  unfold chk
  rw [if_pos h, if_neg (by omega)]
theorem through_any {w0 : World} {p f q : Nat} {K : KW} {id : ByteArray} (hE : Env w0 p f q K id) (a : Nat) (c : C) : formC c = true → c.Ok → c.nodes ≤ 60 → c.depth ≤ 12 → ThC w0 a id p K c := by
  induction c with
  | zero => intro _ _ _ _; exact th_zero w0 a id p K
  | one s => intro _ _ _ _; exact th_one w0 a id p K s
  | odd v => intro h; simp [formC] at h
  | give c ih => intro hf hok hn hd; simp only [C.nodes, C.depth] at hn hd; exact th_give w0 a id p K c hf (ih hf hok (by omega) (by omega))
  | when d' c ih =>
    intro hf hok hn hd
    simp only [C.nodes, C.depth] at hn hd
    have h2 := hf
    simp only [formC, Bool.and_eq_true] at h2
    exact th_when w0 a id p K d' c hf (ih h2.2 hok.2 (by omega) (by omega))
  | and l r hl hr =>
    intro hf hok hn hd
    simp only [C.nodes, C.depth] at hn hd
    simp only [formC, Bool.and_eq_true] at hf
    exact th_and w0 a id p K l r hf.1 hf.2 (hl hf.1 hok.1 (by omega) (by omega)) (hr hf.2 hok.2 (by omega) (by omega))
  | or s l r hl hr =>
    intro hf hok hn hd
    simp only [C.nodes, C.depth] at hn hd
    simp only [formC, Bool.and_eq_true] at hf
    exact th_or hE a s hok.1 l r hf.1.2 hf.2 (hl hf.1.2 hok.2.1 (by omega) (by omega)) (hr hf.2 hok.2.2 (by omega) (by omega))
  | scale o c ih =>
    intro hf hok hn hd
    simp only [C.nodes, C.depth] at hn hd
    simp only [formC, Bool.and_eq_true] at hf
    exact th_scale hE a o hok.1 (chk_of hf.1 (by omega) (by omega)) c hf.2 (ih hf.2 hok.2 (by omega) (by omega))
  | iff o l r hl hr =>
    intro hf hok hn hd
    simp only [C.nodes, C.depth] at hn hd
    simp only [formC, Bool.and_eq_true] at hf
    exact th_if hE a o hok.1 (chk_of hf.1.1 (by omega) (by omega)) l r hf.1.2 hf.2 (hl hf.1.2 hok.2.1 (by omega) (by omega)) (hr hf.2 hok.2.2 (by omega) (by omega))
theorem form_weight (c : C) (h : formC c = true) : c.weight = c.nodes := by
  induction c with
  | zero => rfl
  | one s => rfl
  | odd v => simp [formC] at h
  | give c ih => simp only [C.weight, C.nodes]; rw [ih h]
  | when d c ih => simp only [formC, Bool.and_eq_true] at h; simp only [C.weight, C.nodes]; rw [ih h.2]
  | and l r hl hr => simp only [formC, Bool.and_eq_true] at h; simp only [C.weight, C.nodes]; rw [hl h.1, hr h.2]
  | or s l r hl hr => simp only [formC, Bool.and_eq_true] at h; simp only [C.weight, C.nodes]; rw [hl h.1.2, hr h.2]
  | scale o c ih => simp only [formC, Bool.and_eq_true] at h; simp only [C.weight, C.nodes]; rw [ih h.2]
  | iff o l r hl hr => simp only [formC, Bool.and_eq_true] at h; simp only [C.weight, C.nodes]; rw [hl h.1.2, hr h.2]
/-- What a right contract is. -/
theorem chkC_ok {c : C} (h : chkC c = 0) : formC c = true ∧ c.nodes ≤ 60 ∧ c.depth ≤ 12 ∧ twice c.labels = false := by
  unfold chkC at h
  split at h
  · rename_i h1
    split at h
    · cases h
    · rename_i h2
      split at h
      · cases h
      · rename_i h3
        exact ⟨h1, by omega, by omega, by simpa using h3⟩
  · cases h
theorem Env.below {w0 w : World} {p f c : Nat} {K : KW} {id : ByteArray} (h : Env w0 p f c K id) (hb : Below w0.heap.size w0 w) : Env w p f c K id := ⟨h.kin.below hb, h.vals, h.chs, h.idl⟩

/-- What cash.Of answers. -/
def ofK (K : KW) (id : ByteArray) (c : C) (d : Int) : Ck := if chkC c = 0 ∧ 0 ≤ d ∧ d ≤ 10000 then (if (ck K id c d 1).e = 0 then ⟨(ck K id c d 1).f, addW [] (ck K id c d 1).w, 0⟩ else ⟨[], [], (ck K id c d 1).e⟩) else ⟨[], [], 1⟩
def OfPost (w : World) (r : Ck) (e : Ending) (w' : World) : Prop := ∃ vF vW, e = .returned (.tuple #[vF, vW, .int .i64 r.e]) ∧ w'.ownsRow w.heap.size 46 3 vF r.f.length (rowFl r.f) ∧ w'.ownsRow w.heap.size 43 5 vW r.w.length (rowWt r.w) ∧ Below w.heap.size w w'
theorem OfPost.none (w w' : World) (e : Int) (h : Below w.heap.size w w') : OfPost w ⟨[], [], e⟩ (.returned (.tuple #[.slice none 0 0, .slice none 0 0, .int .i64 e])) w' := ⟨_, _, rfl, World.ownsRow_nil _ _ _ _, World.ownsRow_nil _ _ _ _, h⟩

set_option maxHeartbeats 2000000 in
set_option maxRecDepth 100000 in
theorem cash_any (c : C) (hok : c.Ok) (hsz : c.weight ≤ 1000000) (w : World) (p f q : Nat) (K : KW) (id : ByteArray) (hE : Env w p f q K id) (d : Int) (hd : dayOk d) :
    Calls Try.prog 11 #[.string id, c.val, .int .i64 d, .pointer (some ⟨p, 0, none⟩)] w (OfPost w (ofK K id c d)) := by
  have HCH := hidC (checkT_any c hok hsz w)
  have HE := hidC hE
  have HOK := hidC hok
  have hd' := hd
  unfold dayOk at hd'
  clear hE hok hd
  by_cases hc : chkC c = 0
  rotate_left
  · have HQ : Hid (ofK K id c d = ⟨[], [], 1⟩) := by unfold Hid ofK; rw [if_neg (fun h => hc h.1)]
    have hc' : (chkC c != 0) = true := by simpa using hc
    go_enter Try.func11, Try.ntmps11
    go_wp2_with fail
    refine HCH.out.mono ?_
    rintro e w1 ⟨rfl, hb1⟩
    go_wp2_with fail
    go_ret3
    rw [HQ.out]
    exact OfPost.none _ _ _ hb1
  · rw [hc] at HCH
    by_cases hr : 0 ≤ d ∧ d ≤ 10000
    rotate_left
    · have HQ : Hid (ofK K id c d = ⟨[], [], 1⟩) := by unfold Hid ofK; rw [if_neg (fun h => hr h.2)]
      rcases (by omega : d < 0 ∨ (0 ≤ d ∧ 10000 < d)) with h1 | ⟨h1, h2⟩
      all_goals
        clear hr
        go_enter Try.func11, Try.ntmps11
        go_wp2_with fail
        refine HCH.out.mono ?_
        rintro e w1 ⟨rfl, hb1⟩
        go_wp2_with fail
        go_ret3
        rw [HQ.out]
        exact OfPost.none _ _ _ hb1
    · obtain ⟨h1, h2⟩ := hr
      have HQ : Hid (ofK K id c d = if (ck K id c d 1).e = 0 then ⟨(ck K id c d 1).f, addW [] (ck K id c d 1).w, 0⟩ else ⟨[], [], (ck K id c d 1).e⟩) := by unfold Hid ofK; rw [if_pos ⟨hc, h1, h2⟩]
      obtain ⟨k1, k2, k3, k4⟩ := chkC_ok hc
      have hw60 : c.weight ≤ 60 := by rw [form_weight c k1]; exact k2
      have HTH := hidC (fun (w0 : World) (a : Nat) (hE : Env w0 p f q K id) => through_any hE a c k1 HOK.out k2 k3)
      clear k1 k2 k3 k4 hc
      go_enter Try.func11, Try.ntmps11
      go_wp2_with fail
      refine HCH.out.mono ?_
      rintro e w1 ⟨rfl, hb1⟩
      have HB1 := hidC hb1
      clear hb1
      go_wp2_with fail
      have HS0 : Hid (StA w1 (w1.alloc (.cells (mkA id p (.slice none 0 0) (.slice none 0 0)) 91)) w1.heap.size id p [] []) :=
        ⟨⟨_, _, ⟨heap_alloc_new _ _, World.ownsRow_nil _ _ _ _, World.ownsRow_nil _ _ _ _, Nat.le_refl _⟩⟩, below_alloc (Below.refl _ _) _⟩
      unfold mkA at HS0
      refine (HTH.out w1 w1.heap.size (HE.out.below HB1.out) _ [] [] d 1 HS0.out h1 h2 (by rfl) (by omega) (by simp; omega) (by simp; omega)).mono ?_
      rintro e w2 ⟨rfl, hs2, hk2⟩
      rw [List.nil_append] at hs2
      obtain ⟨⟨vF, vW, hin⟩, hb2⟩ := hs2
      have HIN := hidC hin
      have HB2 := hidC (HB1.out.trans (hb2.mono HB1.out.size))
      have c2 := hin.cell2 (twoA id p)
      have c3 := hin.cell3 (twoA id p)
      have HBB := hidC HB1.out.size
      clear hin hb2 hk2
      generalize ck K id c d 1 = x at *
      obtain ⟨xf, xw, xe⟩ := x
      simp only at HQ HIN c2 c3 ⊢
      by_cases he : xe = 0
      · subst he
        rw [if_pos rfl] at HQ
        obtain ⟨ao, cap, rfl⟩ := row_shape HIN.out.rf
        obtain ⟨ao2, cap2, rfl⟩ := row_shape HIN.out.rw'
        go_wp2_with fail
        go_region
        go_wp2_with fail
        go_ret3
        rw [HQ.out]
        exact ⟨_, _, rfl, ownsRow_base HIN.out.rf HBB.out, ownsRow_base HIN.out.rw' HBB.out, HB2.out.drew⟩
      · rw [if_neg he] at HQ
        have he' : (xe != 0) = true := by simpa using he
        go_wp2_with fail
        go_ret3
        rw [HQ.out]
        exact OfPost.none _ _ _ HB2.out

end Go.Proofs.Ytngjlkdpplmpaaa.Ca
namespace Go.Proofs.Ytngjlkdpplmpaaa.Ca
open Go.RowKit Wd Cn Vl
set_option linter.unusedVariables false

/-- Payments in memory. -/
def HasFls (w : World) (ao : Option Addr) (l : List Fl) : Prop := ∀ i x, l[i]? = some x → ∃ g, ao = some ⟨g, 0, none⟩ ∧ g < w.heap.size ∧ w.cell? ⟨g, i * 3, none⟩ = some (.int .i64 x.day) ∧ w.cell? ⟨g, i * 3 + 1, none⟩ = some (.string x.cur) ∧ w.cell? ⟨g, i * 3 + 2, none⟩ = some (.int .i64 x.amt)
theorem HasFls.below {w w' : World} {ao : Option Addr} {l : List Fl} (h : HasFls w ao l) (hb : Below w.heap.size w w') : HasFls w' ao l := by
  intro i x hx
  obtain ⟨g, e, hg, h0, h1, h2⟩ := h i x hx
  have hc := fun o => hb.cell (p := ⟨g, o, none⟩) hg
  exact ⟨g, e, Nat.lt_of_lt_of_le hg hb.size, (hc _).trans h0, (hc _).trans h1, (hc _).trans h2⟩
theorem own_fls {w : World} {B : Nat} {v : Value} {l : List Fl} (h : w.ownsRow B 46 3 v l.length (rowFl l)) : ∃ ao cap, v = .slice ao l.length cap ∧ HasFls w ao l := by
  obtain ⟨ao, cap, rfl⟩ := row_shape h
  refine ⟨ao, cap, rfl, fun i x hx => ?_⟩
  have hi := (List.getElem?_eq_some_iff.1 hx).1
  obtain ⟨g, cap', e, hg, hc⟩ := row_cells h (by omega)
  injection e with e1 _ _
  obtain ⟨h0, h1, h2⟩ := rowFl_at l i x hx
  exact ⟨g, e1, hg, hc _ _ h0, hc _ _ h1, hc _ _ h2⟩
/-- What cash.Of answers, in memory. -/
def OfIn (w : World) (r : Ck) (e : Ending) (w' : World) : Prop := ∃ ao cap bo cap2, e = .returned (.tuple #[.slice ao r.f.length cap, .slice bo r.w.length cap2, .int .i64 r.e]) ∧ HasFls w' ao r.f ∧ HasWts w' bo r.w ∧ Below w.heap.size w w'
theorem cash_at (c : C) (hok : c.Ok) (hsz : c.weight ≤ 1000000) (w : World) (p f q : Nat) (K : KW) (id : ByteArray) (hE : Env w p f q K id) (d : Int) (hd : dayOk d) (r : Ck) (hr : ofK K id c d = r) :
    Calls Try.prog 11 #[.string id, c.val, .int .i64 d, .pointer (some ⟨p, 0, none⟩)] w (OfIn w r) := by
  refine (cash_any c hok hsz w p f q K id hE d hd).mono ?_
  rintro e w' ⟨vF, vW, rfl, h1, h2, hb⟩
  rw [hr] at h1 h2
  obtain ⟨ao, cap, rfl, h3⟩ := own_fls h1
  obtain ⟨bo, cap2, rfl, h4⟩ := own_wts h2
  exact ⟨ao, cap, bo, cap2, by rw [hr], h3, h4, hb⟩
theorem no_vals : KW.Vals ⟨[], []⟩ := fun q hq => by cases hq
theorem no_chs : KW.Chs ⟨[], []⟩ := fun q hq => by cases hq
theorem env_new {w : World} {p f q : Nat} (h : KIn w p f q ⟨[], []⟩) (id : ByteArray) (hid : id.size ≤ 1000000) : Env w p f q ⟨[], []⟩ id := ⟨h, no_vals, no_chs, hid⟩
def usd : ByteArray := ⟨#[117, 115, 100]⟩
theorem ofK_one : ofK ⟨[], []⟩ ⟨#[116]⟩ (.one usd) 3 = ⟨[⟨3, usd, 1⟩], [], 0⟩ := by
  unfold ofK
  rw [if_pos ⟨by rfl, by omega, by omega⟩]
  rfl

set_option maxHeartbeats 1000000 in
theorem wakes10_any (w : World) :
    Calls Try.prog 13 #[] w fun e w' => e = .returned (.bool true) ∧ Below w.heap.size w w' := by
  have HV : Hid ((C.one usd).val = .iface 24 (.agg #[.string ⟨#[117, 115, 100]⟩])) := rfl
  go_enter Try.func13, Try.ntmps13
  go_wp2_with fail
  refine (new_in' w).mono ?_
  rintro e w1 ⟨b, f, c, rfl, hi⟩
  have HI : Hid (In w w1 b f c ⟨[], []⟩) := hi
  clear hi
  go_wp2_with fail
  refine (cash_at (.one usd) (by show usd.size ≤ 2147483648; decide) (by decide) w1 b f c ⟨[], []⟩ ⟨#[116]⟩ (env_new HI.out.kin _ (by decide)) 3 ⟨by omega, by omega⟩ _ ofK_one).mono ?_
  rintro e w2 ⟨ao, cap, bo, cap2, rfl, h1, h2, hb⟩
  obtain ⟨g, rfl, hg, c0, c1, c2⟩ := h1 0 ⟨3, usd, 1⟩ rfl
  have HB := hidC (HI.out.below.trans (hb.mono HI.out.below.size))
  unfold usd at c1
  clear h1 h2 hb
  simp only [List.length_cons, List.length_nil]
  go_wp2_with fail
  go_ret
  exact ⟨rfl, HB.out⟩

def tN : ByteArray := ⟨#[116]⟩
theorem chkC_by {c : C} (h1 : formC c = true) (h2 : c.nodes ≤ 60) (h3 : c.depth ≤ 12) (h4 : twice c.labels = false) : chkC c = 0 := by
  unfold chkC
  rw [if_pos h1, if_neg (by omega), if_neg (by rw [h4]; simp)]
theorem mulR_ok {a b : Int} (h1 : vB a = true) (h2 : vB b = true) (h3 : vB (a * b) = true) : mulR a b = (a * b, true) := by
  unfold mulR
  rw [h1, h2, h3]
  rfl
theorem mulR_no {a b : Int} (h3 : vB (a * b) = false) : mulR a b = (0, false) := by
  unfold mulR
  rw [h3, Bool.and_false]
  rfl

end Go.Proofs.Ytngjlkdpplmpaaa.Ca
namespace Go.Proofs.Ytngjlkdpplmpaaa.Ca
open Go.RowKit Wd Cn Vl
set_option linter.unusedVariables false

def cT : ByteArray := ⟨#[116]⟩
def cU : ByteArray := ⟨#[117]⟩
def cA : ByteArray := ⟨#[97]⟩
def eur : ByteArray := ⟨#[101, 117, 114]⟩
def chC : C := .or cA (.one usd) (.scale (.const 3) (.one eur))
def ch1 (q e : Int) : KW := ⟨[], [((cU, cA), (q, e))]⟩
def ch2 (q e : Int) : KW := ⟨[], [((cU, cA), (q, e)), ((cT, cA), (q, e))]⟩
theorem cu_ne : ¬ (cU = cT) := by decide
theorem ch1_none (q e : Int) : (ch1 q e).chosen (cT, cA) = none := by simp [KW.chosen, ch1, cu_ne]
theorem ch2_some (q e : Int) : (ch2 q e).chosen (cT, cA) = some (q, e) := by simp [KW.chosen, ch2, cu_ne]
theorem ch0_none : (⟨[], []⟩ : KW).chosen (cT, cA) = none := rfl
theorem ch_form : formC chC = true := by rfl
theorem pick_ok {q : Int} (h : q = 0 ∨ q = 1) : pickB q = true := by rcases h with rfl | rfl <;> rfl
theorem step1 (q e : Int) (hq : q = 0 ∨ q = 1) (he1 : 0 ≤ e) (he2 : e ≤ 10000) : chE ⟨[], []⟩ cU cA q e = 0 ∧ chN ⟨[], []⟩ cU cA q e = ch1 q e := by
  have h : chE ⟨[], []⟩ cU cA q e = 0 := by
    unfold chE
    rw [show nameGo 0 (runesOf cU) = true by rfl, show nameGo 0 (runesOf cA) = true by rfl, pick_ok hq, (Wd.dayB_iff e).2 ⟨he1, he2⟩]
    rfl
  exact ⟨h, by unfold chN; rw [if_pos h]; rfl⟩
theorem step2 (q e : Int) (hq : q = 0 ∨ q = 1) (he1 : 0 ≤ e) (he2 : e ≤ 10000) : chE (ch1 q e) cT cA q e = 0 ∧ chN (ch1 q e) cT cA q e = ch2 q e := by
  have h : chE (ch1 q e) cT cA q e = 0 := by
    unfold chE
    rw [show nameGo 0 (runesOf cT) = true by rfl, show nameGo 0 (runesOf cA) = true by rfl, pick_ok hq, (Wd.dayB_iff e).2 ⟨he1, he2⟩, ch1_none]
    rfl
  exact ⟨h, by unfold chN; rw [if_pos h]; rfl⟩
theorem chs1 (q e : Int) (hq : q = 0 ∨ q = 1) (he1 : 0 ≤ e) (he2 : e ≤ 10000) : KW.Chs (ch1 q e) := by
  intro r hr
  simp [ch1] at hr
  subst hr
  exact ⟨hq, he1, he2⟩
theorem chs2 (q e : Int) (hq : q = 0 ∨ q = 1) (he1 : 0 ≤ e) (he2 : e ≤ 10000) : KW.Chs (ch2 q e) := by
  intro r hr
  simp [ch2] at hr
  rcases hr with rfl | rfl <;> exact ⟨hq, he1, he2⟩
theorem vals1 (q e : Int) : KW.Vals (ch1 q e) := fun r hr => by cases hr
theorem vals2 (q e : Int) : KW.Vals (ch2 q e) := fun r hr => by cases hr
theorem ck_open (K : KW) (d k : Int) (h : K.chosen (cT, cA) = none) : ck K cT chC d k = ⟨[], [chW d cA k], 0⟩ := by
  simp only [chC, ck]
  rw [h]
theorem ck_left (K : KW) (d e k : Int) (h : K.chosen (cT, cA) = some (0, e)) : ck K cT chC d k = ⟨[⟨Max.max d e, usd, k⟩], [], 0⟩ := by
  simp only [chC, ck]
  rw [h]
  rfl
theorem ck_right (K : KW) (d e k m : Int) (h : K.chosen (cT, cA) = some (1, e)) (hm : mulR k 3 = (m, true)) (h0 : ¬ m = 0) : ck K cT chC d k = ⟨[⟨Max.max d e, eur, m⟩], [], 0⟩ := by
  simp only [chC, ck]
  rw [h]
  simp [rk, hm, h0]
/-- A contract of it, and how many times it pays. -/
structure ChIs (c : C) (k : Int) : Prop where
  chk : chkC c = 0
  ck : ∀ K d, Ca.ck K cT c d 1 = Ca.ck K cT chC d k
  ok : c.Ok
  wt : c.weight ≤ 1000000
  mul : mulR k 3 = (3 * k, true)
  nz : ¬ 3 * k = 0
theorem const_times (K : KW) (c : C) (d n : Int) (h : mulR 1 n = (n, true)) (h0 : ¬ n = 0) (k : Int) (hk : mulR k n = (k * n, true)) (hk0 : ¬ k * n = 0) : ck K cT (.scale (.const n) c) d k = ck K cT c d (k * n) := by
  simp [ck, rk, hk, hk0]
theorem ok0 : chC.Ok := ⟨show cA.size ≤ 2147483648 by decide, show usd.size ≤ 2147483648 by decide, ⟨by omega, by omega⟩, show eur.size ≤ 2147483648 by decide⟩
theorem chIs0 : ChIs chC 1 := ⟨by rfl, fun K d => rfl, ok0, by decide, by rfl, by decide⟩
theorem chIs1 : ChIs (.scale (.const (-2)) chC) (-2) := ⟨by rfl, fun K d => const_times K chC d (-2) (by rfl) (by decide) 1 (by rfl) (by decide), ⟨⟨by omega, by omega⟩, ok0⟩, by decide, by rfl, by decide⟩
theorem chIs2 : ChIs (.give chC) (-1) := ⟨by rfl, fun K d => rfl, ok0, by decide, by rfl, by decide⟩
theorem chIs3 : ChIs (.give (.scale (.const (-2)) chC)) 2 := ⟨by rfl, fun K d => const_times K chC d (-2) (by rfl) (by decide) (-1) (by rfl) (by decide), ⟨⟨by omega, by omega⟩, ok0⟩, by decide, by rfl, by decide⟩
theorem of_open {c : C} {k : Int} (h : ChIs c k) (K : KW) (d : Int) (hd1 : 0 ≤ d) (hd2 : d ≤ 10000) (hK : K.chosen (cT, cA) = none) (s : Int) (hs : side k = s) : ofK K cT c d = ⟨[], [⟨true, ByteArray.empty, cA, d, s⟩], 0⟩ := by
  unfold ofK
  rw [if_pos ⟨h.chk, hd1, hd2⟩, h.ck, ck_open K d k hK, if_pos rfl]
  unfold chW
  rw [hs]
  rfl
theorem of_left {c : C} {k : Int} (h : ChIs c k) (K : KW) (d e : Int) (hd1 : 0 ≤ d) (hd2 : d ≤ 10000) (hK : K.chosen (cT, cA) = some (0, e)) (m : Int) (hm : Max.max d e = m) : ofK K cT c d = ⟨[⟨m, usd, k⟩], [], 0⟩ := by
  unfold ofK
  rw [if_pos ⟨h.chk, hd1, hd2⟩, h.ck, ck_left K d e k hK, if_pos rfl, hm]
  rfl
theorem of_right {c : C} {k : Int} (h : ChIs c k) (K : KW) (d e : Int) (hd1 : 0 ≤ d) (hd2 : d ≤ 10000) (hK : K.chosen (cT, cA) = some (1, e)) (m : Int) (hm : Max.max d e = m) : ofK K cT c d = ⟨[⟨m, eur, 3 * k⟩], [], 0⟩ := by
  unfold ofK
  rw [if_pos ⟨h.chk, hd1, hd2⟩, h.ck, ck_right K d e k (3 * k) hK h.mul h.nz, if_pos rfl, hm]
  rfl

end Go.Proofs.Ytngjlkdpplmpaaa.Ca
namespace Go.Proofs.Ytngjlkdpplmpaaa.Ca
open Go.RowKit Wd Cn Vl
set_option linter.unusedVariables false

theorem snoc_same {α : Type} {a b : List α} {i : Nat} (h : ∀ j, j < i → a[j]? = b[j]?) (hi : a[i]? = b[i]?) : ∀ j, j < i + 1 → a[j]? = b[j]? := fun j hj => by
  rcases (by omega : j < i ∨ j = i) with h1 | rfl
  · exact h j h1
  · exact hi

set_option maxHeartbeats 4000000 in
set_option maxRecDepth 100000 in
theorem sameF_any (w : World) (ao bo : Option Addr) (cap cap2 : Nat) (l m : List Fl) (hl : HasFls w ao l) (hm : HasFls w bo m) (h1 : l.length ≤ 1000000) (h2 : m.length ≤ 1000000) :
    Calls Try.prog 16 #[.slice ao l.length cap, .slice bo m.length cap2] w fun e w' => e = .returned (.bool (decide (l = m))) ∧ Below w.heap.size w w' := by
  have HL := hidC hl
  have HM := hidC hm
  clear hl hm
  by_cases hn : l.length = m.length
  rotate_left
  · have HQ : Hid (decide (l = m) = false) := decide_eq_false (fun e => hn (by rw [e]))
    have hn' : ((l.length : Int) != (m.length : Int)) = true := by simp; omega
    go_enter Try.func16, Try.ntmps16
    go_wp2_with fail
    go_ret
    rw [HQ.out]
    exact ⟨rfl, Below.refl _ _⟩
  · have hn' : ((l.length : Int) != (m.length : Int)) = false := by simp; omega
    have HN := hidC hn
    have hml : (m.length : Int) = (l.length : Int) := by omega
    go_enter Try.func16, Try.ntmps16
    go_wp2_with fail
    clear hml hn'
    go_loopw [5] (fun s5 wr => ∃ i : Nat, i ≤ l.length ∧ s5 = .int .i64 i ∧ Hid (∀ j, j < i → l[j]? = m[j]?) ∧ Below w.heap.size w wr) (fun s5 _ => l.length - (intOf s5).toNat)
    case atStart => exact ⟨0, by omega, rfl, (fun j hj => absurd hj (by omega)), Below.refl _ _⟩
    case round =>
      obtain ⟨i, hi, rfl, HA, hb⟩ := hrel
      have HB := hidC hb
      clear hb
      by_cases hlt : i < l.length
      · have hlt' : (i : Int) < (l.length : Int) := by omega
        have hltm : (i : Int) < (m.length : Int) := by omega
        obtain ⟨x, hx⟩ : ∃ x, l[i]? = some x := ⟨_, List.getElem?_eq_getElem hlt⟩
        obtain ⟨y, hy⟩ : ∃ y, m[i]? = some y := ⟨_, List.getElem?_eq_getElem (by omega)⟩
        obtain ⟨g, rfl, hg, d0, d1, d2⟩ := (HL.out.below HB.out) i x hx
        obtain ⟨g', rfl, hg', e0, e1, e2⟩ := (HM.out.below HB.out) i y hy
        have HX := hidC hx
        have HY := hidC hy
        clear hx hy hg hg'
        obtain ⟨xd, xc, xa⟩ := x
        obtain ⟨yd, yc, ya⟩ := y
        simp only at d0 d1 d2 e0 e1 e2
        by_cases he : xd = yd ∧ xc = yc ∧ xa = ya
        · obtain ⟨rfl, rfl, rfl⟩ := he
          have HA' : Hid (∀ j, j < i + 1 → l[j]? = m[j]?) := snoc_same HA.out (by rw [HX.out, HY.out])
          have q1 : (xc.toList == xc.toList) = true := beq_self_eq_true _
          go_wp2_with fail
          go_region
          go_wp2_with fail
          all_goals go_roundw
          case rel => exact ⟨i + 1, by omega, by go_num, HA', HB.out.drew⟩
          case measure => simp [intOf] <;> omega
        · have HQ : Hid (decide (l = m) = false) := decide_eq_false (fun e => by
            subst e
            rw [HX.out] at HY
            have := HY.out
            injection this with e
            injection e with a1 a2 a3
            exact he ⟨a1, a2, a3⟩)
          have ways : (xd == yd) = false ∨ (xd = yd ∧ (xc.toList == yc.toList) = false) ∨ (xd = yd ∧ (xc.toList == yc.toList) = true ∧ (xa == ya) = false) := by
            by_cases g0 : xd = yd
            · by_cases g1 : xc = yc
              · have g2 : xa ≠ ya := fun g2 => he ⟨g0, g1, g2⟩
                exact .inr (.inr ⟨g0, by rw [g1]; exact beq_self_eq_true _, by simpa using g2⟩)
              · exact .inr (.inl ⟨g0, beq_eq_false_iff_ne.2 fun e => g1 (bytes_inj e)⟩)
            · exact .inl (by simpa using g0)
          clear he
          rcases ways with f0 | ⟨rfl, f1⟩ | ⟨rfl, f1, f2⟩
          all_goals
            go_wp2_with fail
            go_region
            go_wp2_with fail
            all_goals go_ret
            all_goals rw [HQ.out]
            all_goals exact ⟨rfl, HB.out.drew⟩
      · have hle : i = l.length := by omega
        subst hle
        have HQ : Hid (decide (l = m) = true) := decide_eq_true (List.ext_getElem? fun j => by
          by_cases hj : j < l.length
          · exact HA.out j hj
          · rw [List.getElem?_eq_none (by omega), List.getElem?_eq_none (by have := HN.out; omega)])
        go_wp2_with fail
        go_ret
        rw [HQ.out]
        exact ⟨rfl, HB.out⟩

set_option maxHeartbeats 8000000 in
set_option maxRecDepth 100000 in
theorem sameW_any (w : World) (ao bo : Option Addr) (cap cap2 : Nat) (l m : List Wt) (hl : HasWts w ao l) (hm : HasWts w bo m) (h1 : l.length ≤ 1000000) (h2 : m.length ≤ 1000000) :
    Calls Try.prog 14 #[.slice ao l.length cap, .slice bo m.length cap2] w fun e w' => e = .returned (.bool (decide (l = m))) ∧ Below w.heap.size w w' := by
  have HL := hidC hl
  have HM := hidC hm
  clear hl hm
  by_cases hn : l.length = m.length
  rotate_left
  · have HQ : Hid (decide (l = m) = false) := decide_eq_false (fun e => hn (by rw [e]))
    have hn' : ((l.length : Int) != (m.length : Int)) = true := by simp; omega
    go_enter Try.func14, Try.ntmps14
    go_wp2_with fail
    go_ret
    rw [HQ.out]
    exact ⟨rfl, Below.refl _ _⟩
  · have hn' : ((l.length : Int) != (m.length : Int)) = false := by simp; omega
    have HN := hidC hn
    have hml : (m.length : Int) = (l.length : Int) := by omega
    go_enter Try.func14, Try.ntmps14
    go_wp2_with fail
    clear hml hn'
    go_loopw [5] (fun s5 wr => ∃ i : Nat, i ≤ l.length ∧ s5 = .int .i64 i ∧ Hid (∀ j, j < i → l[j]? = m[j]?) ∧ Below w.heap.size w wr) (fun s5 _ => l.length - (intOf s5).toNat)
    case atStart => exact ⟨0, by omega, rfl, (fun j hj => absurd hj (by omega)), Below.refl _ _⟩
    case round =>
      obtain ⟨i, hi, rfl, HA, hb⟩ := hrel
      have HB := hidC hb
      clear hb
      by_cases hlt : i < l.length
      · have hlt' : (i : Int) < (l.length : Int) := by omega
        have hltm : (i : Int) < (m.length : Int) := by omega
        obtain ⟨x, hx⟩ : ∃ x, l[i]? = some x := ⟨_, List.getElem?_eq_getElem hlt⟩
        obtain ⟨y, hy⟩ : ∃ y, m[i]? = some y := ⟨_, List.getElem?_eq_getElem (by omega)⟩
        obtain ⟨g, rfl, hg, d0, d1, d2, d3, d4⟩ := (HL.out.below HB.out) i x hx
        obtain ⟨g', rfl, hg', e0, e1, e2, e3, e4⟩ := (HM.out.below HB.out) i y hy
        have HX := hidC hx
        have HY := hidC hy
        clear hx hy hg hg'
        obtain ⟨c, nm, lb, d, s⟩ := x
        obtain ⟨xc, xn, xl, xd, xs⟩ := y
        simp only at d0 d1 d2 d3 d4 e0 e1 e2 e3 e4
        by_cases he : c = xc ∧ nm = xn ∧ lb = xl ∧ d = xd ∧ s = xs
        · obtain ⟨rfl, rfl, rfl, rfl, rfl⟩ := he
          have HA' : Hid (∀ j, j < i + 1 → l[j]? = m[j]?) := snoc_same HA.out (by rw [HX.out, HY.out])
          have q1 : (nm.toList == nm.toList) = true := beq_self_eq_true _
          have q2 : (lb.toList == lb.toList) = true := beq_self_eq_true _
          go_wp2_with fail
          go_region
          go_wp2_with fail
          all_goals go_roundw
          case rel => exact ⟨i + 1, by omega, by go_num, HA', HB.out.drew⟩
          case measure => simp [intOf] <;> omega
        · have HQ : Hid (decide (l = m) = false) := decide_eq_false (fun e => by
            subst e
            rw [HX.out] at HY
            have := HY.out
            injection this with e
            injection e with a1 a2 a3 a4 a5
            exact he ⟨a1, a2, a3, a4, a5⟩)
          have ways : (c = true ∧ xc = false) ∨ (c = false ∧ xc = true) ∨ (c = xc ∧ (nm.toList == xn.toList) = false) ∨ (c = xc ∧ (nm.toList == xn.toList) = true ∧ (lb.toList == xl.toList) = false) ∨ (c = xc ∧ (nm.toList == xn.toList) = true ∧ (lb.toList == xl.toList) = true ∧ (d == xd) = false) ∨ (c = xc ∧ (nm.toList == xn.toList) = true ∧ (lb.toList == xl.toList) = true ∧ (d == xd) = true ∧ (s == xs) = false) := by
            by_cases g0 : c = xc
            · by_cases g1 : nm = xn
              · by_cases g2 : lb = xl
                · by_cases g3 : d = xd
                  · have g4 : s ≠ xs := fun g4 => he ⟨g0, g1, g2, g3, g4⟩
                    exact .inr (.inr (.inr (.inr (.inr ⟨g0, by rw [g1]; exact beq_self_eq_true _, by rw [g2]; exact beq_self_eq_true _, by simpa using g3, by simpa using g4⟩))))
                  · exact .inr (.inr (.inr (.inr (.inl ⟨g0, by rw [g1]; exact beq_self_eq_true _, by rw [g2]; exact beq_self_eq_true _, by simpa using g3⟩))))
                · exact .inr (.inr (.inr (.inl ⟨g0, by rw [g1]; exact beq_self_eq_true _, beq_eq_false_iff_ne.2 fun e => g2 (bytes_inj e)⟩)))
              · exact .inr (.inr (.inl ⟨g0, beq_eq_false_iff_ne.2 fun e => g1 (bytes_inj e)⟩))
            · cases c <;> cases xc <;> simp at g0 ⊢
          clear he
          rcases ways with ⟨rfl, rfl⟩ | ⟨rfl, rfl⟩ | ⟨rfl, f1⟩ | ⟨rfl, f1, f2⟩ | ⟨rfl, f1, f2, f3⟩ | ⟨rfl, f1, f2, f3, f4⟩
          all_goals
            go_wp2_with fail
            go_region
            go_wp2_with fail
            all_goals go_ret
            all_goals rw [HQ.out]
            all_goals exact ⟨rfl, HB.out.drew⟩
      · have hle : i = l.length := by omega
        subst hle
        have HQ : Hid (decide (l = m) = true) := decide_eq_true (List.ext_getElem? fun j => by
          by_cases hj : j < l.length
          · exact HA.out j hj
          · rw [List.getElem?_eq_none (by omega), List.getElem?_eq_none (by have := HN.out; omega)])
        go_wp2_with fail
        go_ret
        rw [HQ.out]
        exact ⟨rfl, HB.out⟩

end Go.Proofs.Ytngjlkdpplmpaaa.Ca
namespace Go.Proofs.Ytngjlkdpplmpaaa.Ca
open Go.RowKit Wd Cn Vl
set_option linter.unusedVariables false

def sX : ByteArray := ⟨#[120]⟩
def sY : ByteArray := ⟨#[121]⟩
def tsO : O := .add (.fix sX) (.add (.fix sY) (.fix sX))
def tsC (n : Int) : C := .when n (.iff tsO (.one usd) (.give (.one eur)))
def ts1 (d v : Int) : KW := ⟨[((sX, d), v)], []⟩
def ts2 (d v : Int) : KW := ⟨[((sX, d), v), ((sY, d), 1)], []⟩
theorem sxy : ¬ (sX = sY) := by decide
theorem syx : ¬ (sY = sX) := by decide
theorem ts_names : tsO.names = [sX, sY] := by decide
theorem ts_ok (n : Int) (h1 : 0 ≤ n) (h2 : n ≤ 10000) : chkC (tsC n) = 0 := by
  refine chkC_by ?_ (by simp [tsC, tsO, C.nodes, O.nodes]) (by simp [tsC, tsO, C.depth, O.depth]) (by rfl)
  simp only [tsC, formC, (dayB_iff n).2 ⟨h1, h2⟩]
  rfl
theorem ts_okC (n : Int) (h1 : 0 ≤ n) (h2 : n ≤ 10000) : (tsC n).Ok := ⟨⟨by omega, by omega⟩, ⟨show sX.size ≤ 2147483648 by decide, show sY.size ≤ 2147483648 by decide, show sX.size ≤ 2147483648 by decide⟩, show usd.size ≤ 2147483648 by decide, show eur.size ≤ 2147483648 by decide⟩
theorem ts_rk0 (d : Int) : rk ⟨[], []⟩ d tsO = ⟨0, false, 0⟩ := by rfl
theorem ts_rk1 (d v : Int) : rk (ts1 d v) d tsO = ⟨0, false, 0⟩ := by simp [rk, tsO, ts1, KW.fixed, sxy, bothR]
theorem ts_rk2 (d v : Int) (h1 : -20 ≤ v) (h2 : v ≤ 20) : rk (ts2 d v) d tsO = ⟨v + (1 + v), true, 0⟩ := by
  have a1 : addR 1 v = (1 + v, true) := by unfold addR; rw [if_pos]; simp [vB]; omega
  have a2 : addR v (1 + v) = (v + (1 + v), true) := by unfold addR; rw [if_pos]; simp [vB]; omega
  simp [rk, tsO, ts2, KW.fixed, sxy, bothR, inR, a1, a2]
theorem ts_w0 (d : Int) : waitN ⟨[], []⟩ d tsO = [nameW d sX, nameW d sY] := by unfold waitN; rw [ts_names]; rfl
theorem ts_w1 (d v : Int) : waitN (ts1 d v) d tsO = [nameW d sY] := by
  unfold waitN
  rw [ts_names]
  simp [lackN, ts1, KW.fixed, sxy]
theorem ts_of0 (n day m : Int) (h1 : 0 ≤ n) (h2 : n ≤ 10000) (g1 : 0 ≤ day) (g2 : day ≤ 10000) (hm : Max.max day n = m) : ofK ⟨[], []⟩ cT (tsC n) day = ⟨[], [nameW m sX, nameW m sY], 0⟩ := by
  have e : ck ⟨[], []⟩ cT (tsC n) day 1 = ⟨[], [nameW m sX, nameW m sY], 0⟩ := by
    simp only [tsC, ck, hm, ts_rk0, ts_w0]
    rfl
  unfold ofK
  rw [if_pos ⟨ts_ok n h1 h2, g1, g2⟩, e, if_pos rfl]
  simp [addW, putW, nameW, syx]
theorem ts_of1 (n day m v : Int) (h1 : 0 ≤ n) (h2 : n ≤ 10000) (g1 : 0 ≤ day) (g2 : day ≤ 10000) (hm : Max.max day n = m) : ofK (ts1 m v) cT (tsC n) day = ⟨[], [nameW m sY], 0⟩ := by
  have e : ck (ts1 m v) cT (tsC n) day 1 = ⟨[], [nameW m sY], 0⟩ := by
    simp only [tsC, ck, hm, ts_rk1, ts_w1]
    rfl
  unfold ofK
  rw [if_pos ⟨ts_ok n h1 h2, g1, g2⟩, e, if_pos rfl]
  rfl
theorem ts_of2 (n day m v : Int) (h1 : 0 ≤ n) (h2 : n ≤ 10000) (g1 : 0 ≤ day) (g2 : day ≤ 10000) (hm : Max.max day n = m) (v1 : -20 ≤ v) (v2 : v ≤ 20) :
    (0 < v + (1 + v) → ofK (ts2 m v) cT (tsC n) day = ⟨[⟨m, usd, 1⟩], [], 0⟩) ∧ (¬ 0 < v + (1 + v) → ofK (ts2 m v) cT (tsC n) day = ⟨[⟨m, eur, -1⟩], [], 0⟩) := by
  constructor
  · intro hp
    have e : ck (ts2 m v) cT (tsC n) day 1 = ⟨[⟨m, usd, 1⟩], [], 0⟩ := by
      simp only [tsC, ck, hm, ts_rk2 m v v1 v2]
      rw [if_neg (by simp), if_pos trivial, if_pos hp]
    unfold ofK
    rw [if_pos ⟨ts_ok n h1 h2, g1, g2⟩, e, if_pos rfl]
    rfl
  · intro hp
    have e : ck (ts2 m v) cT (tsC n) day 1 = ⟨[⟨m, eur, -1⟩], [], 0⟩ := by
      simp only [tsC, ck, hm, ts_rk2 m v v1 v2]
      rw [if_neg (by simp), if_pos trivial, if_neg hp]
    unfold ofK
    rw [if_pos ⟨ts_ok n h1 h2, g1, g2⟩, e, if_pos rfl]
    rfl
theorem ts_fix1 (m v : Int) (h1 : 0 ≤ m) (h2 : m ≤ 10000) (v1 : -20 ≤ v) (v2 : v ≤ 20) : fixE ⟨[], []⟩ sX m v = 0 ∧ fixN ⟨[], []⟩ sX m v = ts1 m v := by
  have h : fixE ⟨[], []⟩ sX m v = 0 := by
    unfold fixE
    rw [show nameGo 0 (runesOf sX) = true by rfl, (Wd.dayB_iff m).2 ⟨h1, h2⟩, (vB_iff v).2 ⟨by omega, by omega⟩]
    rfl
  exact ⟨h, by unfold fixN; rw [if_pos h]; rfl⟩
theorem ts_fix2 (m v : Int) (h1 : 0 ≤ m) (h2 : m ≤ 10000) : fixE (ts1 m v) sY m 1 = 0 ∧ fixN (ts1 m v) sY m 1 = ts2 m v := by
  have h : fixE (ts1 m v) sY m 1 = 0 := by
    unfold fixE
    rw [show nameGo 0 (runesOf sY) = true by rfl, (Wd.dayB_iff m).2 ⟨h1, h2⟩]
    simp [ts1, KW.fixed, sxy, vB]
  exact ⟨h, by unfold fixN; rw [if_pos h]; rfl⟩
theorem ts_vals1 (m v : Int) (v1 : -20 ≤ v) (v2 : v ≤ 20) : KW.Vals (ts1 m v) := fun q hq => by simp [ts1] at hq; subst hq; exact (vB_iff v).2 ⟨by omega, by omega⟩
theorem ts_vals2 (m v : Int) (v1 : -20 ≤ v) (v2 : v ≤ 20) : KW.Vals (ts2 m v) := fun q hq => by
  simp [ts2] at hq
  rcases hq with rfl | rfl
  · exact (vB_iff v).2 ⟨by omega, by omega⟩
  · rfl
theorem ts_chs1 (m v : Int) : KW.Chs (ts1 m v) := fun q hq => by cases hq
theorem ts_chs2 (m v : Int) : KW.Chs (ts2 m v) := fun q hq => by cases hq
theorem wts_blk {w : World} {b : Nat} {T : TypeId} {l : List Wt} (h : w.heap[b]? = some (.cells (rowWt l).toArray T)) : HasWts w (some ⟨b, 0, none⟩) l := by
  intro i x hx
  obtain ⟨h0, h1, h2, h3, h4⟩ := rowWt_at l i x hx
  refine ⟨b, rfl, (Array.getElem?_eq_some_iff.1 h).1, ?_, ?_, ?_, ?_, ?_⟩
  · rw [cell_of_row _ _ _ _ _ _ h]; simpa using h0
  · rw [cell_of_row _ _ _ _ _ _ h]; simpa using h1
  · rw [cell_of_row _ _ _ _ _ _ h]; simpa using h2
  · rw [cell_of_row _ _ _ _ _ _ h]; simpa using h3
  · rw [cell_of_row _ _ _ _ _ _ h]; simpa using h4


end Go.Proofs.Ytngjlkdpplmpaaa.Ca
namespace Go.Proofs.Ytngjlkdpplmpaaa.Ca
open Go.RowKit Wd Cn Vl
set_option linter.unusedVariables false

set_option maxHeartbeats 8000000 in
set_option maxRecDepth 100000 in
theorem tests1 (day when v0 : Int) (w : World) (a1 : -9223372036854775808 ≤ day) (a2 : day ≤ 9223372036854775807) (b1 : -9223372036854775808 ≤ when) (b2 : when ≤ 9223372036854775807) (c1 : -9223372036854775808 ≤ v0) (c2 : v0 ≤ 9223372036854775807) (hor : day % 50 < when % 100) :
    Calls Try.prog 4 #[.int .i64 day, .int .i64 when, .int .i64 v0] w fun e w' => e = .returned (.bool true) ∧ Below w.heap.size w w' := by
  have HWA := hidC (fun w : World => within_any day 50 w (by omega) (by omega) a1 a2)
  have HWB := hidC (fun w : World => within_any when 100 w (by omega) (by omega) b1 b2)
  have HWC := hidC (fun w : World => within_any v0 41 w (by omega) (by omega) c1 c2)
  obtain ⟨d, hd⟩ : ∃ d, day % 50 = d := ⟨_, rfl⟩
  obtain ⟨n, hn⟩ : ∃ n, when % 100 = n := ⟨_, rfl⟩
  obtain ⟨u, hu⟩ : ∃ u, v0 % 41 = u := ⟨_, rfl⟩
  have hd1 : 0 ≤ d := by omega
  have hd2 : d < 50 := by omega
  have hn1 : 0 ≤ n := by omega
  have hn2 : n < 100 := by omega
  have hu1 : 0 ≤ u := by omega
  have hu2 : u < 41 := by omega
  rw [hd] at HWA
  rw [hn] at HWB
  rw [hu] at HWC
  rw [hd, hn] at hor
  clear hd hn hu a1 a2 b1 b2 c1 c2
  obtain ⟨m, hm⟩ : ∃ m, Max.max d n = m := ⟨_, rfl⟩
  have hm1 : 0 ≤ m := by omega
  have hm2 : m ≤ 100 := by omega
  have HV : Hid ((tsC n).val = .iface 56 (.agg #[.int .i64 n, .iface 54 (.agg #[.iface 52 (.agg #[.iface 50 (.agg #[.string ⟨#[120]⟩]), .iface 52 (.agg #[.iface 50 (.agg #[.string ⟨#[121]⟩]), .iface 50 (.agg #[.string ⟨#[120]⟩])])]), .iface 24 (.agg #[.string ⟨#[117, 115, 100]⟩]), .iface 34 (.agg #[.iface 24 (.agg #[.string ⟨#[101, 117, 114]⟩])])])])) := rfl
  have HC0 := hidC (fun (w : World) (p f r : Nat) (hk : KIn w p f r ⟨[], []⟩) => cash_at (tsC n) (ts_okC n hn1 (by omega)) (by simp [tsC, tsO, C.weight, O.nodes]) w p f r ⟨[], []⟩ cT (env_new hk _ (by decide)) d ⟨by omega, by omega⟩ _ (ts_of0 n d m hn1 (by omega) hd1 (by omega) hm))
  have HC1 := hidC (fun (w : World) (p f r : Nat) (hk : KIn w p f r (ts1 m (u - 20))) => cash_at (tsC n) (ts_okC n hn1 (by omega)) (by simp [tsC, tsO, C.weight, O.nodes]) w p f r (ts1 m (u - 20)) cT ⟨hk, ts_vals1 m (u - 20) (by omega) (by omega), ts_chs1 _ _, by decide⟩ d ⟨by omega, by omega⟩ _ (ts_of1 n d m (u - 20) hn1 (by omega) hd1 (by omega) hm))
  have HC2 := hidC (fun (w : World) (p f r : Nat) (hk : KIn w p f r (ts2 m (u - 20))) (x : Ck) (hx : ofK (ts2 m (u - 20)) cT (tsC n) d = x) => cash_at (tsC n) (ts_okC n hn1 (by omega)) (by simp [tsC, tsO, C.weight, O.nodes]) w p f r (ts2 m (u - 20)) cT ⟨hk, ts_vals2 m (u - 20) (by omega) (by omega), ts_chs2 _ _, by decide⟩ d ⟨by omega, by omega⟩ x hx)
  rw [HV.out] at HC0 HC1 HC2
  have HOF2 := hidC (ts_of2 n d m (u - 20) hn1 (by omega) hd1 (by omega) hm (by omega) (by omega))
  have HF1 : Hid (fixE ⟨[], []⟩ ⟨#[120]⟩ m (u - 20) = 0 ∧ fixN ⟨[], []⟩ ⟨#[120]⟩ m (u - 20) = ts1 m (u - 20)) := ts_fix1 m (u - 20) hm1 (by omega) (by omega) (by omega)
  have HF2 : Hid (fixE (ts1 m (u - 20)) ⟨#[121]⟩ m 1 = 0 ∧ fixN (ts1 m (u - 20)) ⟨#[121]⟩ m 1 = ts2 m (u - 20)) := ts_fix2 m (u - 20) hm1 (by omega)
  unfold cT at HC0 HC1
  have HCH2 : Hid (∀ (w : World) (p f r : Nat), KIn w p f r (ts2 m (u - 20)) → ∀ x, ofK (ts2 m (u - 20)) cT (tsC n) d = x → Calls Try.prog 11 #[.string ⟨#[116]⟩, .iface 56 (.agg #[.int .i64 n, .iface 54 (.agg #[.iface 52 (.agg #[.iface 50 (.agg #[.string ⟨#[120]⟩]), .iface 52 (.agg #[.iface 50 (.agg #[.string ⟨#[121]⟩]), .iface 50 (.agg #[.string ⟨#[120]⟩])])]), .iface 24 (.agg #[.string ⟨#[117, 115, 100]⟩]), .iface 34 (.agg #[.iface 24 (.agg #[.string ⟨#[101, 117, 114]⟩])])])]), .int .i64 d, .pointer (some ⟨p, 0, none⟩)] w (OfIn w x)) := HC2.out
  have ho : d < n := by omega
  have hmo : m = n := by omega
  clear hor
  have HFK : Hid (∀ s : ByteArray, s.size ≤ 10 → fixOk (s, m)) := fun s hs => ⟨Nat.le_trans hs (by decide), by omega, by omega⟩
  clear HC2 hm
  go_enter Try.func4, Try.ntmps4
  go_wp2_with fail
  refine calls_same (HWA.out _) ?_
  go_wp2_with fail
  refine calls_same (HWB.out _) ?_
  go_wp2_with fail
  refine calls_same (HWC.out _) ?_
  go_wp2_with fail
  have HA1 := hidC (below_alloc (Below.refl w.heap.size w) (.cells #[.iface 50 (.agg #[.string ⟨#[120]⟩]), .iface 52 (.agg #[.iface 50 (.agg #[.string ⟨#[121]⟩]), .iface 50 (.agg #[.string ⟨#[120]⟩])])] 52))
  have HA2 := hidC (below_alloc HA1.out (.cells #[.int .i64 n, .iface 54 (.agg #[.iface 52 (.agg #[.iface 50 (.agg #[.string ⟨#[120]⟩]), .iface 52 (.agg #[.iface 50 (.agg #[.string ⟨#[121]⟩]), .iface 50 (.agg #[.string ⟨#[120]⟩])])]), .iface 24 (.agg #[.string ⟨#[117, 115, 100]⟩]), .iface 34 (.agg #[.iface 24 (.agg #[.string ⟨#[101, 117, 114]⟩])])])] 56))
  have HT0 := hidC (heap_alloc_new (w.alloc (.cells #[.iface 50 (.agg #[.string ⟨#[120]⟩]), .iface 52 (.agg #[.iface 50 (.agg #[.string ⟨#[121]⟩]), .iface 50 (.agg #[.string ⟨#[120]⟩])])] 52)) (.cells #[.int .i64 n, .iface 54 (.agg #[.iface 52 (.agg #[.iface 50 (.agg #[.string ⟨#[120]⟩]), .iface 52 (.agg #[.iface 50 (.agg #[.string ⟨#[121]⟩]), .iface 50 (.agg #[.string ⟨#[120]⟩])])]), .iface 24 (.agg #[.string ⟨#[117, 115, 100]⟩]), .iface 34 (.agg #[.iface 24 (.agg #[.string ⟨#[101, 117, 114]⟩])])])] 56))
  have hsz : (w.alloc (.cells #[.iface 50 (.agg #[.string ⟨#[120]⟩]), .iface 52 (.agg #[.iface 50 (.agg #[.string ⟨#[121]⟩]), .iface 50 (.agg #[.string ⟨#[120]⟩])])] 52)).heap.size = w.heap.size + 1 := size_alloc _ _
  rw [hsz] at HT0
  clear hsz
  have HA2' := hidC HA2.out
  clear HA1 HA2
  generalize (w.alloc (.cells #[.iface 50 (.agg #[.string ⟨#[120]⟩]), .iface 52 (.agg #[.iface 50 (.agg #[.string ⟨#[121]⟩]), .iface 50 (.agg #[.string ⟨#[120]⟩])])] 52)).alloc (.cells #[.int .i64 n, .iface 54 (.agg #[.iface 52 (.agg #[.iface 50 (.agg #[.string ⟨#[120]⟩]), .iface 52 (.agg #[.iface 50 (.agg #[.string ⟨#[121]⟩]), .iface 50 (.agg #[.string ⟨#[120]⟩])])]), .iface 24 (.agg #[.string ⟨#[117, 115, 100]⟩]), .iface 34 (.agg #[.iface 24 (.agg #[.string ⟨#[101, 117, 114]⟩])])])] 56) = V at *
  refine (new_in' V).mono ?_
  rintro e1 w1 ⟨b, f, c, rfl, hi⟩
  have HI : Hid (In V w1 b f c ⟨[], []⟩) := hi
  clear hi
  have HT : Hid (∀ w', Below V.heap.size V w' → w'.cell? ⟨w.heap.size + 1, 0, none⟩ = some (.int .i64 n) ∧ w'.cell? ⟨w.heap.size + 1, 1, none⟩ = some (.iface 54 (.agg #[.iface 52 (.agg #[.iface 50 (.agg #[.string ⟨#[120]⟩]), .iface 52 (.agg #[.iface 50 (.agg #[.string ⟨#[121]⟩]), .iface 50 (.agg #[.string ⟨#[120]⟩])])]), .iface 24 (.agg #[.string ⟨#[117, 115, 100]⟩]), .iface 34 (.agg #[.iface 24 (.agg #[.string ⟨#[101, 117, 114]⟩])])]))) := fun w' hw' => by
    have hx := (hw'.block _ (Array.getElem?_eq_some_iff.1 HT0.out).1).trans HT0.out
    exact ⟨cell_of_row _ _ 0 _ _ _ hx, cell_of_row _ _ 1 _ _ _ hx⟩
  obtain ⟨t0, t1⟩ := HT.out w1 HI.out.below
  subst hmo
  go_wp2_with fail
  clear t0 t1
  refine (HC0.out w1 b f c HI.out.kin).mono ?_
  rintro e2 w2 ⟨ao, cap, bo, cap2, rfl, h1, h2, hb⟩
  have HI2 := hidC (HI.out.step hb)
  have HW2 := hidC h2
  clear h1 h2 hb HC0
  simp only [List.length_cons, List.length_nil]
  go_wp2_with fail
  have HB2 := hidC (below_alloc (Below.refl w2.heap.size w2) (.cells #[.bool false, .string ⟨#[120]⟩, .string ⟨#[]⟩, .int .i64 m, .int .i64 0, .bool false, .string ⟨#[121]⟩, .string ⟨#[]⟩, .int .i64 m, .int .i64 0] 43))
  have HN2 := hidC (wts_blk (l := [nameW m sX, nameW m sY]) (heap_alloc_new w2 (.cells #[.bool false, .string ⟨#[120]⟩, .string ⟨#[]⟩, .int .i64 m, .int .i64 0, .bool false, .string ⟨#[121]⟩, .string ⟨#[]⟩, .int .i64 m, .int .i64 0] 43)))
  have HI2b := hidC (HI2.out.step HB2.out)
  refine (sameW_any _ bo _ cap2 2 [nameW m sX, nameW m sY] [nameW m sX, nameW m sY] (HW2.out.below HB2.out) HN2.out (by simp) (by simp)).mono ?_
  rintro e3 w3 ⟨rfl, hb3⟩
  have HI3 := hidC (HI2b.out.step hb3)
  clear hb3 HB2 HN2 HI2b HI2 HW2
  rw [decide_eq_true rfl]
  go_wp2_with fail
  refine (fix_in HI3.out ⟨#[120]⟩ m (u - 20) (HFK.out _ (by decide)) 0 _ HF1.out.1 HF1.out.2).mono ?_
  rintro e4 w4 ⟨rfl, hi⟩
  have HI4 := hidC hi
  obtain ⟨t0, t1⟩ := HT.out w4 HI4.out.below
  clear hi HI3
  go_wp2_with fail
  clear t0 t1
  refine (HC1.out w4 b f c HI4.out.kin).mono ?_
  rintro e5 w5 ⟨ao5, cap5, bo5, cap6, rfl, h1, h2, hb⟩
  have HI5 := hidC (HI4.out.step hb)
  have HW5 := hidC h2
  clear h1 h2 hb HC1
  simp only [List.length_cons, List.length_nil]
  go_wp2_with fail
  have HB5 := hidC (below_alloc (Below.refl w5.heap.size w5) (.cells #[.bool false, .string ⟨#[121]⟩, .string ⟨#[]⟩, .int .i64 m, .int .i64 0] 43))
  have HN5 := hidC (wts_blk (l := [nameW m sY]) (heap_alloc_new w5 (.cells #[.bool false, .string ⟨#[121]⟩, .string ⟨#[]⟩, .int .i64 m, .int .i64 0] 43)))
  have HI5b := hidC (HI5.out.step HB5.out)
  refine (sameW_any _ bo5 _ cap6 1 [nameW m sY] [nameW m sY] (HW5.out.below HB5.out) HN5.out (by simp) (by simp)).mono ?_
  rintro e6 w6 ⟨rfl, hb6⟩
  have HI6 := hidC (HI5b.out.step hb6)
  clear hb6 HB5 HN5 HI5b HI5 HW5
  rw [decide_eq_true rfl]
  go_wp2_with fail
  refine (fix_in HI6.out ⟨#[121]⟩ m 1 (HFK.out _ (by decide)) 0 _ HF2.out.1 HF2.out.2).mono ?_
  rintro e7 w7 ⟨rfl, hi⟩
  have HI7 := hidC hi
  obtain ⟨t0, t1⟩ := HT.out w7 HI7.out.below
  clear hi HI6
  by_cases hp : 0 < (u - 20) + (1 + (u - 20))
  · have HOF := hidC (HCH2.out w7 b f c HI7.out.kin _ (HOF2.out.1 hp))
    have hp2 : 0 < 2 * (u - 20) + 1 := by omega
    clear hp
    go_wp2_with fail
    clear t0 t1
    refine HOF.out.mono ?_
    rintro e8 w8 ⟨ao6, cap6, bo6, cap7, rfl, h1, h2, hb⟩
    have HI8 := hidC (HI7.out.step hb)
    obtain ⟨g6, rfl, hg6, f0, f1, f2⟩ := h1 0 _ rfl
    have f1' : w8.cell? ⟨g6, 1, none⟩ = some (.string ⟨#[117, 115, 100]⟩) := f1
    have f2' : w8.cell? ⟨g6, 2, none⟩ = some (.int .i64 1) := f2
    simp only [Nat.zero_mul] at f0
    clear h1 h2 hb f1 f2 HOF HI7
    simp only [List.length_cons, List.length_nil]
    go_wp2_with fail
    have HA2 := hidC (below_alloc (Below.refl w8.heap.size w8) (.cells #[.int .i64 m, .string ⟨#[117, 115, 100]⟩, .int .i64 1] 46))
    have HX := hidC (heap_alloc_new w8 (.cells #[.int .i64 m, .string ⟨#[117, 115, 100]⟩, .int .i64 1] 46))
    have f0b := (HA2.out.cell (p := ⟨g6, 0, none⟩) hg6).trans f0
    have f1b := (HA2.out.cell (p := ⟨g6, 1, none⟩) hg6).trans f1'
    have f2b := (HA2.out.cell (p := ⟨g6, 2, none⟩) hg6).trans f2'
    have HBB := hidC (HI8.out.below.trans (HA2.out.mono HI8.out.below.size))
    have hg7 : g6 < (w8.alloc (.cells #[.int .i64 m, .string ⟨#[117, 115, 100]⟩, .int .i64 1] 46)).heap.size := Nat.lt_of_lt_of_le hg6 HA2.out.size
    generalize w8.alloc (.cells #[.int .i64 m, .string ⟨#[117, 115, 100]⟩, .int .i64 1] 46) = X at *
    have HFC : Hid (∀ w', Below X.heap.size X w' → w'.cell? ⟨g6, 0, none⟩ = some (.int .i64 m) ∧ w'.cell? ⟨g6, 1, none⟩ = some (.string ⟨#[117, 115, 100]⟩) ∧ w'.cell? ⟨g6, 2, none⟩ = some (.int .i64 1) ∧ w'.cell? ⟨w8.heap.size, 0, none⟩ = some (.int .i64 m) ∧ w'.cell? ⟨w8.heap.size, 1, none⟩ = some (.string ⟨#[117, 115, 100]⟩) ∧ w'.cell? ⟨w8.heap.size, 2, none⟩ = some (.int .i64 1)) := fun w' hw' => by
      have hc := fun o => hw'.cell (p := ⟨g6, o, none⟩) hg7
      have hx := (hw'.block _ (Array.getElem?_eq_some_iff.1 HX.out).1).trans HX.out
      exact ⟨(hc _).trans f0b, (hc _).trans f1b, (hc _).trans f2b, cell_of_row _ _ 0 _ _ _ hx, cell_of_row _ _ 1 _ _ _ hx, cell_of_row _ _ 2 _ _ _ hx⟩
    have HC0 := hidC (below_drew (Below.refl X.heap.size X))
    clear f0b f1b f2b f0 f1' f2' HX HA2
    refine Mx.wp_region_mix (fun w' => Below X.heap.size X w') [(0, false), (1, false), (2, false), (3, false), (4, false), (5, false), (6, false), (7, false), (8, false), (9, false), (10, false), (11, false), (12, false), (13, false), (14, false), (15, false), (16, false), (17, false), (18, false), (19, false), (20, true), (21, false), (22, false)] (by kernel_rfl) (by kernel_rfl) HC0.out ?_ (by kernel_rfl)
    simp only [List.map_cons, List.map_nil, List.getD_cons_zero, List.getD_cons_succ]
    generalize hops : (#[_, _, _, _, _, _, _, _, _, _, _, _, _, _, _, _, _, _, _, _, _, _, _] : Array Oper) = ops
    have HD2 : Hid ((ops[2]?).bind (·.dst) = some 125) := by rw [← hops]; exact rfl
    have HD7 : Hid ((ops[7]?).bind (·.dst) = some 130) := by rw [← hops]; exact rfl
    have HD12 : Hid ((ops[12]?).bind (·.dst) = some 135) := by rw [← hops]; exact rfl
    have HD19 : Hid ((ops[19]?).bind (·.dst) = some 142) := by rw [← hops]; exact rfl
    clear hops
    refine Mx.m_pure (.int .i64 0) (Mx.wanted_none rfl) (fun w' hw' => ?_) ?_
    · go_simp
    simp only [Act.put, List.setIfInBounds_toArray, List.set_cons_zero, List.set_cons_succ]
    refine Mx.m_pure (.bool true) (Mx.wanted_none rfl) (fun w' hw' => ?_) ?_
    · go_simp
    simp only [Act.put, List.setIfInBounds_toArray, List.set_cons_zero, List.set_cons_succ]
    refine Mx.m_pure (.bool true) (Mx.wanted_none rfl) (fun w' hw' => ?_) ?_
    · go_simp
    simp only [Act.put, List.setIfInBounds_toArray, List.set_cons_zero, List.set_cons_succ]
    refine Mx.m_pure (.slice bo6 0 cap7) (Mx.wanted_met 2 125 true rfl HD2.out rfl) (fun w' hw' => ?_) ?_
    · go_simp
    simp only [Act.put, List.setIfInBounds_toArray, List.set_cons_zero, List.set_cons_succ]
    refine Mx.m_pure (.int .i64 0) (Mx.wanted_met 2 125 true rfl HD2.out rfl) (fun w' hw' => ?_) ?_
    · go_simp
    simp only [Act.put, List.setIfInBounds_toArray, List.set_cons_zero, List.set_cons_succ]
    refine Mx.m_pure (.bool true) (Mx.wanted_met 2 125 true rfl HD2.out rfl) (fun w' hw' => ?_) ?_
    · go_simp
    simp only [Act.put, List.setIfInBounds_toArray, List.set_cons_zero, List.set_cons_succ]
    refine Mx.m_pure (.bool true) (Mx.wanted_none rfl) (fun w' hw' => ?_) ?_
    · go_simp
    simp only [Act.put, List.setIfInBounds_toArray, List.set_cons_zero, List.set_cons_succ]
    refine Mx.m_pure (.bool true) (Mx.wanted_none rfl) (fun w' hw' => ?_) ?_
    · go_simp
    simp only [Act.put, List.setIfInBounds_toArray, List.set_cons_zero, List.set_cons_succ]
    refine Mx.m_pure (.slice (some ⟨g6, 0, none⟩) 1 cap6) (Mx.wanted_met 7 130 true rfl HD7.out rfl) (fun w' hw' => ?_) ?_
    · go_simp
    simp only [Act.put, List.setIfInBounds_toArray, List.set_cons_zero, List.set_cons_succ]
    refine Mx.m_pure (.int .i64 1) (Mx.wanted_met 7 130 true rfl HD7.out rfl) (fun w' hw' => ?_) ?_
    · go_simp
    simp only [Act.put, List.setIfInBounds_toArray, List.set_cons_zero, List.set_cons_succ]
    refine Mx.m_pure (.bool true) (Mx.wanted_met 7 130 true rfl HD7.out rfl) (fun w' hw' => ?_) ?_
    · go_simp
    simp only [Act.put, List.setIfInBounds_toArray, List.set_cons_zero, List.set_cons_succ]
    refine Mx.m_pure (.bool true) (Mx.wanted_none rfl) (fun w' hw' => ?_) ?_
    · go_simp
    simp only [Act.put, List.setIfInBounds_toArray, List.set_cons_zero, List.set_cons_succ]
    refine Mx.m_pure (.bool true) (Mx.wanted_none rfl) (fun w' hw' => ?_) ?_
    · go_simp
    simp only [Act.put, List.setIfInBounds_toArray, List.set_cons_zero, List.set_cons_succ]
    refine Mx.m_pure (.slice (some ⟨g6, 0, none⟩) 1 cap6) (Mx.wanted_met 12 135 true rfl HD12.out rfl) (fun w' hw' => ?_) ?_
    · go_simp
    simp only [Act.put, List.setIfInBounds_toArray, List.set_cons_zero, List.set_cons_succ]
    refine Mx.m_pure (.pointer (some ⟨g6, 0, none⟩)) (Mx.wanted_met 12 135 true rfl HD12.out rfl) (fun w' hw' => ?_) ?_
    · go_simp
    simp only [Act.put, List.setIfInBounds_toArray, List.set_cons_zero, List.set_cons_succ]
    refine Mx.m_pure (.agg #[.int .i64 m, .string ⟨#[117, 115, 100]⟩, .int .i64 1]) (Mx.wanted_met 12 135 true rfl HD12.out rfl) (fun w' hw' => ?_) ?_
    · obtain ⟨q0, q1, q2, q3, q4, q5⟩ := HFC.out w' hw'
      go_simp
    simp only [Act.put, List.setIfInBounds_toArray, List.set_cons_zero, List.set_cons_succ]
    refine Mx.m_pure (.agg #[.int .i64 m, .string ⟨#[117, 115, 100]⟩, .int .i64 1]) (Mx.wanted_met 12 135 true rfl HD12.out rfl) (fun w' hw' => ?_) ?_
    · obtain ⟨q0, q1, q2, q3, q4, q5⟩ := HFC.out w' hw'
      go_simp
    simp only [Act.put, List.setIfInBounds_toArray, List.set_cons_zero, List.set_cons_succ]
    refine Mx.m_pure (.bool true) (Mx.wanted_met 12 135 true rfl HD12.out rfl) (fun w' hw' => ?_) ?_
    · go_simp
    simp only [Act.put, List.setIfInBounds_toArray, List.set_cons_zero, List.set_cons_succ]
    refine Mx.m_pure (.bool true) (Mx.wanted_none rfl) (fun w' hw' => ?_) ?_
    · go_simp
    simp only [Act.put, List.setIfInBounds_toArray, List.set_cons_zero, List.set_cons_succ]
    refine Mx.m_pure (.bool true) (Mx.wanted_none rfl) (fun w' hw' => ?_) ?_
    · go_simp
    simp only [Act.put, List.setIfInBounds_toArray, List.set_cons_zero, List.set_cons_succ]
    refine Mx.m_call 13 #[] (Mx.wanted_met 19 142 true rfl HD19.out rfl) ?_ ?_
    · go_simp
    refine (wakes10_any _).mono ?_
    rintro e9 w9 ⟨rfl, hb9⟩
    have HB9 := hidC (HC0.out.trans (hb9.mono HC0.out.size))
    refine ⟨_, rfl, HB9.out, ?_⟩
    clear hb9
    simp only [Act.put, List.setIfInBounds_toArray, List.set_cons_zero, List.set_cons_succ]
    refine Mx.m_pure (.bool true) (Mx.wanted_none rfl) (fun w' hw' => ?_) ?_
    · go_simp
    simp only [Act.put, List.setIfInBounds_toArray, List.set_cons_zero, List.set_cons_succ]
    refine Mx.m_pure (.bool true) (Mx.wanted_none rfl) (fun w' hw' => ?_) ?_
    · go_simp
    simp only [Act.put, List.setIfInBounds_toArray, List.set_cons_zero, List.set_cons_succ]
    refine Mx.m_nil ?_
    intro _
    go_wp2_with fail
    go_ret
    have h9 : Below w.heap.size w w9 := HA2'.out.trans ((HBB.out.trans (HB9.out.mono HBB.out.size)).mono HA2'.out.size)
    exact ⟨rfl, h9⟩
  · have HOF := hidC (HCH2.out w7 b f c HI7.out.kin _ (HOF2.out.2 (by omega)))
    have hp2 : 2 * (u - 20) + 1 ≤ 0 := by omega
    clear hp
    go_wp2_with fail
    clear t0 t1
    refine HOF.out.mono ?_
    rintro e8 w8 ⟨ao6, cap6, bo6, cap7, rfl, h1, h2, hb⟩
    have HI8 := hidC (HI7.out.step hb)
    obtain ⟨g6, rfl, hg6, f0, f1, f2⟩ := h1 0 _ rfl
    have f1' : w8.cell? ⟨g6, 1, none⟩ = some (.string ⟨#[101, 117, 114]⟩) := f1
    have f2' : w8.cell? ⟨g6, 2, none⟩ = some (.int .i64 (-1)) := f2
    simp only [Nat.zero_mul] at f0
    clear h1 h2 hb f1 f2 HOF HI7
    simp only [List.length_cons, List.length_nil]
    go_wp2_with fail
    have HA2 := hidC (below_alloc (Below.refl w8.heap.size w8) (.cells #[.int .i64 m, .string ⟨#[101, 117, 114]⟩, .int .i64 (-1)] 46))
    have HX := hidC (heap_alloc_new w8 (.cells #[.int .i64 m, .string ⟨#[101, 117, 114]⟩, .int .i64 (-1)] 46))
    have f0b := (HA2.out.cell (p := ⟨g6, 0, none⟩) hg6).trans f0
    have f1b := (HA2.out.cell (p := ⟨g6, 1, none⟩) hg6).trans f1'
    have f2b := (HA2.out.cell (p := ⟨g6, 2, none⟩) hg6).trans f2'
    have HBB := hidC (HI8.out.below.trans (HA2.out.mono HI8.out.below.size))
    have hg7 : g6 < (w8.alloc (.cells #[.int .i64 m, .string ⟨#[101, 117, 114]⟩, .int .i64 (-1)] 46)).heap.size := Nat.lt_of_lt_of_le hg6 HA2.out.size
    generalize w8.alloc (.cells #[.int .i64 m, .string ⟨#[101, 117, 114]⟩, .int .i64 (-1)] 46) = X at *
    have HFC : Hid (∀ w', Below X.heap.size X w' → w'.cell? ⟨g6, 0, none⟩ = some (.int .i64 m) ∧ w'.cell? ⟨g6, 1, none⟩ = some (.string ⟨#[101, 117, 114]⟩) ∧ w'.cell? ⟨g6, 2, none⟩ = some (.int .i64 (-1)) ∧ w'.cell? ⟨w8.heap.size, 0, none⟩ = some (.int .i64 m) ∧ w'.cell? ⟨w8.heap.size, 1, none⟩ = some (.string ⟨#[101, 117, 114]⟩) ∧ w'.cell? ⟨w8.heap.size, 2, none⟩ = some (.int .i64 (-1))) := fun w' hw' => by
      have hc := fun o => hw'.cell (p := ⟨g6, o, none⟩) hg7
      have hx := (hw'.block _ (Array.getElem?_eq_some_iff.1 HX.out).1).trans HX.out
      exact ⟨(hc _).trans f0b, (hc _).trans f1b, (hc _).trans f2b, cell_of_row _ _ 0 _ _ _ hx, cell_of_row _ _ 1 _ _ _ hx, cell_of_row _ _ 2 _ _ _ hx⟩
    have HC0 := hidC (below_drew (Below.refl X.heap.size X))
    clear f0b f1b f2b f0 f1' f2' HX HA2
    refine Mx.wp_region_mix (fun w' => Below X.heap.size X w') [(0, false), (1, false), (2, false), (3, false), (4, false), (5, false), (6, false), (7, false), (8, false), (9, false), (10, false), (11, false), (12, false), (13, false), (14, false), (15, false), (16, false), (17, false), (18, false), (19, false), (20, true), (21, false), (22, false)] (by kernel_rfl) (by kernel_rfl) HC0.out ?_ (by kernel_rfl)
    simp only [List.map_cons, List.map_nil, List.getD_cons_zero, List.getD_cons_succ]
    generalize hops : (#[_, _, _, _, _, _, _, _, _, _, _, _, _, _, _, _, _, _, _, _, _, _, _] : Array Oper) = ops
    have HD2 : Hid ((ops[2]?).bind (·.dst) = some 125) := by rw [← hops]; exact rfl
    have HD7 : Hid ((ops[7]?).bind (·.dst) = some 130) := by rw [← hops]; exact rfl
    have HD12 : Hid ((ops[12]?).bind (·.dst) = some 135) := by rw [← hops]; exact rfl
    have HD19 : Hid ((ops[19]?).bind (·.dst) = some 142) := by rw [← hops]; exact rfl
    clear hops
    refine Mx.m_pure (.int .i64 0) (Mx.wanted_none rfl) (fun w' hw' => ?_) ?_
    · go_simp
    simp only [Act.put, List.setIfInBounds_toArray, List.set_cons_zero, List.set_cons_succ]
    refine Mx.m_pure (.bool true) (Mx.wanted_none rfl) (fun w' hw' => ?_) ?_
    · go_simp
    simp only [Act.put, List.setIfInBounds_toArray, List.set_cons_zero, List.set_cons_succ]
    refine Mx.m_pure (.bool true) (Mx.wanted_none rfl) (fun w' hw' => ?_) ?_
    · go_simp
    simp only [Act.put, List.setIfInBounds_toArray, List.set_cons_zero, List.set_cons_succ]
    refine Mx.m_pure (.slice bo6 0 cap7) (Mx.wanted_met 2 125 true rfl HD2.out rfl) (fun w' hw' => ?_) ?_
    · go_simp
    simp only [Act.put, List.setIfInBounds_toArray, List.set_cons_zero, List.set_cons_succ]
    refine Mx.m_pure (.int .i64 0) (Mx.wanted_met 2 125 true rfl HD2.out rfl) (fun w' hw' => ?_) ?_
    · go_simp
    simp only [Act.put, List.setIfInBounds_toArray, List.set_cons_zero, List.set_cons_succ]
    refine Mx.m_pure (.bool true) (Mx.wanted_met 2 125 true rfl HD2.out rfl) (fun w' hw' => ?_) ?_
    · go_simp
    simp only [Act.put, List.setIfInBounds_toArray, List.set_cons_zero, List.set_cons_succ]
    refine Mx.m_pure (.bool true) (Mx.wanted_none rfl) (fun w' hw' => ?_) ?_
    · go_simp
    simp only [Act.put, List.setIfInBounds_toArray, List.set_cons_zero, List.set_cons_succ]
    refine Mx.m_pure (.bool true) (Mx.wanted_none rfl) (fun w' hw' => ?_) ?_
    · go_simp
    simp only [Act.put, List.setIfInBounds_toArray, List.set_cons_zero, List.set_cons_succ]
    refine Mx.m_pure (.slice (some ⟨g6, 0, none⟩) 1 cap6) (Mx.wanted_met 7 130 true rfl HD7.out rfl) (fun w' hw' => ?_) ?_
    · go_simp
    simp only [Act.put, List.setIfInBounds_toArray, List.set_cons_zero, List.set_cons_succ]
    refine Mx.m_pure (.int .i64 1) (Mx.wanted_met 7 130 true rfl HD7.out rfl) (fun w' hw' => ?_) ?_
    · go_simp
    simp only [Act.put, List.setIfInBounds_toArray, List.set_cons_zero, List.set_cons_succ]
    refine Mx.m_pure (.bool true) (Mx.wanted_met 7 130 true rfl HD7.out rfl) (fun w' hw' => ?_) ?_
    · go_simp
    simp only [Act.put, List.setIfInBounds_toArray, List.set_cons_zero, List.set_cons_succ]
    refine Mx.m_pure (.bool true) (Mx.wanted_none rfl) (fun w' hw' => ?_) ?_
    · go_simp
    simp only [Act.put, List.setIfInBounds_toArray, List.set_cons_zero, List.set_cons_succ]
    refine Mx.m_pure (.bool true) (Mx.wanted_none rfl) (fun w' hw' => ?_) ?_
    · go_simp
    simp only [Act.put, List.setIfInBounds_toArray, List.set_cons_zero, List.set_cons_succ]
    refine Mx.m_pure (.slice (some ⟨g6, 0, none⟩) 1 cap6) (Mx.wanted_met 12 135 true rfl HD12.out rfl) (fun w' hw' => ?_) ?_
    · go_simp
    simp only [Act.put, List.setIfInBounds_toArray, List.set_cons_zero, List.set_cons_succ]
    refine Mx.m_pure (.pointer (some ⟨g6, 0, none⟩)) (Mx.wanted_met 12 135 true rfl HD12.out rfl) (fun w' hw' => ?_) ?_
    · go_simp
    simp only [Act.put, List.setIfInBounds_toArray, List.set_cons_zero, List.set_cons_succ]
    refine Mx.m_pure (.agg #[.int .i64 m, .string ⟨#[101, 117, 114]⟩, .int .i64 (-1)]) (Mx.wanted_met 12 135 true rfl HD12.out rfl) (fun w' hw' => ?_) ?_
    · obtain ⟨q0, q1, q2, q3, q4, q5⟩ := HFC.out w' hw'
      go_simp
    simp only [Act.put, List.setIfInBounds_toArray, List.set_cons_zero, List.set_cons_succ]
    refine Mx.m_pure (.agg #[.int .i64 m, .string ⟨#[101, 117, 114]⟩, .int .i64 (-1)]) (Mx.wanted_met 12 135 true rfl HD12.out rfl) (fun w' hw' => ?_) ?_
    · obtain ⟨q0, q1, q2, q3, q4, q5⟩ := HFC.out w' hw'
      go_simp
    simp only [Act.put, List.setIfInBounds_toArray, List.set_cons_zero, List.set_cons_succ]
    refine Mx.m_pure (.bool true) (Mx.wanted_met 12 135 true rfl HD12.out rfl) (fun w' hw' => ?_) ?_
    · go_simp
    simp only [Act.put, List.setIfInBounds_toArray, List.set_cons_zero, List.set_cons_succ]
    refine Mx.m_pure (.bool true) (Mx.wanted_none rfl) (fun w' hw' => ?_) ?_
    · go_simp
    simp only [Act.put, List.setIfInBounds_toArray, List.set_cons_zero, List.set_cons_succ]
    refine Mx.m_pure (.bool true) (Mx.wanted_none rfl) (fun w' hw' => ?_) ?_
    · go_simp
    simp only [Act.put, List.setIfInBounds_toArray, List.set_cons_zero, List.set_cons_succ]
    refine Mx.m_call 13 #[] (Mx.wanted_met 19 142 true rfl HD19.out rfl) ?_ ?_
    · go_simp
    refine (wakes10_any _).mono ?_
    rintro e9 w9 ⟨rfl, hb9⟩
    have HB9 := hidC (HC0.out.trans (hb9.mono HC0.out.size))
    refine ⟨_, rfl, HB9.out, ?_⟩
    clear hb9
    simp only [Act.put, List.setIfInBounds_toArray, List.set_cons_zero, List.set_cons_succ]
    refine Mx.m_pure (.bool true) (Mx.wanted_none rfl) (fun w' hw' => ?_) ?_
    · go_simp
    simp only [Act.put, List.setIfInBounds_toArray, List.set_cons_zero, List.set_cons_succ]
    refine Mx.m_pure (.bool true) (Mx.wanted_none rfl) (fun w' hw' => ?_) ?_
    · go_simp
    simp only [Act.put, List.setIfInBounds_toArray, List.set_cons_zero, List.set_cons_succ]
    refine Mx.m_nil ?_
    intro _
    go_wp2_with fail
    go_ret
    have h9 : Below w.heap.size w w9 := HA2'.out.trans ((HBB.out.trans (HB9.out.mono HBB.out.size)).mono HA2'.out.size)
    exact ⟨rfl, h9⟩

end Go.Proofs.Ytngjlkdpplmpaaa.Ca
namespace Go.Proofs.Ytngjlkdpplmpaaa.Ca
open Go.RowKit Wd Cn Vl
set_option linter.unusedVariables false

set_option maxHeartbeats 8000000 in
set_option maxRecDepth 100000 in
theorem tests2 (day when v0 : Int) (w : World) (a1 : -9223372036854775808 ≤ day) (a2 : day ≤ 9223372036854775807) (b1 : -9223372036854775808 ≤ when) (b2 : when ≤ 9223372036854775807) (c1 : -9223372036854775808 ≤ v0) (c2 : v0 ≤ 9223372036854775807) (hor : when % 100 ≤ day % 50) :
    Calls Try.prog 4 #[.int .i64 day, .int .i64 when, .int .i64 v0] w fun e w' => e = .returned (.bool true) ∧ Below w.heap.size w w' := by
  have HWA := hidC (fun w : World => within_any day 50 w (by omega) (by omega) a1 a2)
  have HWB := hidC (fun w : World => within_any when 100 w (by omega) (by omega) b1 b2)
  have HWC := hidC (fun w : World => within_any v0 41 w (by omega) (by omega) c1 c2)
  obtain ⟨d, hd⟩ : ∃ d, day % 50 = d := ⟨_, rfl⟩
  obtain ⟨n, hn⟩ : ∃ n, when % 100 = n := ⟨_, rfl⟩
  obtain ⟨u, hu⟩ : ∃ u, v0 % 41 = u := ⟨_, rfl⟩
  have hd1 : 0 ≤ d := by omega
  have hd2 : d < 50 := by omega
  have hn1 : 0 ≤ n := by omega
  have hn2 : n < 100 := by omega
  have hu1 : 0 ≤ u := by omega
  have hu2 : u < 41 := by omega
  rw [hd] at HWA
  rw [hn] at HWB
  rw [hu] at HWC
  rw [hd, hn] at hor
  clear hd hn hu a1 a2 b1 b2 c1 c2
  obtain ⟨m, hm⟩ : ∃ m, Max.max d n = m := ⟨_, rfl⟩
  have hm1 : 0 ≤ m := by omega
  have hm2 : m ≤ 100 := by omega
  have HV : Hid ((tsC n).val = .iface 56 (.agg #[.int .i64 n, .iface 54 (.agg #[.iface 52 (.agg #[.iface 50 (.agg #[.string ⟨#[120]⟩]), .iface 52 (.agg #[.iface 50 (.agg #[.string ⟨#[121]⟩]), .iface 50 (.agg #[.string ⟨#[120]⟩])])]), .iface 24 (.agg #[.string ⟨#[117, 115, 100]⟩]), .iface 34 (.agg #[.iface 24 (.agg #[.string ⟨#[101, 117, 114]⟩])])])])) := rfl
  have HC0 := hidC (fun (w : World) (p f r : Nat) (hk : KIn w p f r ⟨[], []⟩) => cash_at (tsC n) (ts_okC n hn1 (by omega)) (by simp [tsC, tsO, C.weight, O.nodes]) w p f r ⟨[], []⟩ cT (env_new hk _ (by decide)) d ⟨by omega, by omega⟩ _ (ts_of0 n d m hn1 (by omega) hd1 (by omega) hm))
  have HC1 := hidC (fun (w : World) (p f r : Nat) (hk : KIn w p f r (ts1 m (u - 20))) => cash_at (tsC n) (ts_okC n hn1 (by omega)) (by simp [tsC, tsO, C.weight, O.nodes]) w p f r (ts1 m (u - 20)) cT ⟨hk, ts_vals1 m (u - 20) (by omega) (by omega), ts_chs1 _ _, by decide⟩ d ⟨by omega, by omega⟩ _ (ts_of1 n d m (u - 20) hn1 (by omega) hd1 (by omega) hm))
  have HC2 := hidC (fun (w : World) (p f r : Nat) (hk : KIn w p f r (ts2 m (u - 20))) (x : Ck) (hx : ofK (ts2 m (u - 20)) cT (tsC n) d = x) => cash_at (tsC n) (ts_okC n hn1 (by omega)) (by simp [tsC, tsO, C.weight, O.nodes]) w p f r (ts2 m (u - 20)) cT ⟨hk, ts_vals2 m (u - 20) (by omega) (by omega), ts_chs2 _ _, by decide⟩ d ⟨by omega, by omega⟩ x hx)
  rw [HV.out] at HC0 HC1 HC2
  have HOF2 := hidC (ts_of2 n d m (u - 20) hn1 (by omega) hd1 (by omega) hm (by omega) (by omega))
  have HF1 : Hid (fixE ⟨[], []⟩ ⟨#[120]⟩ m (u - 20) = 0 ∧ fixN ⟨[], []⟩ ⟨#[120]⟩ m (u - 20) = ts1 m (u - 20)) := ts_fix1 m (u - 20) hm1 (by omega) (by omega) (by omega)
  have HF2 : Hid (fixE (ts1 m (u - 20)) ⟨#[121]⟩ m 1 = 0 ∧ fixN (ts1 m (u - 20)) ⟨#[121]⟩ m 1 = ts2 m (u - 20)) := ts_fix2 m (u - 20) hm1 (by omega)
  unfold cT at HC0 HC1
  have HCH2 : Hid (∀ (w : World) (p f r : Nat), KIn w p f r (ts2 m (u - 20)) → ∀ x, ofK (ts2 m (u - 20)) cT (tsC n) d = x → Calls Try.prog 11 #[.string ⟨#[116]⟩, .iface 56 (.agg #[.int .i64 n, .iface 54 (.agg #[.iface 52 (.agg #[.iface 50 (.agg #[.string ⟨#[120]⟩]), .iface 52 (.agg #[.iface 50 (.agg #[.string ⟨#[121]⟩]), .iface 50 (.agg #[.string ⟨#[120]⟩])])]), .iface 24 (.agg #[.string ⟨#[117, 115, 100]⟩]), .iface 34 (.agg #[.iface 24 (.agg #[.string ⟨#[101, 117, 114]⟩])])])]), .int .i64 d, .pointer (some ⟨p, 0, none⟩)] w (OfIn w x)) := HC2.out
  have ho : n ≤ d := by omega
  have hmo : m = d := by omega
  clear hor
  have HFK : Hid (∀ s : ByteArray, s.size ≤ 10 → fixOk (s, m)) := fun s hs => ⟨Nat.le_trans hs (by decide), by omega, by omega⟩
  clear HC2 hm
  go_enter Try.func4, Try.ntmps4
  go_wp2_with fail
  refine calls_same (HWA.out _) ?_
  go_wp2_with fail
  refine calls_same (HWB.out _) ?_
  go_wp2_with fail
  refine calls_same (HWC.out _) ?_
  go_wp2_with fail
  have HA1 := hidC (below_alloc (Below.refl w.heap.size w) (.cells #[.iface 50 (.agg #[.string ⟨#[120]⟩]), .iface 52 (.agg #[.iface 50 (.agg #[.string ⟨#[121]⟩]), .iface 50 (.agg #[.string ⟨#[120]⟩])])] 52))
  have HA2 := hidC (below_alloc HA1.out (.cells #[.int .i64 n, .iface 54 (.agg #[.iface 52 (.agg #[.iface 50 (.agg #[.string ⟨#[120]⟩]), .iface 52 (.agg #[.iface 50 (.agg #[.string ⟨#[121]⟩]), .iface 50 (.agg #[.string ⟨#[120]⟩])])]), .iface 24 (.agg #[.string ⟨#[117, 115, 100]⟩]), .iface 34 (.agg #[.iface 24 (.agg #[.string ⟨#[101, 117, 114]⟩])])])] 56))
  have HT0 := hidC (heap_alloc_new (w.alloc (.cells #[.iface 50 (.agg #[.string ⟨#[120]⟩]), .iface 52 (.agg #[.iface 50 (.agg #[.string ⟨#[121]⟩]), .iface 50 (.agg #[.string ⟨#[120]⟩])])] 52)) (.cells #[.int .i64 n, .iface 54 (.agg #[.iface 52 (.agg #[.iface 50 (.agg #[.string ⟨#[120]⟩]), .iface 52 (.agg #[.iface 50 (.agg #[.string ⟨#[121]⟩]), .iface 50 (.agg #[.string ⟨#[120]⟩])])]), .iface 24 (.agg #[.string ⟨#[117, 115, 100]⟩]), .iface 34 (.agg #[.iface 24 (.agg #[.string ⟨#[101, 117, 114]⟩])])])] 56))
  have hsz : (w.alloc (.cells #[.iface 50 (.agg #[.string ⟨#[120]⟩]), .iface 52 (.agg #[.iface 50 (.agg #[.string ⟨#[121]⟩]), .iface 50 (.agg #[.string ⟨#[120]⟩])])] 52)).heap.size = w.heap.size + 1 := size_alloc _ _
  rw [hsz] at HT0
  clear hsz
  have HA2' := hidC HA2.out
  clear HA1 HA2
  generalize (w.alloc (.cells #[.iface 50 (.agg #[.string ⟨#[120]⟩]), .iface 52 (.agg #[.iface 50 (.agg #[.string ⟨#[121]⟩]), .iface 50 (.agg #[.string ⟨#[120]⟩])])] 52)).alloc (.cells #[.int .i64 n, .iface 54 (.agg #[.iface 52 (.agg #[.iface 50 (.agg #[.string ⟨#[120]⟩]), .iface 52 (.agg #[.iface 50 (.agg #[.string ⟨#[121]⟩]), .iface 50 (.agg #[.string ⟨#[120]⟩])])]), .iface 24 (.agg #[.string ⟨#[117, 115, 100]⟩]), .iface 34 (.agg #[.iface 24 (.agg #[.string ⟨#[101, 117, 114]⟩])])])] 56) = V at *
  refine (new_in' V).mono ?_
  rintro e1 w1 ⟨b, f, c, rfl, hi⟩
  have HI : Hid (In V w1 b f c ⟨[], []⟩) := hi
  clear hi
  have HT : Hid (∀ w', Below V.heap.size V w' → w'.cell? ⟨w.heap.size + 1, 0, none⟩ = some (.int .i64 n) ∧ w'.cell? ⟨w.heap.size + 1, 1, none⟩ = some (.iface 54 (.agg #[.iface 52 (.agg #[.iface 50 (.agg #[.string ⟨#[120]⟩]), .iface 52 (.agg #[.iface 50 (.agg #[.string ⟨#[121]⟩]), .iface 50 (.agg #[.string ⟨#[120]⟩])])]), .iface 24 (.agg #[.string ⟨#[117, 115, 100]⟩]), .iface 34 (.agg #[.iface 24 (.agg #[.string ⟨#[101, 117, 114]⟩])])]))) := fun w' hw' => by
    have hx := (hw'.block _ (Array.getElem?_eq_some_iff.1 HT0.out).1).trans HT0.out
    exact ⟨cell_of_row _ _ 0 _ _ _ hx, cell_of_row _ _ 1 _ _ _ hx⟩
  obtain ⟨t0, t1⟩ := HT.out w1 HI.out.below
  subst hmo
  go_wp2_with fail
  clear t0 t1
  refine (HC0.out w1 b f c HI.out.kin).mono ?_
  rintro e2 w2 ⟨ao, cap, bo, cap2, rfl, h1, h2, hb⟩
  have HI2 := hidC (HI.out.step hb)
  have HW2 := hidC h2
  clear h1 h2 hb HC0
  simp only [List.length_cons, List.length_nil]
  go_wp2_with fail
  have HB2 := hidC (below_alloc (Below.refl w2.heap.size w2) (.cells #[.bool false, .string ⟨#[120]⟩, .string ⟨#[]⟩, .int .i64 m, .int .i64 0, .bool false, .string ⟨#[121]⟩, .string ⟨#[]⟩, .int .i64 m, .int .i64 0] 43))
  have HN2 := hidC (wts_blk (l := [nameW m sX, nameW m sY]) (heap_alloc_new w2 (.cells #[.bool false, .string ⟨#[120]⟩, .string ⟨#[]⟩, .int .i64 m, .int .i64 0, .bool false, .string ⟨#[121]⟩, .string ⟨#[]⟩, .int .i64 m, .int .i64 0] 43)))
  have HI2b := hidC (HI2.out.step HB2.out)
  refine (sameW_any _ bo _ cap2 2 [nameW m sX, nameW m sY] [nameW m sX, nameW m sY] (HW2.out.below HB2.out) HN2.out (by simp) (by simp)).mono ?_
  rintro e3 w3 ⟨rfl, hb3⟩
  have HI3 := hidC (HI2b.out.step hb3)
  clear hb3 HB2 HN2 HI2b HI2 HW2
  rw [decide_eq_true rfl]
  go_wp2_with fail
  refine (fix_in HI3.out ⟨#[120]⟩ m (u - 20) (HFK.out _ (by decide)) 0 _ HF1.out.1 HF1.out.2).mono ?_
  rintro e4 w4 ⟨rfl, hi⟩
  have HI4 := hidC hi
  obtain ⟨t0, t1⟩ := HT.out w4 HI4.out.below
  clear hi HI3
  go_wp2_with fail
  clear t0 t1
  refine (HC1.out w4 b f c HI4.out.kin).mono ?_
  rintro e5 w5 ⟨ao5, cap5, bo5, cap6, rfl, h1, h2, hb⟩
  have HI5 := hidC (HI4.out.step hb)
  have HW5 := hidC h2
  clear h1 h2 hb HC1
  simp only [List.length_cons, List.length_nil]
  go_wp2_with fail
  have HB5 := hidC (below_alloc (Below.refl w5.heap.size w5) (.cells #[.bool false, .string ⟨#[121]⟩, .string ⟨#[]⟩, .int .i64 m, .int .i64 0] 43))
  have HN5 := hidC (wts_blk (l := [nameW m sY]) (heap_alloc_new w5 (.cells #[.bool false, .string ⟨#[121]⟩, .string ⟨#[]⟩, .int .i64 m, .int .i64 0] 43)))
  have HI5b := hidC (HI5.out.step HB5.out)
  refine (sameW_any _ bo5 _ cap6 1 [nameW m sY] [nameW m sY] (HW5.out.below HB5.out) HN5.out (by simp) (by simp)).mono ?_
  rintro e6 w6 ⟨rfl, hb6⟩
  have HI6 := hidC (HI5b.out.step hb6)
  clear hb6 HB5 HN5 HI5b HI5 HW5
  rw [decide_eq_true rfl]
  go_wp2_with fail
  refine (fix_in HI6.out ⟨#[121]⟩ m 1 (HFK.out _ (by decide)) 0 _ HF2.out.1 HF2.out.2).mono ?_
  rintro e7 w7 ⟨rfl, hi⟩
  have HI7 := hidC hi
  obtain ⟨t0, t1⟩ := HT.out w7 HI7.out.below
  clear hi HI6
  by_cases hp : 0 < (u - 20) + (1 + (u - 20))
  · have HOF := hidC (HCH2.out w7 b f c HI7.out.kin _ (HOF2.out.1 hp))
    have hp2 : 0 < 2 * (u - 20) + 1 := by omega
    clear hp
    go_wp2_with fail
    clear t0 t1
    refine HOF.out.mono ?_
    rintro e8 w8 ⟨ao6, cap6, bo6, cap7, rfl, h1, h2, hb⟩
    have HI8 := hidC (HI7.out.step hb)
    obtain ⟨g6, rfl, hg6, f0, f1, f2⟩ := h1 0 _ rfl
    have f1' : w8.cell? ⟨g6, 1, none⟩ = some (.string ⟨#[117, 115, 100]⟩) := f1
    have f2' : w8.cell? ⟨g6, 2, none⟩ = some (.int .i64 1) := f2
    simp only [Nat.zero_mul] at f0
    clear h1 h2 hb f1 f2 HOF HI7
    simp only [List.length_cons, List.length_nil]
    go_wp2_with fail
    have HA2 := hidC (below_alloc (Below.refl w8.heap.size w8) (.cells #[.int .i64 m, .string ⟨#[117, 115, 100]⟩, .int .i64 1] 46))
    have HX := hidC (heap_alloc_new w8 (.cells #[.int .i64 m, .string ⟨#[117, 115, 100]⟩, .int .i64 1] 46))
    have f0b := (HA2.out.cell (p := ⟨g6, 0, none⟩) hg6).trans f0
    have f1b := (HA2.out.cell (p := ⟨g6, 1, none⟩) hg6).trans f1'
    have f2b := (HA2.out.cell (p := ⟨g6, 2, none⟩) hg6).trans f2'
    have HBB := hidC (HI8.out.below.trans (HA2.out.mono HI8.out.below.size))
    have hg7 : g6 < (w8.alloc (.cells #[.int .i64 m, .string ⟨#[117, 115, 100]⟩, .int .i64 1] 46)).heap.size := Nat.lt_of_lt_of_le hg6 HA2.out.size
    generalize w8.alloc (.cells #[.int .i64 m, .string ⟨#[117, 115, 100]⟩, .int .i64 1] 46) = X at *
    have HFC : Hid (∀ w', Below X.heap.size X w' → w'.cell? ⟨g6, 0, none⟩ = some (.int .i64 m) ∧ w'.cell? ⟨g6, 1, none⟩ = some (.string ⟨#[117, 115, 100]⟩) ∧ w'.cell? ⟨g6, 2, none⟩ = some (.int .i64 1) ∧ w'.cell? ⟨w8.heap.size, 0, none⟩ = some (.int .i64 m) ∧ w'.cell? ⟨w8.heap.size, 1, none⟩ = some (.string ⟨#[117, 115, 100]⟩) ∧ w'.cell? ⟨w8.heap.size, 2, none⟩ = some (.int .i64 1)) := fun w' hw' => by
      have hc := fun o => hw'.cell (p := ⟨g6, o, none⟩) hg7
      have hx := (hw'.block _ (Array.getElem?_eq_some_iff.1 HX.out).1).trans HX.out
      exact ⟨(hc _).trans f0b, (hc _).trans f1b, (hc _).trans f2b, cell_of_row _ _ 0 _ _ _ hx, cell_of_row _ _ 1 _ _ _ hx, cell_of_row _ _ 2 _ _ _ hx⟩
    have HC0 := hidC (below_drew (Below.refl X.heap.size X))
    clear f0b f1b f2b f0 f1' f2' HX HA2
    refine Mx.wp_region_mix (fun w' => Below X.heap.size X w') [(0, false), (1, false), (2, false), (3, false), (4, false), (5, false), (6, false), (7, false), (8, false), (9, false), (10, false), (11, false), (12, false), (13, false), (14, false), (15, false), (16, false), (17, false), (18, false), (19, false), (20, true), (21, false), (22, false)] (by kernel_rfl) (by kernel_rfl) HC0.out ?_ (by kernel_rfl)
    simp only [List.map_cons, List.map_nil, List.getD_cons_zero, List.getD_cons_succ]
    generalize hops : (#[_, _, _, _, _, _, _, _, _, _, _, _, _, _, _, _, _, _, _, _, _, _, _] : Array Oper) = ops
    have HD2 : Hid ((ops[2]?).bind (·.dst) = some 125) := by rw [← hops]; exact rfl
    have HD7 : Hid ((ops[7]?).bind (·.dst) = some 130) := by rw [← hops]; exact rfl
    have HD12 : Hid ((ops[12]?).bind (·.dst) = some 135) := by rw [← hops]; exact rfl
    have HD19 : Hid ((ops[19]?).bind (·.dst) = some 142) := by rw [← hops]; exact rfl
    clear hops
    refine Mx.m_pure (.int .i64 0) (Mx.wanted_none rfl) (fun w' hw' => ?_) ?_
    · go_simp
    simp only [Act.put, List.setIfInBounds_toArray, List.set_cons_zero, List.set_cons_succ]
    refine Mx.m_pure (.bool true) (Mx.wanted_none rfl) (fun w' hw' => ?_) ?_
    · go_simp
    simp only [Act.put, List.setIfInBounds_toArray, List.set_cons_zero, List.set_cons_succ]
    refine Mx.m_pure (.bool true) (Mx.wanted_none rfl) (fun w' hw' => ?_) ?_
    · go_simp
    simp only [Act.put, List.setIfInBounds_toArray, List.set_cons_zero, List.set_cons_succ]
    refine Mx.m_pure (.slice bo6 0 cap7) (Mx.wanted_met 2 125 true rfl HD2.out rfl) (fun w' hw' => ?_) ?_
    · go_simp
    simp only [Act.put, List.setIfInBounds_toArray, List.set_cons_zero, List.set_cons_succ]
    refine Mx.m_pure (.int .i64 0) (Mx.wanted_met 2 125 true rfl HD2.out rfl) (fun w' hw' => ?_) ?_
    · go_simp
    simp only [Act.put, List.setIfInBounds_toArray, List.set_cons_zero, List.set_cons_succ]
    refine Mx.m_pure (.bool true) (Mx.wanted_met 2 125 true rfl HD2.out rfl) (fun w' hw' => ?_) ?_
    · go_simp
    simp only [Act.put, List.setIfInBounds_toArray, List.set_cons_zero, List.set_cons_succ]
    refine Mx.m_pure (.bool true) (Mx.wanted_none rfl) (fun w' hw' => ?_) ?_
    · go_simp
    simp only [Act.put, List.setIfInBounds_toArray, List.set_cons_zero, List.set_cons_succ]
    refine Mx.m_pure (.bool true) (Mx.wanted_none rfl) (fun w' hw' => ?_) ?_
    · go_simp
    simp only [Act.put, List.setIfInBounds_toArray, List.set_cons_zero, List.set_cons_succ]
    refine Mx.m_pure (.slice (some ⟨g6, 0, none⟩) 1 cap6) (Mx.wanted_met 7 130 true rfl HD7.out rfl) (fun w' hw' => ?_) ?_
    · go_simp
    simp only [Act.put, List.setIfInBounds_toArray, List.set_cons_zero, List.set_cons_succ]
    refine Mx.m_pure (.int .i64 1) (Mx.wanted_met 7 130 true rfl HD7.out rfl) (fun w' hw' => ?_) ?_
    · go_simp
    simp only [Act.put, List.setIfInBounds_toArray, List.set_cons_zero, List.set_cons_succ]
    refine Mx.m_pure (.bool true) (Mx.wanted_met 7 130 true rfl HD7.out rfl) (fun w' hw' => ?_) ?_
    · go_simp
    simp only [Act.put, List.setIfInBounds_toArray, List.set_cons_zero, List.set_cons_succ]
    refine Mx.m_pure (.bool true) (Mx.wanted_none rfl) (fun w' hw' => ?_) ?_
    · go_simp
    simp only [Act.put, List.setIfInBounds_toArray, List.set_cons_zero, List.set_cons_succ]
    refine Mx.m_pure (.bool true) (Mx.wanted_none rfl) (fun w' hw' => ?_) ?_
    · go_simp
    simp only [Act.put, List.setIfInBounds_toArray, List.set_cons_zero, List.set_cons_succ]
    refine Mx.m_pure (.slice (some ⟨g6, 0, none⟩) 1 cap6) (Mx.wanted_met 12 135 true rfl HD12.out rfl) (fun w' hw' => ?_) ?_
    · go_simp
    simp only [Act.put, List.setIfInBounds_toArray, List.set_cons_zero, List.set_cons_succ]
    refine Mx.m_pure (.pointer (some ⟨g6, 0, none⟩)) (Mx.wanted_met 12 135 true rfl HD12.out rfl) (fun w' hw' => ?_) ?_
    · go_simp
    simp only [Act.put, List.setIfInBounds_toArray, List.set_cons_zero, List.set_cons_succ]
    refine Mx.m_pure (.agg #[.int .i64 m, .string ⟨#[117, 115, 100]⟩, .int .i64 1]) (Mx.wanted_met 12 135 true rfl HD12.out rfl) (fun w' hw' => ?_) ?_
    · obtain ⟨q0, q1, q2, q3, q4, q5⟩ := HFC.out w' hw'
      go_simp
    simp only [Act.put, List.setIfInBounds_toArray, List.set_cons_zero, List.set_cons_succ]
    refine Mx.m_pure (.agg #[.int .i64 m, .string ⟨#[117, 115, 100]⟩, .int .i64 1]) (Mx.wanted_met 12 135 true rfl HD12.out rfl) (fun w' hw' => ?_) ?_
    · obtain ⟨q0, q1, q2, q3, q4, q5⟩ := HFC.out w' hw'
      go_simp
    simp only [Act.put, List.setIfInBounds_toArray, List.set_cons_zero, List.set_cons_succ]
    refine Mx.m_pure (.bool true) (Mx.wanted_met 12 135 true rfl HD12.out rfl) (fun w' hw' => ?_) ?_
    · go_simp
    simp only [Act.put, List.setIfInBounds_toArray, List.set_cons_zero, List.set_cons_succ]
    refine Mx.m_pure (.bool true) (Mx.wanted_none rfl) (fun w' hw' => ?_) ?_
    · go_simp
    simp only [Act.put, List.setIfInBounds_toArray, List.set_cons_zero, List.set_cons_succ]
    refine Mx.m_pure (.bool true) (Mx.wanted_none rfl) (fun w' hw' => ?_) ?_
    · go_simp
    simp only [Act.put, List.setIfInBounds_toArray, List.set_cons_zero, List.set_cons_succ]
    refine Mx.m_call 13 #[] (Mx.wanted_met 19 142 true rfl HD19.out rfl) ?_ ?_
    · go_simp
    refine (wakes10_any _).mono ?_
    rintro e9 w9 ⟨rfl, hb9⟩
    have HB9 := hidC (HC0.out.trans (hb9.mono HC0.out.size))
    refine ⟨_, rfl, HB9.out, ?_⟩
    clear hb9
    simp only [Act.put, List.setIfInBounds_toArray, List.set_cons_zero, List.set_cons_succ]
    refine Mx.m_pure (.bool true) (Mx.wanted_none rfl) (fun w' hw' => ?_) ?_
    · go_simp
    simp only [Act.put, List.setIfInBounds_toArray, List.set_cons_zero, List.set_cons_succ]
    refine Mx.m_pure (.bool true) (Mx.wanted_none rfl) (fun w' hw' => ?_) ?_
    · go_simp
    simp only [Act.put, List.setIfInBounds_toArray, List.set_cons_zero, List.set_cons_succ]
    refine Mx.m_nil ?_
    intro _
    go_wp2_with fail
    go_ret
    have h9 : Below w.heap.size w w9 := HA2'.out.trans ((HBB.out.trans (HB9.out.mono HBB.out.size)).mono HA2'.out.size)
    exact ⟨rfl, h9⟩
  · have HOF := hidC (HCH2.out w7 b f c HI7.out.kin _ (HOF2.out.2 (by omega)))
    have hp2 : 2 * (u - 20) + 1 ≤ 0 := by omega
    clear hp
    go_wp2_with fail
    clear t0 t1
    refine HOF.out.mono ?_
    rintro e8 w8 ⟨ao6, cap6, bo6, cap7, rfl, h1, h2, hb⟩
    have HI8 := hidC (HI7.out.step hb)
    obtain ⟨g6, rfl, hg6, f0, f1, f2⟩ := h1 0 _ rfl
    have f1' : w8.cell? ⟨g6, 1, none⟩ = some (.string ⟨#[101, 117, 114]⟩) := f1
    have f2' : w8.cell? ⟨g6, 2, none⟩ = some (.int .i64 (-1)) := f2
    simp only [Nat.zero_mul] at f0
    clear h1 h2 hb f1 f2 HOF HI7
    simp only [List.length_cons, List.length_nil]
    go_wp2_with fail
    have HA2 := hidC (below_alloc (Below.refl w8.heap.size w8) (.cells #[.int .i64 m, .string ⟨#[101, 117, 114]⟩, .int .i64 (-1)] 46))
    have HX := hidC (heap_alloc_new w8 (.cells #[.int .i64 m, .string ⟨#[101, 117, 114]⟩, .int .i64 (-1)] 46))
    have f0b := (HA2.out.cell (p := ⟨g6, 0, none⟩) hg6).trans f0
    have f1b := (HA2.out.cell (p := ⟨g6, 1, none⟩) hg6).trans f1'
    have f2b := (HA2.out.cell (p := ⟨g6, 2, none⟩) hg6).trans f2'
    have HBB := hidC (HI8.out.below.trans (HA2.out.mono HI8.out.below.size))
    have hg7 : g6 < (w8.alloc (.cells #[.int .i64 m, .string ⟨#[101, 117, 114]⟩, .int .i64 (-1)] 46)).heap.size := Nat.lt_of_lt_of_le hg6 HA2.out.size
    generalize w8.alloc (.cells #[.int .i64 m, .string ⟨#[101, 117, 114]⟩, .int .i64 (-1)] 46) = X at *
    have HFC : Hid (∀ w', Below X.heap.size X w' → w'.cell? ⟨g6, 0, none⟩ = some (.int .i64 m) ∧ w'.cell? ⟨g6, 1, none⟩ = some (.string ⟨#[101, 117, 114]⟩) ∧ w'.cell? ⟨g6, 2, none⟩ = some (.int .i64 (-1)) ∧ w'.cell? ⟨w8.heap.size, 0, none⟩ = some (.int .i64 m) ∧ w'.cell? ⟨w8.heap.size, 1, none⟩ = some (.string ⟨#[101, 117, 114]⟩) ∧ w'.cell? ⟨w8.heap.size, 2, none⟩ = some (.int .i64 (-1))) := fun w' hw' => by
      have hc := fun o => hw'.cell (p := ⟨g6, o, none⟩) hg7
      have hx := (hw'.block _ (Array.getElem?_eq_some_iff.1 HX.out).1).trans HX.out
      exact ⟨(hc _).trans f0b, (hc _).trans f1b, (hc _).trans f2b, cell_of_row _ _ 0 _ _ _ hx, cell_of_row _ _ 1 _ _ _ hx, cell_of_row _ _ 2 _ _ _ hx⟩
    have HC0 := hidC (below_drew (Below.refl X.heap.size X))
    clear f0b f1b f2b f0 f1' f2' HX HA2
    refine Mx.wp_region_mix (fun w' => Below X.heap.size X w') [(0, false), (1, false), (2, false), (3, false), (4, false), (5, false), (6, false), (7, false), (8, false), (9, false), (10, false), (11, false), (12, false), (13, false), (14, false), (15, false), (16, false), (17, false), (18, false), (19, false), (20, true), (21, false), (22, false)] (by kernel_rfl) (by kernel_rfl) HC0.out ?_ (by kernel_rfl)
    simp only [List.map_cons, List.map_nil, List.getD_cons_zero, List.getD_cons_succ]
    generalize hops : (#[_, _, _, _, _, _, _, _, _, _, _, _, _, _, _, _, _, _, _, _, _, _, _] : Array Oper) = ops
    have HD2 : Hid ((ops[2]?).bind (·.dst) = some 125) := by rw [← hops]; exact rfl
    have HD7 : Hid ((ops[7]?).bind (·.dst) = some 130) := by rw [← hops]; exact rfl
    have HD12 : Hid ((ops[12]?).bind (·.dst) = some 135) := by rw [← hops]; exact rfl
    have HD19 : Hid ((ops[19]?).bind (·.dst) = some 142) := by rw [← hops]; exact rfl
    clear hops
    refine Mx.m_pure (.int .i64 0) (Mx.wanted_none rfl) (fun w' hw' => ?_) ?_
    · go_simp
    simp only [Act.put, List.setIfInBounds_toArray, List.set_cons_zero, List.set_cons_succ]
    refine Mx.m_pure (.bool true) (Mx.wanted_none rfl) (fun w' hw' => ?_) ?_
    · go_simp
    simp only [Act.put, List.setIfInBounds_toArray, List.set_cons_zero, List.set_cons_succ]
    refine Mx.m_pure (.bool true) (Mx.wanted_none rfl) (fun w' hw' => ?_) ?_
    · go_simp
    simp only [Act.put, List.setIfInBounds_toArray, List.set_cons_zero, List.set_cons_succ]
    refine Mx.m_pure (.slice bo6 0 cap7) (Mx.wanted_met 2 125 true rfl HD2.out rfl) (fun w' hw' => ?_) ?_
    · go_simp
    simp only [Act.put, List.setIfInBounds_toArray, List.set_cons_zero, List.set_cons_succ]
    refine Mx.m_pure (.int .i64 0) (Mx.wanted_met 2 125 true rfl HD2.out rfl) (fun w' hw' => ?_) ?_
    · go_simp
    simp only [Act.put, List.setIfInBounds_toArray, List.set_cons_zero, List.set_cons_succ]
    refine Mx.m_pure (.bool true) (Mx.wanted_met 2 125 true rfl HD2.out rfl) (fun w' hw' => ?_) ?_
    · go_simp
    simp only [Act.put, List.setIfInBounds_toArray, List.set_cons_zero, List.set_cons_succ]
    refine Mx.m_pure (.bool true) (Mx.wanted_none rfl) (fun w' hw' => ?_) ?_
    · go_simp
    simp only [Act.put, List.setIfInBounds_toArray, List.set_cons_zero, List.set_cons_succ]
    refine Mx.m_pure (.bool true) (Mx.wanted_none rfl) (fun w' hw' => ?_) ?_
    · go_simp
    simp only [Act.put, List.setIfInBounds_toArray, List.set_cons_zero, List.set_cons_succ]
    refine Mx.m_pure (.slice (some ⟨g6, 0, none⟩) 1 cap6) (Mx.wanted_met 7 130 true rfl HD7.out rfl) (fun w' hw' => ?_) ?_
    · go_simp
    simp only [Act.put, List.setIfInBounds_toArray, List.set_cons_zero, List.set_cons_succ]
    refine Mx.m_pure (.int .i64 1) (Mx.wanted_met 7 130 true rfl HD7.out rfl) (fun w' hw' => ?_) ?_
    · go_simp
    simp only [Act.put, List.setIfInBounds_toArray, List.set_cons_zero, List.set_cons_succ]
    refine Mx.m_pure (.bool true) (Mx.wanted_met 7 130 true rfl HD7.out rfl) (fun w' hw' => ?_) ?_
    · go_simp
    simp only [Act.put, List.setIfInBounds_toArray, List.set_cons_zero, List.set_cons_succ]
    refine Mx.m_pure (.bool true) (Mx.wanted_none rfl) (fun w' hw' => ?_) ?_
    · go_simp
    simp only [Act.put, List.setIfInBounds_toArray, List.set_cons_zero, List.set_cons_succ]
    refine Mx.m_pure (.bool true) (Mx.wanted_none rfl) (fun w' hw' => ?_) ?_
    · go_simp
    simp only [Act.put, List.setIfInBounds_toArray, List.set_cons_zero, List.set_cons_succ]
    refine Mx.m_pure (.slice (some ⟨g6, 0, none⟩) 1 cap6) (Mx.wanted_met 12 135 true rfl HD12.out rfl) (fun w' hw' => ?_) ?_
    · go_simp
    simp only [Act.put, List.setIfInBounds_toArray, List.set_cons_zero, List.set_cons_succ]
    refine Mx.m_pure (.pointer (some ⟨g6, 0, none⟩)) (Mx.wanted_met 12 135 true rfl HD12.out rfl) (fun w' hw' => ?_) ?_
    · go_simp
    simp only [Act.put, List.setIfInBounds_toArray, List.set_cons_zero, List.set_cons_succ]
    refine Mx.m_pure (.agg #[.int .i64 m, .string ⟨#[101, 117, 114]⟩, .int .i64 (-1)]) (Mx.wanted_met 12 135 true rfl HD12.out rfl) (fun w' hw' => ?_) ?_
    · obtain ⟨q0, q1, q2, q3, q4, q5⟩ := HFC.out w' hw'
      go_simp
    simp only [Act.put, List.setIfInBounds_toArray, List.set_cons_zero, List.set_cons_succ]
    refine Mx.m_pure (.agg #[.int .i64 m, .string ⟨#[101, 117, 114]⟩, .int .i64 (-1)]) (Mx.wanted_met 12 135 true rfl HD12.out rfl) (fun w' hw' => ?_) ?_
    · obtain ⟨q0, q1, q2, q3, q4, q5⟩ := HFC.out w' hw'
      go_simp
    simp only [Act.put, List.setIfInBounds_toArray, List.set_cons_zero, List.set_cons_succ]
    refine Mx.m_pure (.bool true) (Mx.wanted_met 12 135 true rfl HD12.out rfl) (fun w' hw' => ?_) ?_
    · go_simp
    simp only [Act.put, List.setIfInBounds_toArray, List.set_cons_zero, List.set_cons_succ]
    refine Mx.m_pure (.bool true) (Mx.wanted_none rfl) (fun w' hw' => ?_) ?_
    · go_simp
    simp only [Act.put, List.setIfInBounds_toArray, List.set_cons_zero, List.set_cons_succ]
    refine Mx.m_pure (.bool true) (Mx.wanted_none rfl) (fun w' hw' => ?_) ?_
    · go_simp
    simp only [Act.put, List.setIfInBounds_toArray, List.set_cons_zero, List.set_cons_succ]
    refine Mx.m_call 13 #[] (Mx.wanted_met 19 142 true rfl HD19.out rfl) ?_ ?_
    · go_simp
    refine (wakes10_any _).mono ?_
    rintro e9 w9 ⟨rfl, hb9⟩
    have HB9 := hidC (HC0.out.trans (hb9.mono HC0.out.size))
    refine ⟨_, rfl, HB9.out, ?_⟩
    clear hb9
    simp only [Act.put, List.setIfInBounds_toArray, List.set_cons_zero, List.set_cons_succ]
    refine Mx.m_pure (.bool true) (Mx.wanted_none rfl) (fun w' hw' => ?_) ?_
    · go_simp
    simp only [Act.put, List.setIfInBounds_toArray, List.set_cons_zero, List.set_cons_succ]
    refine Mx.m_pure (.bool true) (Mx.wanted_none rfl) (fun w' hw' => ?_) ?_
    · go_simp
    simp only [Act.put, List.setIfInBounds_toArray, List.set_cons_zero, List.set_cons_succ]
    refine Mx.m_nil ?_
    intro _
    go_wp2_with fail
    go_ret
    have h9 : Below w.heap.size w w9 := HA2'.out.trans ((HBB.out.trans (HB9.out.mono HBB.out.size)).mono HA2'.out.size)
    exact ⟨rfl, h9⟩

end Go.Proofs.Ytngjlkdpplmpaaa.Ca
namespace Go.Proofs.Ytngjlkdpplmpaaa.Ca
open Go.RowKit
theorem tests_walk (day when v0 : Int) (w : World) (a1 : -9223372036854775808 ≤ day) (a2 : day ≤ 9223372036854775807) (b1 : -9223372036854775808 ≤ when) (b2 : when ≤ 9223372036854775807) (c1 : -9223372036854775808 ≤ v0) (c2 : v0 ≤ 9223372036854775807) :
    Calls Try.prog 4 #[.int .i64 day, .int .i64 when, .int .i64 v0] w fun e w' => e = .returned (.bool true) ∧ Below w.heap.size w w' := by
  rcases Int.lt_or_le (day % 50) (when % 100) with h | h
  · exact tests1 day when v0 w a1 a2 b1 b2 c1 c2 h
  · exact tests2 day when v0 w a1 a2 b1 b2 c1 c2 h

end Go.Proofs.Ytngjlkdpplmpaaa.Ca
