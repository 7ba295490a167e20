/- What walks a contract with a function at hand: whatever that function keeps. -/
import Derived.Test.YtkioolbjmcpjpaaGreatDoorTermOpen
import Derived.Shelf.Abstract
namespace Go.Proofs.YtkioolbjmcpjpaaGreatDoor
open Go.RowKit
set_option linter.unusedVariables false

/-- Nothing has turned but what is owned, and what is new. -/
structure Dyn (own : Nat → Prop) (w : World) (own' : Nat → Prop) (w' : World) : Prop where
  os : w'.os = w.os
  tape : w'.tape = w.tape
  output : w'.output = w.output
  size : w.heap.size ≤ w'.heap.size
  block : ∀ k, k < w.heap.size → ¬ own k → w'.heap[k]? = w.heap[k]?
  owned : ∀ k, own' k → own k ∨ w.heap.size ≤ k
theorem hidIn {p : Prop} (h : p) : Hid p := h
theorem Dyn.refl (own : Nat → Prop) (w : World) : Dyn own w own w := ⟨rfl, rfl, rfl, Nat.le_refl _, fun _ _ _ => rfl, fun _ h => .inl h⟩
theorem Dyn.of_below {own : Nat → Prop} {w w' : World} (h : Below w.heap.size w w') : Dyn own w own w' := ⟨h.os, h.tape, h.output, h.size, fun k hk _ => h.block k hk, fun _ h => .inl h⟩
theorem Dyn.trans {o1 o2 o3 : Nat → Prop} {u v w : World} (h : Dyn o1 u o2 v) (g : Dyn o2 v o3 w) : Dyn o1 u o3 w :=
  ⟨g.os.trans h.os, g.tape.trans h.tape, g.output.trans h.output, Nat.le_trans h.size g.size,
    fun k hk hn => (g.block k (Nat.lt_of_lt_of_le hk h.size) (fun e => by rcases h.owned k e with e | e; exact hn e; omega)).trans (h.block k hk hn),
    fun k hk => by
      rcases g.owned k hk with e | e
      · exact h.owned k e
      · have := h.size; exact .inr (by omega)⟩
theorem Dyn.below {o1 o2 : Nat → Prop} {w w' : World} {B : Nat} (h : Dyn o1 w o2 w') (hB : B ≤ w.heap.size) (ho : ∀ k, o1 k → B ≤ k) : Below B w w' :=
  ⟨h.os, h.tape, h.output, h.size, fun k hk => h.block k (by omega) (fun e => by have := ho k e; omega)⟩
theorem HasTerm.dyn {w w' : World} {a : Option Addr} {l : List C} {o1 o2 : Nat → Prop} (h : HasTerm w a l) (hg : Dyn o1 w o2 w') (hn : ∀ b o s, a = some ⟨b, o, s⟩ → ¬ o1 b) : HasTerm w' a l := by
  intro i o hi
  obtain ⟨b, e, hc⟩ := h i o hi
  refine ⟨b, e, ?_⟩
  have hb := hg.block b (World.block_lt_of_cell? w _ hc) (hn b 0 none e)
  simp only [World.cell?, hb] at hc ⊢
  exact hc

/-- What a contract asks at itself. -/
def C.own (c : C) : Nat := sumN c.nums + 1
/-- What a contract asks in all. -/
def C.weight : C → Nat
  | .give c => c.weight + 1
  | .and l r => l.weight + r.weight + 1
  | .or _ l r => l.weight + r.weight + 1
  | .scale o c => o.nodes + c.weight + 1
  | .when _ c => c.weight + 1
  | .iff o l r => o.nodes + l.weight + r.weight + 1
  | _ => 1
def weightL : List C → Nat
  | [] => 0
  | k :: ks => k.weight + weightL ks
theorem weight_kids (c : C) : c.weight = c.own + weightL c.kids := by
  cases c <;> simp [C.weight, C.own, C.kids, C.nums, weightL, sumN] <;> omega
theorem weightL_snoc (l : List C) (k : C) : weightL (l ++ [k]) = weightL l + k.weight := by
  induction l with
  | nil => simp [weightL]
  | cons a l ih => simp [weightL, ih]; omega
theorem weightL_take (l : List C) (i : Nat) : weightL (l.take i) ≤ weightL l := by
  induction l generalizing i with
  | nil => simp [weightL]
  | cons a l ih => cases i with
    | zero => simp [weightL]
    | succ i => simp [weightL]; exact ih i
/-- A contract and all that stands in it, in the order of a walk. -/
def C.pre : C → List C
  | .give c => .give c :: c.pre
  | .and l r => .and l r :: (l.pre ++ r.pre)
  | .or s l r => .or s l r :: (l.pre ++ r.pre)
  | .scale o c => .scale o c :: c.pre
  | .when d c => .when d c :: c.pre
  | .iff o l r => .iff o l r :: (l.pre ++ r.pre)
  | c => [c]
def preL : List C → List C
  | [] => []
  | k :: ks => k.pre ++ preL ks
theorem pre_kids (c : C) : c.pre = c :: preL c.kids := by
  cases c <;> simp [C.pre, C.kids, preL]
theorem preL_snoc (l : List C) (k : C) : preL (l ++ [k]) = preL l ++ k.pre := by
  induction l with
  | nil => simp [preL]
  | cons a l ih => simp [preL, ih]

/-- What is known of a function that a walk is handed: what it keeps, what it does at a contract. -/
structure Shows {S : Type} (k : Nat) (caps : Array Value) (Inv : (Nat → Prop) → S → World → Prop) (step : S → C → S) (size : S → Nat) : Prop where
  enters : ∀ (args : Array Value) (w : World), (callFunc k args).run Tryz.prog w = .ok (.enter k args) w
  stays : ∀ own st w w', Inv own st w → Below w.heap.size w w' → Inv own st w'
  old : ∀ own st w, Inv own st w → ∀ b, own b → b < w.heap.size
  grows : ∀ st c, size (step st c) ≤ size st + c.own
  call : ∀ own st w (c : C) (a : Option Addr), Inv own st w → c.Ok → HasObs w a c.nums → (∀ b o s, a = some ⟨b, o, s⟩ → ¬ own b) → size st + c.own ≤ 1000000 →
    Calls Tryz.prog k (#[headT c, .slice a c.nums.length c.nums.length] ++ caps) w fun e w' => e = .returned (.tuple #[]) ∧ ∃ own', Inv own' (step st c) w' ∧ Dyn own w own' w'
theorem Shows.fold_size {S : Type} {k : Nat} {caps : Array Value} {Inv : (Nat → Prop) → S → World → Prop} {step : S → C → S} {size : S → Nat} (h : Shows k caps Inv step size) : ∀ (c : C) (st : S), size (c.pre.foldl step st) ≤ size st + c.weight := by
  have hl : ∀ (l : List C) (st : S), (∀ c ∈ l, ∀ st : S, size (c.pre.foldl step st) ≤ size st + c.weight) → size ((preL l).foldl step st) ≤ size st + weightL l := by
    intro l
    induction l with
    | nil => intro st _; simp [preL, weightL]
    | cons a l ih =>
      intro st hm
      have h1 := hm a (by simp) st
      have h2 := ih (a.pre.foldl step st) (fun c hc => hm c (by simp [hc]))
      simp only [preL, List.foldl_append, weightL]
      omega
  intro c
  induction c using C.ind with
  | _ c ih =>
    intro st
    have h1 := h.grows st c
    have h2 := hl c.kids (step st c) ih
    rw [pre_kids, weight_kids, List.foldl_cons]
    omega

set_option maxHeartbeats 2000000 in
set_option maxRecDepth 100000 in
theorem walk_any {S : Type} {f : Nat} {caps : Array Value} {Inv : (Nat → Prop) → S → World → Prop} {step : S → C → S} {size : S → Nat} (hS : Shows f caps Inv step size) (c : C) : c.Ok → ∀ (own : Nat → Prop) (st : S) (w : World), Inv own st w → size st + c.weight ≤ 1000000 →
    Calls Tryz.prog 122 #[c.val, .func (.func f) #[] caps] w fun e w' => e = .returned (.tuple #[]) ∧ ∃ own', Inv own' (c.pre.foldl step st) w' ∧ Dyn own w own' w' := by
  induction c using C.ind with
  | _ c ih =>
  intro hok own st w hinv hsz
  have HIH : Hid (∀ k ∈ c.kids, ∀ (own : Nat → Prop) (st : S) (w : World), Inv own st w → size st + k.weight ≤ 1000000 → Calls Tryz.prog 122 #[k.val, .func (.func f) #[] caps] w fun e w' => e = .returned (.tuple #[]) ∧ ∃ own', Inv own' (k.pre.foldl step st) w' ∧ Dyn own w own' w') :=
    fun k hk => ih k hk (hok.kid hk)
  clear ih
  have h2 := c.kids_two
  have HW : Hid (c.weight = c.own + weightL c.kids) := weight_kids c
  have HSZ : Hid (size st + c.weight ≤ 1000000) := hsz
  have HI : Hid (Inv own st w) := hinv
  have HS : Hid (Shows f caps Inv step size) := hS
  have HOK : Hid c.Ok := hok
  have HPRE : Hid (c.pre = c :: preL c.kids) := pre_kids c
  clear hinv hsz hS
  go_enter Tryz.func122, Tryz.ntmps122
  go_wp2_with fail
  refine (openT_any c w hok).mono ?_
  rintro e w1 ⟨a, b, rfl, hn, hk, hna, hnb, hb1⟩
  have HN : Hid (HasObs w1 a c.nums) := hn
  have HK : Hid (HasTerm w1 b c.kids) := hk
  have HNA : Hid (∀ k x s, a = some ⟨k, x, s⟩ → w.heap.size ≤ k) := hna
  have HNB : Hid (∀ k x s, b = some ⟨k, x, s⟩ → w.heap.size ≤ k) := hnb
  have HB1 : Hid (Below w.heap.size w w1) := hb1
  clear hn hk hna hnb hb1 hok
  have hent := HS.out.enters
  obtain ⟨W, hW⟩ : ∃ W, W = w1.alloc (.cells #[.int .i64 c.kind, .string c.text, .int .i64 c.day] 209) := ⟨_, rfl⟩
  have HBW : Hid (Below w.heap.size w W) := by rw [hW]; exact below_alloc HB1.out _
  have HBW1 : Hid (Below w1.heap.size w1 W) := by rw [hW]; exact below_alloc (Below.refl _ _) _
  have HOLD : Hid (∀ k, own k → k < w.heap.size) := HS.out.old own st w HI.out
  have HC := HS.out.call own st W c a (HS.out.stays _ _ _ _ HI.out HBW.out) HOK.out (HN.out.below HBW1.out) (fun k x s e ho => by have := HNA.out k x s e; have := HOLD.out k ho; omega) (by have := HW.out; have := HSZ.out; omega)
  have HCC := hidIn HC
  clear HC
  unfold headT at HCC ⊢
  go_wp2_with fail
  rw [← hW]
  refine HCC.out.mono ?_
  rintro e w2 ⟨rfl, own2, hi2, hd2⟩
  have HI2 : Hid (Inv own2 (step st c) w2) := hi2
  have HD2 : Hid (Dyn own w own2 w2) := (Dyn.of_below HBW.out).trans hd2
  have HNB2 : Hid (∀ k, b = some ⟨k, 0, none⟩ → k < w1.heap.size → ¬ own2 k) := fun k e hk ho => by
    rcases hd2.owned k ho with ho | ho
    · have := HNB.out k 0 none e
      have := HOLD.out k ho
      omega
    · have := HBW1.out.size
      omega
  have HK2 : Hid (HasTerm w2 b c.kids) := (HK.out.below HBW1.out).dyn hd2 (fun k x s e ho => by have := HNB.out k x s e; have := HOLD.out k ho; omega)
  have HSS : Hid (size (step st c) + weightL c.kids ≤ 1000000) := by
    have h1 := HS.out.grows st c
    have := HW.out
    have := HSZ.out
    show _ ≤ _
    omega
  have HFO : Hid (∀ (l : List C) (st : S), size ((preL l).foldl step st) ≤ size st + weightL l) := by
    intro l
    induction l with
    | nil => intro st; simp [preL, weightL]
    | cons x l ihl =>
      intro st
      have h1 := HS.out.fold_size x st
      have h2 := ihl (x.pre.foldl step st)
      simp only [preL, List.foldl_append, weightL]
      omega
  clear hi2 hd2 hent hW HCC HBW HNB HI HN HNA
  go_wp2_with fail
  go_loopw [21] (fun s21 wr => ∃ i : Nat, i ≤ c.kids.length ∧ s21 = .int .i64 i ∧ ∃ ownr, Inv ownr ((preL (c.kids.take i)).foldl step (step st c)) wr ∧ Dyn own w ownr wr ∧ HasTerm wr b c.kids ∧ ∀ k, b = some ⟨k, 0, none⟩ → k < w1.heap.size → ¬ ownr k) (fun s21 _ => c.kids.length - (intOf s21).toNat)
  case atStart => exact ⟨0, by omega, rfl, own2, HI2.out, HD2.out, HK2.out, HNB2.out⟩
  case round =>
    obtain ⟨i, hi, rfl, ownr, hir, hdr, hkr, hnr⟩ := hrel
    have HIR : Hid (Inv ownr ((preL (c.kids.take i)).foldl step (step st c)) wr) := hir
    have HDR : Hid (Dyn own w ownr wr) := hdr
    have HKR : Hid (HasTerm wr b c.kids) := hkr
    have HNR : Hid (∀ k, b = some ⟨k, 0, none⟩ → k < w1.heap.size → ¬ ownr k) := hnr
    clear hir hdr hkr hnr
    by_cases hlt : i < c.kids.length
    · have hlt' : (i : Int) < (c.kids.length : Int) := by omega
      obtain ⟨k, hki⟩ : ∃ k, c.kids[i]? = some k := ⟨_, List.getElem?_eq_getElem hlt⟩
      obtain ⟨p, e1, hc1⟩ := HK.out i k hki
      obtain ⟨q, e2, hc⟩ := HKR.out i k hki
      have hqp : q = p := by rw [e1] at e2; injection e2 with e2; injection e2 with e2; exact e2.symm
      subst hqp
      have HNP : Hid (¬ ownr q) := HNR.out q e2 (World.block_lt_of_cell? _ _ hc1)
      have HQ : Hid (q < w1.heap.size) := World.block_lt_of_cell? _ _ hc1
      have HQ2 : Hid (q < wr.heap.size) := World.block_lt_of_cell? _ _ hc
      have HM : Hid (k ∈ c.kids) := List.mem_of_getElem? hki
      have ht := take_more _ _ _ hki
      have HT : Hid ((preL (c.kids.take (i + 1))).foldl step (step st c) = k.pre.foldl step ((preL (c.kids.take i)).foldl step (step st c))) := by unfold Hid; rw [ht, preL_snoc, List.foldl_append]
      have HZ : Hid (size ((preL (c.kids.take i)).foldl step (step st c)) + k.weight ≤ 1000000) := by
        have h1 := HFO.out (c.kids.take i) (step st c)
        have h3 := weightL_take c.kids (i + 1)
        rw [ht, weightL_snoc] at h3
        have := HSS.out
        show _ ≤ _
        omega
      clear hki ht hc1 e1
      subst e2
      go_wp2_with fail
      refine (HIH.out k HM.out ownr _ wr HIR.out HZ.out).mono ?_
      rintro e w3 ⟨rfl, own3, hi3, hd3⟩
      have HI3 : Hid (Inv own3 ((preL (c.kids.take (i + 1))).foldl step (step st c)) w3) := by unfold Hid; rw [HT.out]; exact hi3
      have HD3 : Hid (Dyn own w own3 w3) := HDR.out.trans hd3
      have HK3 : Hid (HasTerm w3 (some ⟨q, 0, none⟩) c.kids) := HKR.out.dyn hd3 (fun k x s e ho => by cases e; exact HNP.out ho)
      have HN3 : Hid (∀ k, some (⟨q, 0, none⟩ : Addr) = some ⟨k, 0, none⟩ → k < w1.heap.size → ¬ own3 k) := fun k e _ ho => by
        cases e
        rcases hd3.owned q ho with ho | ho
        · exact HNP.out ho
        · have := HQ2.out; omega
      clear hi3 hd3 hc
      go_wp2_with fail
      go_roundw
      case rel => exact ⟨i + 1, by omega, by go_num, own3, HI3.out, HD3.out, HK3.out, HN3.out⟩
      case measure => simp [intOf]; omega
    · have hle : i = c.kids.length := by omega
      subst hle
      have HE : Hid (Inv ownr (c.pre.foldl step st) wr) := by
        have h := HIR.out
        rw [List.take_length] at h
        unfold Hid
        rw [HPRE.out, List.foldl_cons]
        exact h
      clear HIR
      go_wp2_with fail
      go_end0
      exact ⟨rfl, ownr, HE.out, HDR.out⟩

end Go.Proofs.YtkioolbjmcpjpaaGreatDoor
