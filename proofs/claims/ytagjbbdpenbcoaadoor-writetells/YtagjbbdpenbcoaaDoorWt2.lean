/- Whether two contracts are made alike: what package term answers. -/
import Derived.Test.YtagjbbdpenbcoaaDoorTermSize
import Derived.Test.YtagjbbdpenbcoaaDoorTermWalk
import Derived.Test.YtagjbbdpenbcoaaDoorWt1
import Derived.Test.YtagjbbdpenbcoaaDoorTermP
import Derived.Test.YtagjbbdpenbcoaaDoorRefO
import Derived.Test.YtagjbbdpenbcoaaDoorMaker
import Derived.Test.YtagjbbdpenbcoaaDoorPlainO2
import Derived.Test.YtagjbbdpenbcoaaDoorPlainC1
import Derived.Test.YtagjbbdpenbcoaaDoorPlainC2
import Derived.Test.YtagjbbdpenbcoaaDoorSize
import Derived.Test.YtagjbbdpenbcoaaDoorNumber
import Derived.Test.YtagjbbdpenbcoaaDoorWhole
namespace Go.Proofs.YtagjbbdpenbcoaaDoor
open Go.RowKit
set_option linter.unusedVariables false

def sameC : C → C → Bool
  | .zero, .zero => true
  | .one s, .one t => decide (s = t)
  | .give a, .give b => sameC a b
  | .and l r, .and x y => sameC l x && sameC r y
  | .or s l r, .or t x y => decide (s = t) && (sameC l x && sameC r y)
  | .scale o a, .scale p b => sameO o p && sameC a b
  | .when d a, .when e b => decide (d = e) && sameC a b
  | .iff o l r, .iff p x y => sameO o p && (sameC l x && sameC r y)
  | _, _ => false
def sameCL : List C → List C → Bool
  | a :: l, b :: m => sameC a b && sameCL l m
  | _, _ => true
theorem sameC_head (a b : C) (h : ¬ (a.kind = b.kind ∧ a.text = b.text ∧ a.day = b.day)) : sameC a b = false := by
  cases a <;> cases b <;> simp [sameC, C.kind, C.text, C.day] at h ⊢ <;> simp [h]
theorem sameC_none (a b : C) (h : a.kind = 0) : sameC a b = false := by
  cases a <;> simp [C.kind] at h
  cases b <;> rfl
theorem sameC_kids (a b : C) (h0 : a.kind ≠ 0) (h : a.kind = b.kind ∧ a.text = b.text ∧ a.day = b.day) : a.nums.length = b.nums.length ∧ a.kids.length = b.kids.length ∧ sameC a b = (sameL a.nums b.nums && sameCL a.kids b.kids) := by
  cases a <;> cases b <;> simp [sameC, sameL, sameCL, C.kids, C.nums, C.kind, C.text, C.day] at h h0 ⊢ <;> simp [h]
theorem sameCL_take (l m : List C) (i : Nat) (a b : C) (h1 : l[i]? = some a) (h2 : m[i]? = some b) : sameCL (l.take (i + 1)) (m.take (i + 1)) = (sameCL (l.take i) (m.take i) && sameC a b) := by
  induction l generalizing m i with
  | nil => simp at h1
  | cons x l ih =>
    cases m with
    | nil => simp at h2
    | cons y m =>
      cases i with
      | zero => simp at h1 h2; subst h1 h2; simp [sameCL]
      | succ i =>
        simp at h1 h2
        simp only [List.take_succ_cons, sameCL]
        rw [ih m i h1 h2, Bool.and_assoc]
theorem sameCL_no (l m : List C) (i : Nat) (a b : C) (h1 : l[i]? = some a) (h2 : m[i]? = some b) (h : sameC a b = false) : sameCL l m = false := by
  induction l generalizing m i with
  | nil => simp at h1
  | cons x l ih =>
    cases m with
    | nil => simp at h2
    | cons y m =>
      cases i with
      | zero => simp at h1 h2; subst h1 h2; simp [sameCL, h]
      | succ i =>
        simp at h1 h2
        simp [sameCL, ih m i h1 h2]
set_option maxHeartbeats 4000000 in
set_option maxRecDepth 100000 in
theorem sameT_any (a : C) : a.Ok → ∀ b : C, b.Ok → ∀ w : World, Calls Tryd.prog 13 #[a.val, b.val] w fun e w' => e = .returned (.bool (sameC a b)) ∧ Below w.heap.size w w' := by
  induction a using C.ind with
  | _ a ih =>
  intro hok b hokb w
  have HIH : Hid (∀ k ∈ a.kids, ∀ b : C, b.Ok → ∀ w : World, Calls Tryd.prog 13 #[k.val, b.val] w fun e w' => e = .returned (.bool (sameC k b)) ∧ Below w.heap.size w w') :=
    fun k hk => ih k hk (hok.kid hk)
  clear ih
  have h2 := a.kids_two
  have h1n := a.nums_one
  have HOB : Hid b.Ok := hokb
  have HOA : Hid a.Ok := hok
  go_enter Tryd.func13, Tryd.ntmps13
  go_wp2_with fail
  refine (openT_any a w hok).mono ?_
  rintro e w1 ⟨xa, xb, rfl, hn, hk, hna, hnb, hb1⟩
  have HN : Hid (HasObs w1 xa a.nums) := hn
  have HK : Hid (HasTerm w1 xb a.kids) := hk
  have HB1 : Hid (Below w.heap.size w w1) := hb1
  clear hn hk hok hb1 hna hnb
  unfold headT
  go_wp2_with fail
  refine (openT_any b _ hokb).mono ?_
  rintro e w2 ⟨ya, yb, rfl, hn, hk, hna, hnb, hb2⟩
  have HB2 : Hid (Below w1.heap.size w1 w2) := (below_alloc (Below.refl w1.heap.size w1) _).trans (hb2.mono (by simp))
  have HN2 : Hid (HasObs w2 ya b.nums) := hn
  have HK2 : Hid (HasTerm w2 yb b.kids) := hk
  have hbk : w2.heap[w1.heap.size]? = some (.cells #[.int .i64 a.kind, .string a.text, .int .i64 a.day] 90 (0, 0)) := (hb2.block _ (by simp)).trans (heap_alloc_new _ _)
  have hbk2 : (w2.alloc (.cells #[.int .i64 b.kind, .string b.text, .int .i64 b.day] 90)).heap[w1.heap.size]? = some (.cells #[.int .i64 a.kind, .string a.text, .int .i64 a.day] 90 (0, 0)) := heap_keeps hbk _
  have g0 := cell_of_row _ _ 0 _ _ _ hbk2
  have g1 := cell_of_row _ _ 1 _ _ _ hbk2
  have g2 := cell_of_row _ _ 2 _ _ _ hbk2
  rw [show (#[.int .i64 a.kind, .string a.text, .int .i64 a.day] : Array Value)[0]? = some (.int .i64 a.kind) from rfl] at g0
  rw [show (#[.int .i64 a.kind, .string a.text, .int .i64 a.day] : Array Value)[1]? = some (.string a.text) from rfl] at g1
  rw [show (#[.int .i64 a.kind, .string a.text, .int .i64 a.day] : Array Value)[2]? = some (.int .i64 a.day) from rfl] at g2
  clear hn hk hokb hb2 hbk hbk2 hna hnb
  unfold headT
  have HBW : Hid (∀ o, Below w.heap.size w (w2.alloc o)) := fun o => by
    have h := HB1.out.trans (HB2.out.mono HB1.out.size)
    exact h.alloc h.size o
  by_cases h0 : a.kind = 0
  · have HS : Hid (sameC a b = false) := sameC_none a b h0
    go_wp2_with fail
    go_ret
    exact ⟨by rw [HS.out]; rfl, HBW.out _⟩
  · have h0' : (a.kind == 0) = false := by simpa using h0
    by_cases hh : a.kind = b.kind ∧ a.text = b.text ∧ a.day = b.day
    · obtain ⟨hlen1, hlen, hsame⟩ := sameC_kids a b h0 hh
      have HS : Hid (sameC a b = (sameL a.nums b.nums && sameCL a.kids b.kids)) := hsame
      have HL : Hid (a.kids.length = b.kids.length) := hlen
      have HL1 : Hid (a.nums.length = b.nums.length) := hlen1
      obtain ⟨e1, e2, e3⟩ := hh
      have hlb : b.kids.length ≤ 2 := by omega
      have hlb1 : b.nums.length ≤ 1 := by omega
      have h0b : (b.kind == 0) = false := by rw [← e1]; exact h0'
      clear hsame hlen hlen1
      go_wp2_with fail
      go_loopw [37] (fun s37 wr => ∃ i : Nat, i ≤ a.nums.length ∧ s37 = .int .i64 i ∧ Hid (sameL (a.nums.take i) (b.nums.take i) = true) ∧ Below w2.heap.size w2 wr) (fun s37 _ => a.nums.length - (intOf s37).toNat)
      case atStart => exact ⟨0, by omega, rfl, rfl, below_alloc (Below.refl _ _) _⟩
      case round =>
        clear g0 g1 g2
        obtain ⟨i, hi, rfl, HA, hbr⟩ := hrel
        have HB3 : Hid (Below w.heap.size w wr) := by
          have h := HB1.out.trans (HB2.out.mono HB1.out.size)
          exact h.trans (hbr.mono h.size)
        by_cases hlt : i < a.nums.length
        · have hlt' : (i : Int) < (a.nums.length : Int) := by omega
          have hltb : i < b.nums.length := by have := HL1.out; omega
          have hltb' : (i : Int) < (b.nums.length : Int) := by omega
          obtain ⟨k, hki⟩ : ∃ k, a.nums[i]? = some k := ⟨_, List.getElem?_eq_getElem hlt⟩
          obtain ⟨m, hmi⟩ : ∃ m, b.nums[i]? = some m := ⟨_, List.getElem?_eq_getElem hltb⟩
          obtain ⟨p, rfl, hc⟩ := ((HN.out.below HB2.out).below hbr) i k hki
          obtain ⟨q, rfl, hcm⟩ := (HN2.out.below hbr) i m hmi
          have HOK : Hid k.Ok := HOA.out.num (List.mem_of_getElem? hki)
          have HOM : Hid m.Ok := HOB.out.num (List.mem_of_getElem? hmi)
          have HT : Hid (sameL (a.nums.take (i + 1)) (b.nums.take (i + 1)) = (sameL (a.nums.take i) (b.nums.take i) && sameO k m)) := sameL_take _ _ _ _ _ hki hmi
          have HNO : Hid (sameO k m = false → sameL a.nums b.nums = false) := sameL_no _ _ _ _ _ hki hmi
          clear hki hmi
          go_wp2_with fail
          refine (same_any k HOK.out m HOM.out wr).mono ?_
          rintro e w3 ⟨rfl, hb3⟩
          have HB4 : Hid (Below w2.heap.size w2 w3) := hbr.trans (hb3.mono hbr.size)
          have HB5 : Hid (Below w.heap.size w w3) := HB3.out.trans (hb3.mono HB3.out.size)
          clear hb3 hbr hc hcm
          cases hf : sameO k m
          · go_wp2_with fail
            go_ret
            exact ⟨ret_bool (by rw [HS.out, HNO.out hf, Bool.false_and]), HB5.out⟩
          · go_wp2_with fail
            go_roundw
            case rel => exact ⟨i + 1, by omega, by go_num, by unfold Hid; rw [HT.out, HA.out, hf]; rfl, HB4.out⟩
            case measure => simp [intOf]; omega
        · have hle : i = a.nums.length := by omega
          subst hle
          have HA1 : Hid (sameL a.nums b.nums = true) := by
            have h := HA.out
            rw [List.take_length, HL1.out, List.take_length] at h
            exact h
          clear HA hlt
          obtain ⟨wA, hwA⟩ : ∃ y, y = wr := ⟨_, rfl⟩
          subst hwA
          have HBA : Hid (Below w2.heap.size w2 wA) := hbr
          clear hbr HB3
          go_wp2_with fail
          go_loopw [52] (fun s52 wr => ∃ i : Nat, i ≤ a.kids.length ∧ s52 = .int .i64 i ∧ Hid (sameCL (a.kids.take i) (b.kids.take i) = true) ∧ Below w2.heap.size w2 wr) (fun s52 _ => a.kids.length - (intOf s52).toNat)
          case atStart => exact ⟨0, by omega, rfl, rfl, HBA.out⟩
          case round =>
            obtain ⟨i, hi, rfl, HA, hbr⟩ := hrel
            have HB3 : Hid (Below w.heap.size w wr) := by
              have h := HB1.out.trans (HB2.out.mono HB1.out.size)
              exact h.trans (hbr.mono h.size)
            by_cases hlt : i < a.kids.length
            · have hlt' : (i : Int) < (a.kids.length : Int) := by omega
              have hltb : i < b.kids.length := by have := HL.out; omega
              have hltb' : (i : Int) < (b.kids.length : Int) := by omega
              obtain ⟨k, hki⟩ : ∃ k, a.kids[i]? = some k := ⟨_, List.getElem?_eq_getElem hlt⟩
              obtain ⟨m, hmi⟩ : ∃ m, b.kids[i]? = some m := ⟨_, List.getElem?_eq_getElem hltb⟩
              obtain ⟨p, rfl, hc⟩ := ((HK.out.below HB2.out).below hbr) i k hki
              obtain ⟨q, rfl, hcm⟩ := (HK2.out.below hbr) i m hmi
              have HM : Hid (k ∈ a.kids) := List.mem_of_getElem? hki
              have HOM : Hid m.Ok := HOB.out.kid (List.mem_of_getElem? hmi)
              have HT : Hid (sameCL (a.kids.take (i + 1)) (b.kids.take (i + 1)) = (sameCL (a.kids.take i) (b.kids.take i) && sameC k m)) := sameCL_take _ _ _ _ _ hki hmi
              have HNO : Hid (sameC k m = false → sameCL a.kids b.kids = false) := sameCL_no _ _ _ _ _ hki hmi
              clear hki hmi
              go_wp2_with fail
              refine (HIH.out k HM.out m HOM.out wr).mono ?_
              rintro e w3 ⟨rfl, hb3⟩
              have HB4 : Hid (Below w2.heap.size w2 w3) := hbr.trans (hb3.mono hbr.size)
              have HB5 : Hid (Below w.heap.size w w3) := HB3.out.trans (hb3.mono HB3.out.size)
              clear hb3 hbr hc hcm
              cases hf : sameC k m
              · go_wp2_with fail
                go_ret
                exact ⟨ret_bool (by rw [HS.out, HNO.out hf, Bool.and_false]), HB5.out⟩
              · go_wp2_with fail
                go_roundw
                case rel => exact ⟨i + 1, by omega, by go_num, by unfold Hid; rw [HT.out, HA.out, hf]; rfl, HB4.out⟩
                case measure => simp [intOf]; omega
            · have hle : i = a.kids.length := by omega
              subst hle
              have HA2 : Hid (sameCL a.kids b.kids = true) := by
                have h := HA.out
                rw [List.take_length, HL.out, List.take_length] at h
                exact h
              clear HA
              go_wp2_with fail
              go_ret
              exact ⟨ret_bool (by rw [HS.out, HA1.out, HA2.out]; rfl), HB3.out⟩
    · have HS : Hid (sameC a b = false) := sameC_head a b hh
      by_cases e1 : a.kind = b.kind
      · have h0b : (b.kind == 0) = false := by rw [← e1]; exact h0'
        by_cases e2 : a.text = b.text
        · have e3 : ¬ a.day = b.day := fun e3 => hh ⟨e1, e2, e3⟩
          clear hh
          go_wp2_with fail
          go_ret
          exact ⟨ret_bool (by rw [HS.out]), HBW.out _⟩
        · have e2' : ¬ a.text.toList = b.text.toList := fun e => e2 (toList_inj e)
          clear hh
          go_wp2_with fail
          go_ret
          exact ⟨ret_bool (by rw [HS.out]), HBW.out _⟩
      · clear hh
        go_wp2_with fail
        go_ret
        exact ⟨ret_bool (by rw [HS.out]), HBW.out _⟩

end Go.Proofs.YtagjbbdpenbcoaaDoor
namespace Go.Proofs.YtagjbbdpenbcoaaDoor
open Go.RowKit
set_option linter.unusedVariables false

theorem sc_plain (c : C) (h : c.Ok) : SC (plainC c) := by
  induction c with
  | zero => exact .leaf _ _ _ _ (by omega) (by decide)
  | one s => exact .leaf _ _ _ _ (by omega) h
  | give c h1 => exact .give _ _ _ (h1 h)
  | and l r h1 h2 => exact .and _ _ _ _ (h1 h.1) (h2 h.2)
  | or s l r h1 h2 => exact .or _ _ _ _ h.1 (h1 h.2.1) (h2 h.2.2)
  | scale o c h1 => exact .scale _ _ _ _ (shaped_plain o h.1) (h1 h.2)
  | when d c h1 => exact .when _ _ _ h.1 (h1 h.2)
  | iff o l r h1 h2 => exact .iff _ _ _ _ _ (shaped_plain o h.1) (h1 h.2.1) (h2 h.2.2)
  | odd v => exact .leaf _ _ _ _ (by omega) (by decide)
theorem termOf_whole (c : C) (h : c.whole) : termOf (plainC c) = c := by
  induction c with
  | zero => rfl
  | one s => rfl
  | give c h1 => show C.give (termOf (plainC c)) = _; rw [h1 h]
  | and l r h1 h2 => show C.and (termOf (plainC l)) (termOf (plainC r)) = _; rw [h1 h.1, h2 h.2]
  | or s l r h1 h2 => show C.or s (termOf (plainC l)) (termOf (plainC r)) = _; rw [h1 h.2.1, h2 h.2.2]
  | scale o c h1 => show C.scale (obsOf (plain o)) (termOf (plainC c)) = _; rw [obsOf_whole o h.1, h1 h.2]
  | when d c h1 => show C.when d (termOf (plainC c)) = _; rw [h1 h.2]
  | iff o l r h1 h2 => show C.iff (obsOf (plain o)) (termOf (plainC l)) (termOf (plainC r)) = _; rw [obsOf_whole o h.1, h1 h.2.1, h2 h.2.2]
  | odd v => exact absurd h id
theorem termP_any (c : C) (h : c.whole) (w : World) (v : Value) (B : Nat) (ht : TIn w B (plainC c) v) : Calls Tryd.prog 7 #[v] w fun e w' => e = .returned c.val ∧ Below w.heap.size w w' := by
  have := termT_any (sc_plain c (cwhole_ok c h)) w v (ht.low (Nat.zero_le _))
  rw [termOf_whole c h] at this
  exact this
theorem whole_sameC (c : C) (h : c.whole) : sameC c c = true := by
  induction c with
  | zero => rfl
  | one s => simp [sameC]
  | give c h1 => simp [sameC, h1 h]
  | and l r h1 h2 => simp [sameC, h1 h.1, h2 h.2]
  | or s l r h1 h2 => simp [sameC, h1 h.2.1, h2 h.2.2]
  | scale o c h1 => simp [sameC, whole_same o h.1, h1 h.2]
  | when d c h1 => simp [sameC, h1 h.2]
  | iff o l r h1 h2 => simp [sameC, whole_same o h.1, h1 h.2.1, h2 h.2.2]
  | odd v => exact absurd h id
theorem same_give (c : C) : sameC (.give c) c = false := by
  induction c with
  | give c ih => simp only [sameC]; exact ih
  | _ => rfl
theorem same_give' (c : C) : sameC c (.give c) = false := by
  induction c with
  | give c ih => simp only [sameC]; exact ih
  | _ => rfl
/-- A plan's contract, made by two calls in one statement: whatever the order. -/
theorem con_made {p : Pl} {W X : World} (hP : PlanIn W p) (hX : Below W.heap.size W X) : Calls Tryd.prog 21 #[.agg #[.slice p.na p.nl p.nc, .slice p.wa p.wl p.wc]] X (fun e w' => ∃ v, e = .returned v ∧ Below W.heap.size W w' ∧ TIn w' 0 (plainC (conP p)) v) :=
  (contract_any p X (hP.below hX)).mono (fun e w' ⟨v, he, ht, hb⟩ => ⟨v, he, hX.trans (hb.mono hX.size), ht.low (Nat.zero_le _)⟩)
theorem con_term {p : Pl} {W X : World} {v : Value} (hX : Below W.heap.size W X) (ht : TIn X 0 (plainC (conP p)) v) : Calls Tryd.prog 7 #[v] X (fun e w' => e = .returned (conP p).val ∧ Below W.heap.size W w') :=
  (termP_any (conP p) (conP_whole p) X v 0 ht).mono (fun e w' ⟨he, hb⟩ => ⟨he, hX.trans (hb.mono hX.size)⟩)

end Go.Proofs.YtagjbbdpenbcoaaDoor
namespace Go.Proofs.YtagjbbdpenbcoaaDoor
open Go.RowKit
set_option linter.unusedVariables false

theorem plainC_nodes (c : C) : (plainC c).nodes = c.nodes := by
  induction c with
  | scale o c ih => have := plain_nodes o; simp only [plainC, T.nodes, nodesL, C.nodes] at *; simp; omega
  | iff o l r h1 h2 => have := plain_nodes o; simp only [plainC, T.nodes, nodesL, C.nodes] at *; simp; omega
  | _ => simp_all [plainC, T.nodes, nodesL, C.nodes] <;> omega
theorem plainC_depth (c : C) : (plainC c).depth = c.depth := by
  induction c with
  | scale o c ih => have := plain_depth o; simp only [plainC, T.depth, depthL, C.depth] at *; simp; omega
  | iff o l r h1 h2 => have := plain_depth o; simp only [plainC, T.depth, depthL, C.depth] at *; simp; omega
  | _ => simp_all [plainC, T.depth, depthL, C.depth] <;> omega
theorem plainC_labs (c : C) : (plainC c).labs = c.labels := by
  induction c <;> simp_all [plainC, T.labs, labsL, C.labels, plain_labs]
theorem plainC_cnt (c : C) : (plainC c).cnt ≤ 3 * c.weight := by
  induction c with
  | scale o c ih => have := plain_cnt o; simp only [plainC, T.cnt, cntL, C.weight] at *; omega
  | iff o l r h1 h2 => have := plain_cnt o; simp only [plainC, T.cnt, cntL, C.weight] at *; omega
  | _ => simp only [plainC, T.cnt, cntL, C.weight] at * <;> omega
theorem plainC_sized (c : C) (h : c.Ok) : (plainC c).Sized := by
  have he : (⟨#[]⟩ : ByteArray).size ≤ 2147483648 := by decide
  induction c with
  | zero => simp only [plainC, T.Sized, SizedL]; exact ⟨he, trivial⟩
  | one s => simp only [plainC, T.Sized, SizedL]; exact ⟨h, trivial⟩
  | odd v => simp only [plainC, T.Sized, SizedL]; exact ⟨he, trivial⟩
  | give c h1 => simp only [plainC, T.Sized, SizedL]; exact ⟨he, h1 h, trivial⟩
  | and l r h1 h2 => simp only [plainC, T.Sized, SizedL]; exact ⟨he, h1 h.1, h2 h.2, trivial⟩
  | or s l r h1 h2 => simp only [plainC, T.Sized, SizedL]; exact ⟨h.1, h1 h.2.1, h2 h.2.2, trivial⟩
  | scale o c h1 => simp only [plainC, T.Sized, SizedL]; exact ⟨he, plain_sized o h.1, h1 h.2, trivial⟩
  | when d c h1 => simp only [plainC, T.Sized, SizedL]; exact ⟨he, h1 h.2, trivial⟩
  | iff o l r h1 h2 => simp only [plainC, T.Sized, SizedL]; exact ⟨he, plain_sized o h.1, h1 h.2.1, h2 h.2.2, trivial⟩
theorem plainC_form (c : C) : formT (plainC c) false = formC c := by
  induction c <;> simp_all [plainC, formT, formTL, headOk, partB, formC, plain_form, Bool.and_assoc]
theorem plainC_chk (c : C) : chkT (plainC c) false = chkC c := by
  unfold chkT chkC
  rw [plainC_form, plainC_nodes, plainC_depth, plainC_labs]
theorem refCheckC_any (c : C) (hok : c.Ok) (hw : c.weight ≤ 300000) (w : World) (v : Value) (B : Nat) (ht : TIn w B (plainC c) v) : Calls Tryd.prog 22 #[v, .bool false] w fun e w' => e = .returned (.int .i64 (chkC c)) ∧ Below w.heap.size w w' := by
  have h := refCheck_any (plainC c) (plainC_sized c hok) (by have := plainC_cnt c; omega) (by rw [plainC_nodes]; have := weight_nodes c; omega) false w v (ht.low (Nat.zero_le _))
  rw [plainC_chk] at h
  exact h
/-- The right contract of a plan. -/
def rightP (p : Pl) : C := if chkC (conP p) = 0 then conP p else .one ⟨#[117, 115, 100]⟩
theorem rightP_whole (p : Pl) : (rightP p).whole := by
  unfold rightP
  split
  · exact conP_whole p
  · show (⟨#[117, 115, 100]⟩ : ByteArray).size ≤ _
    decide
theorem rightP_weight (p : Pl) : (rightP p).weight ≤ 630 := by
  unfold rightP
  split
  · exact conP_weight p
  · simp [C.weight]

set_option maxHeartbeats 1000000 in
set_option maxRecDepth 100000 in
theorem right_any (p : Pl) (w : World) (h : PlanIn w p) : Calls Tryd.prog 8 #[planV p] w fun e w' => ∃ v, e = .returned v ∧ TIn w' w.heap.size (plainC (rightP p)) v ∧ Below w.heap.size w w' := by
  unfold planV
  have HP := hidIn h
  have HOK := hidIn (cwhole_ok _ (conP_whole p))
  have HWT := hidIn (conP_weight p)
  have HRP : Hid (rightP p = if chkC (conP p) = 0 then conP p else .one ⟨#[117, 115, 100]⟩) := rfl
  clear h
  go_enter Tryd.func8, Tryd.ntmps8
  go_wp2_with fail
  obtain ⟨W, hW⟩ : ∃ W, W = (w.alloc (.cells #[.slice p.na p.nl p.nc, .slice p.wa p.wl p.wc] 25)).alloc (.cells #[.int .i64 0, .string ⟨#[]⟩, .int .i64 0, .slice none 0 0] 30) := ⟨_, rfl⟩
  have hWs : W.heap.size = w.heap.size + 2 := by rw [hW]; simp
  have HB : Hid (Below w.heap.size w W) := by rw [hW]; exact below_alloc (below_alloc (Below.refl _ _) _) _
  have HZ : Hid (Blk W (w.heap.size + 1) 30 zeroT) := by rw [hW]; exact blk_new (by simp)
  have HPW := hidIn (HP.out.below HB.out)
  have HWS := hidIn hWs
  rw [← hW]
  clear hW hWs
  refine (contract_any p W HPW.out).mono ?_
  rintro e w1 ⟨v, rfl, ht1, hb1⟩
  have ht1' := ht1
  obtain ⟨ka, kc, rfl, _, _, _⟩ := ht1'
  have HT1 := hidIn ht1
  have HB1 := hidIn hb1
  clear ht1 hb1
  generalize hC : conP p = c at *
  clear hC
  go_wp2_with fail
  obtain ⟨w2, hw2⟩ : ∃ w2, w2 = w1.alloc (.cells (four (plainC c) ka kc) 30) := ⟨_, rfl⟩
  have HB2 : Hid (Below W.heap.size W w2) := by rw [hw2]; exact below_alloc HB1.out _
  have HT2 : Hid (TIn w2 W.heap.size (plainC c) (.agg (four (plainC c) ka kc))) := by rw [hw2]; exact HT1.out.below (below_alloc (Below.refl _ _) _)
  have HK2 : Hid (Blk w2 w1.heap.size 30 (four (plainC c) ka kc)) := by rw [hw2]; exact blk_new rfl
  unfold four at hw2
  rw [← hw2]
  clear hw2 HT1
  refine (refCheckC_any c HOK.out (by have := HWT.out; omega) w2 _ _ HT2.out).mono ?_
  rintro e w3 ⟨rfl, hb3⟩
  have HB3 := hidIn (HB2.out.trans (hb3.mono HB2.out.size))
  have HT3 := hidIn (HT2.out.below hb3)
  have hk3 : Blk w3 w1.heap.size 30 (four (plainC c) ka kc) := HK2.out.below hb3 HK2.out.lt
  obtain ⟨q0, q1, q2, q3⟩ := four_cells hk3
  have HZ3 : Hid (Blk w3 (w.heap.size + 1) 30 zeroT) := HZ.out.below HB3.out HZ.out.lt
  obtain ⟨⟨z0, z1, z2, z3⟩, f0, f1, f2, f3⟩ := blk_zero HZ3.out
  have hne : ¬ w.heap.size + 1 = w1.heap.size := by have := HWS.out; have := HB1.out.size; omega
  have HBE : Hid (Below w.heap.size w w3) := HB.out.trans (HB3.out.mono HB.out.size)
  clear hb3 hk3 HK2 HT2
  by_cases h0 : chkC c = 0
  · have h0' : (chkC c == 0) = true := by simp [h0]
    have HR : Hid (rightP p = c) := by unfold Hid; rw [HRP.out, if_pos h0]
    rw [h0]
    clear h0
    go_wp2_with fail
    refine bodyPost_ret (results_cell_row rfl _ _ (w.heap.size + 1) 30 #[.int .i64 (plainC c).kind, .string (plainC c).s, .int .i64 (plainC c).n, .slice ka (plainC c).k.length kc] (0, 0) _ rfl (set4_blk HZ3.out _ _ _ _) Tryd.underlying30 rfl infoT) rfl ?_
    refine ⟨_, rfl, ?_, (((HBE.out.setCell (Nat.le_succ _) _).setCell (Nat.le_succ _) _).setCell (Nat.le_succ _) _).setCell (Nat.le_succ _) _⟩
    rw [HR.out]
    exact (HT3.out.set4 (R := w.heap.size + 1) (by have := HWS.out; omega) _ _ _ _).low (by have := HWS.out; omega)
  · have h0' : (chkC c == 0) = false := by rw [beq_eq_false_iff_ne]; exact h0
    have HR : Hid (rightP p = .one ⟨#[117, 115, 100]⟩) := by unfold Hid; rw [HRP.out, if_neg h0]
    go_wp2_with fail
    refine bodyPost_ret (results_cell_row rfl _ _ (w.heap.size + 1) 30 #[.int .i64 2, .string ⟨#[117, 115, 100]⟩, .int .i64 0, .slice none 0 0] (0, 0) _ rfl (set4_blk HZ3.out _ _ _ _) Tryd.underlying30 rfl infoT) rfl ?_
    refine ⟨_, rfl, ?_, (((HBE.out.setCell (Nat.le_succ _) _).setCell (Nat.le_succ _) _).setCell (Nat.le_succ _) _).setCell (Nat.le_succ _) _⟩
    rw [HR.out]
    exact tin_leaf _ _ _ _ _

end Go.Proofs.YtagjbbdpenbcoaaDoor
namespace Go.Proofs.YtagjbbdpenbcoaaDoor
open Go.RowKit
set_option linter.unusedVariables false

theorem plain_text (o : O) (h : formB o = true) : textT (plain o) = textO o := by
  induction o with
  | const n => simp [plain, textT, textO]
  | fix s => simp [plain, textT, textTL, textO, headP]; rfl
  | add l r h1 h2 => simp only [formB, Bool.and_eq_true] at h; simp [plain, textT, textTL, textO, headP, h1 h.1, h2 h.2]; rfl
  | mul l r h1 h2 => simp only [formB, Bool.and_eq_true] at h; simp [plain, textT, textTL, textO, headP, h1 h.1, h2 h.2]; rfl
  | max l r h1 h2 => simp only [formB, Bool.and_eq_true] at h; simp [plain, textT, textTL, textO, headP, h1 h.1, h2 h.2]; rfl
  | neg o h1 => simp [plain, textT, textTL, textO, headP, h1 h]; rfl
  | odd v => cases h
theorem plainC_text (c : C) (h : formC c = true) : textT (plainC c) = textC c := by
  induction c with
  | zero => simp [plainC, textT, textC]
  | one s => simp [plainC, textT, textTL, textC, headP]; rfl
  | give c h1 => simp [plainC, textT, textTL, textC, headP, h1 h]; rfl
  | and l r h1 h2 => simp only [formC, Bool.and_eq_true] at h; simp [plainC, textT, textTL, textC, headP, h1 h.1, h2 h.2]; rfl
  | or s l r h1 h2 => simp only [formC, Bool.and_eq_true] at h; simp [plainC, textT, textTL, textC, headP, h1 h.1.2, h2 h.2]; rfl
  | scale o c h1 => simp only [formC, Bool.and_eq_true] at h; simp [plainC, textT, textTL, textC, headP, plain_text o h.1, h1 h.2]; rfl
  | when d c h1 => simp only [formC, Bool.and_eq_true] at h; simp [plainC, textT, textTL, textC, headP, h1 h.2]; rfl
  | iff o l r h1 h2 => simp only [formC, Bool.and_eq_true] at h; simp [plainC, textT, textTL, textC, headP, plain_text o h.1.1, h1 h.1.2, h2 h.2]; rfl
  | odd v => cases h
theorem plain_wk (o : O) (k : o.Ok) : (plain o).wk := by
  induction o with
  | const n => have := k; simp only [O.Ok] at this; simp [plain, T.wk, wkL]; omega
  | fix s => simp [plain, T.wk, wkL]
  | add l r h1 h2 => simp [plain, T.wk, wkL, h1 k.1, h2 k.2]
  | mul l r h1 h2 => simp [plain, T.wk, wkL, h1 k.1, h2 k.2]
  | max l r h1 h2 => simp [plain, T.wk, wkL, h1 k.1, h2 k.2]
  | neg o h1 => simp [plain, T.wk, wkL, h1 k]
  | odd v => simp [plain, T.wk, wkL]
theorem plainC_wk (c : C) (k : c.Ok) : (plainC c).wk := by
  induction c with
  | zero => simp [plainC, T.wk, wkL]
  | one s => simp [plainC, T.wk, wkL]
  | give c h1 => simp [plainC, T.wk, wkL, h1 k]
  | and l r h1 h2 => simp [plainC, T.wk, wkL, h1 k.1, h2 k.2]
  | or s l r h1 h2 => simp [plainC, T.wk, wkL, h1 k.2.1, h2 k.2.2]
  | scale o c h1 => simp [plainC, T.wk, wkL, plain_wk o k.1, h1 k.2]
  | when d c h1 => have := k.1; simp [plainC, T.wk, wkL, h1 k.2]; omega
  | iff o l r h1 h2 => simp [plainC, T.wk, wkL, plain_wk o k.1, h1 k.2.1, h2 k.2.2]
  | odd v => simp [plainC, T.wk, wkL]

set_option maxHeartbeats 1000000 in
set_option maxRecDepth 100000 in
theorem refWriteC_any (c : C) (hok : c.Ok) (hwt : c.weight ≤ 300000) (w : World) (v : Value) (ht : TIn w 0 (plainC c) v) : Calls Tryd.prog 20 #[v, .bool false] w fun e w' => e = .returned (.tuple #[.string (wTextC c), .int .i64 (wErrC c)]) ∧ Below w.heap.size w w' := by
  have HW : Hid (chkC c = 0 → (textC c).size ≤ 70368744177664 ∧ ∀ (w : World) (v : Value), TIn w 0 (plainC c) v → Calls Tryd.prog 38 #[v] w fun e w' => e = .returned (.string (textC c)) ∧ Below w.heap.size w w') := fun h => by
    have hz := chkC_zero h
    have hn := formC_neat c hok hz.1
    have hs : (textC c).size ≤ 70368744177664 := Nat.le_trans (textC_size _ c hn) (by omega)
    refine ⟨hs, ?_⟩
    have h2 := refText_any (plainC c) (plainC_wk c hok)
    rw [plainC_text c hz.1] at h2
    exact h2 hs
  have HR : Hid (wTextC c = if chkC c = 0 then (if 1000 < (textC c).size then ⟨#[]⟩ else textC c) else ⟨#[]⟩) := rfl
  have HE : Hid (wErrC c = if chkC c = 0 then (if 1000 < (textC c).size then 5 else 0) else chkC c) := rfl
  have HK : Hid (∀ (w : World) (v : Value), TIn w 0 (plainC c) v → Calls Tryd.prog 22 #[v, .bool false] w fun e w' => e = .returned (.int .i64 (chkC c)) ∧ Below w.heap.size w w') := fun w v h => refCheckC_any c hok hwt w v 0 h
  have HV := hidIn ht
  obtain ⟨a, cap, rfl, _, _, _⟩ := ht
  generalize wTextC c = rt at *
  generalize wErrC c = re at *
  clear hok hwt
  go_enter Tryd.func20, Tryd.ntmps20
  go_wp2_with fail
  have HB0 : Hid (Below w.heap.size w (w.alloc (.cells #[.int .i64 (plainC c).kind, .string (plainC c).s, .int .i64 (plainC c).n, .slice a (plainC c).k.length cap] 30))) := below_alloc (Below.refl _ _) _
  refine (HK.out _ _ (HV.out.below HB0.out)).mono ?_
  rintro e w1 ⟨rfl, hb1⟩
  have HB1 : Hid (Below w.heap.size w w1) := HB0.out.trans (hb1.mono (by simp))
  have hcells : ∀ j, j < 4 → w1.cell? ⟨w.heap.size, j, none⟩ = (#[.int .i64 (plainC c).kind, .string (plainC c).s, .int .i64 (plainC c).n, .slice a (plainC c).k.length cap] : Array Value)[j]? := fun j hj => (cell_of_row _ _ _ _ _ _ ((hb1.block _ (by simp)).trans (heap_alloc_new _ _)))
  have k0 := hcells 0 (by decide)
  have k1 := hcells 1 (by decide)
  have k2 := hcells 2 (by decide)
  have k3 := hcells 3 (by decide)
  simp at k0 k1 k2 k3
  have HV1 := hidIn (HV.out.below HB1.out)
  clear hb1 hcells
  by_cases h0 : chkC c = 0
  · obtain ⟨hs, hw⟩ := HW.out h0
    have HW1 := hidIn hw
    clear hw
    have H1 := HR.out
    have H2 := HE.out
    rw [if_pos h0] at H1 H2
    have HH1 := hidIn H1
    have HH2 := hidIn H2
    clear H1 H2 HR HE
    rw [h0]
    clear h0
    go_wp2_with fail
    refine (HW1.out w1 _ HV1.out).mono ?_
    rintro e w2 ⟨rfl, hb2⟩
    have HB2 := hidIn (HB1.out.trans (hb2.mono HB1.out.size))
    clear hb2 k0 k1 k2 k3 HW1 HV1
    by_cases h1 : 1000 < (textC c).size
    · have h1' : (1000 : Int) < ((textC c).size : Int) := by omega
      rw [if_pos h1] at HH1 HH2
      go_wp2_with fail
      go_ret2
      exact ⟨by rw [HH1.out, HH2.out]; rfl, HB2.out⟩
    · have h1' : ¬ (1000 : Int) < ((textC c).size : Int) := by omega
      rw [if_neg h1] at HH1 HH2
      go_wp2_with fail
      go_ret2
      exact ⟨by rw [HH1.out, HH2.out]; rfl, HB2.out⟩
  · obtain ⟨n, hn⟩ : ∃ n, chkC c = n := ⟨_, rfl⟩
    have H1 := HR.out
    have H2 := HE.out
    rw [if_neg h0] at H1 H2
    rw [hn] at h0 H2
    rw [hn]
    clear k0 k1 k2 k3
    go_wp2_with fail
    go_ret2
    exact ⟨by rw [H1, H2]; rfl, HB1.out⟩

set_option maxHeartbeats 1000000 in
set_option maxRecDepth 100000 in
theorem refWriteO_any (c : O) (hok : c.Ok) (hwt : c.nodes ≤ 1000) (w : World) (v : Value) (ht : TIn w 0 (plain c) v) : Calls Tryd.prog 20 #[v, .bool true] w fun e w' => e = .returned (.tuple #[.string (wText c), .int .i64 (wErr c)]) ∧ Below w.heap.size w w' := by
  have HW : Hid (chk c = 0 → (textO c).size ≤ 70368744177664 ∧ ∀ (w : World) (v : Value), TIn w 0 (plain c) v → Calls Tryd.prog 38 #[v] w fun e w' => e = .returned (.string (textO c)) ∧ Below w.heap.size w w') := fun h => by
    have hz := chk_zero h
    have hn := formB_neat c hok hz.1
    have hs : (textO c).size ≤ 70368744177664 := Nat.le_trans (textO_size _ c hn) (by omega)
    refine ⟨hs, ?_⟩
    have h2 := refText_any (plain c) (plain_wk c hok)
    rw [plain_text c hz.1] at h2
    exact h2 hs
  have HR : Hid (wText c = if chk c = 0 then (if 1000 < (textO c).size then ⟨#[]⟩ else textO c) else ⟨#[]⟩) := rfl
  have HE : Hid (wErr c = if chk c = 0 then (if 1000 < (textO c).size then 5 else 0) else chk c) := rfl
  have HK : Hid (∀ (w : World) (v : Value), TIn w 0 (plain c) v → Calls Tryd.prog 22 #[v, .bool true] w fun e w' => e = .returned (.int .i64 (chk c)) ∧ Below w.heap.size w w') := fun w v h => by
    have h2 := refCheck_any (plain c) (plain_sized c hok) (by have := plain_cnt c; omega) (by rw [plain_nodes]; omega) true w v h
    rw [plain_chk] at h2
    exact h2
  have HV := hidIn ht
  obtain ⟨a, cap, rfl, _, _, _⟩ := ht
  generalize wText c = rt at *
  generalize wErr c = re at *
  clear hok hwt
  go_enter Tryd.func20, Tryd.ntmps20
  go_wp2_with fail
  have HB0 : Hid (Below w.heap.size w (w.alloc (.cells #[.int .i64 (plain c).kind, .string (plain c).s, .int .i64 (plain c).n, .slice a (plain c).k.length cap] 30))) := below_alloc (Below.refl _ _) _
  refine (HK.out _ _ (HV.out.below HB0.out)).mono ?_
  rintro e w1 ⟨rfl, hb1⟩
  have HB1 : Hid (Below w.heap.size w w1) := HB0.out.trans (hb1.mono (by simp))
  have hcells : ∀ j, j < 4 → w1.cell? ⟨w.heap.size, j, none⟩ = (#[.int .i64 (plain c).kind, .string (plain c).s, .int .i64 (plain c).n, .slice a (plain c).k.length cap] : Array Value)[j]? := fun j hj => (cell_of_row _ _ _ _ _ _ ((hb1.block _ (by simp)).trans (heap_alloc_new _ _)))
  have k0 := hcells 0 (by decide)
  have k1 := hcells 1 (by decide)
  have k2 := hcells 2 (by decide)
  have k3 := hcells 3 (by decide)
  simp at k0 k1 k2 k3
  have HV1 := hidIn (HV.out.below HB1.out)
  clear hb1 hcells
  by_cases h0 : chk c = 0
  · obtain ⟨hs, hw⟩ := HW.out h0
    have HW1 := hidIn hw
    clear hw
    have H1 := HR.out
    have H2 := HE.out
    rw [if_pos h0] at H1 H2
    have HH1 := hidIn H1
    have HH2 := hidIn H2
    clear H1 H2 HR HE
    rw [h0]
    clear h0
    go_wp2_with fail
    refine (HW1.out w1 _ HV1.out).mono ?_
    rintro e w2 ⟨rfl, hb2⟩
    have HB2 := hidIn (HB1.out.trans (hb2.mono HB1.out.size))
    clear hb2 k0 k1 k2 k3 HW1 HV1
    by_cases h1 : 1000 < (textO c).size
    · have h1' : (1000 : Int) < ((textO c).size : Int) := by omega
      rw [if_pos h1] at HH1 HH2
      go_wp2_with fail
      go_ret2
      exact ⟨by rw [HH1.out, HH2.out]; rfl, HB2.out⟩
    · have h1' : ¬ (1000 : Int) < ((textO c).size : Int) := by omega
      rw [if_neg h1] at HH1 HH2
      go_wp2_with fail
      go_ret2
      exact ⟨by rw [HH1.out, HH2.out]; rfl, HB2.out⟩
  · obtain ⟨n, hn⟩ : ∃ n, chk c = n := ⟨_, rfl⟩
    have H1 := HR.out
    have H2 := HE.out
    rw [if_neg h0] at H1 H2
    rw [hn] at h0 H2
    rw [hn]
    clear k0 k1 k2 k3
    go_wp2_with fail
    go_ret2
    exact ⟨by rw [H1, H2]; rfl, HB1.out⟩

end Go.Proofs.YtagjbbdpenbcoaaDoor
namespace Go.Proofs.YtagjbbdpenbcoaaDoor
open Go.RowKit
set_option linter.unusedVariables false

/-- What becomes of a tree that is spoilt itself. -/
def spoilHead (q : Nat) (v : Int) (s : ByteArray) (t : T) : T :=
  if q = 0 then .mk 0 ⟨#[]⟩ 0 [] else if q = 1 then .mk t.kind (cutTo s 20) t.n t.k else if q = 2 then .mk t.kind t.s v t.k
  else if q = 3 then (if 11 ≤ t.kind then .mk 1 ⟨#[]⟩ 0 [] else .mk 11 ⟨#[]⟩ 1 []) else t
mutual
/-- A tree that is spoilt at a place, and what is left of the place's number. -/
def spoilT (q : Nat) (v : Int) (s : ByteArray) : T → Int → T × Int
  | .mk kind s0 n k, a => if a = 0 then (spoilHead q v s (.mk kind s0 n k), -1) else (.mk kind s0 n (spoilL q v s k (a - 1)).1, (spoilL q v s k (a - 1)).2)
def spoilL (q : Nat) (v : Int) (s : ByteArray) : List T → Int → List T × Int
  | [], a => ([], a)
  | t :: l, a => if 0 ≤ a then ((spoilT q v s t a).1 :: (spoilL q v s l (spoilT q v s t a).2).1, (spoilL q v s l (spoilT q v s t a).2).2) else (t :: l, a)
end
theorem spoilL_snoc (q : Nat) (v : Int) (s : ByteArray) (t : T) (l : List T) : ∀ a : Int, spoilL q v s (l ++ [t]) a = if 0 ≤ (spoilL q v s l a).2 then ((spoilL q v s l a).1 ++ [(spoilT q v s t (spoilL q v s l a).2).1], (spoilT q v s t (spoilL q v s l a).2).2) else ((spoilL q v s l a).1 ++ [t], (spoilL q v s l a).2) := by
  induction l with
  | nil => intro a; simp only [List.nil_append, spoilL]; by_cases h : 0 ≤ a <;> simp [h]
  | cons x l ih =>
    intro a
    simp only [List.cons_append, spoilL]
    by_cases h : 0 ≤ a
    · simp only [if_pos h]
      rw [ih]
      split <;> rfl
    · simp only [if_neg h, List.cons_append]
theorem spoilL_len (q : Nat) (v : Int) (s : ByteArray) (l : List T) : ∀ a, (spoilL q v s l a).1.length = l.length := by
  induction l with
  | nil => intro a; simp [spoilL]
  | cons x l ih => intro a; simp only [spoilL]; split <;> simp [ih]
theorem spoilT_bd (q : Nat) (v : Int) (s : ByteArray) (t : T) : ∀ a, 0 ≤ a → -1 ≤ (spoilT q v s t a).2 ∧ (spoilT q v s t a).2 ≤ a := by
  induction t using T.ind with
  | _ kind s0 n k ih =>
    have hL : ∀ a, -1 ≤ a → -1 ≤ (spoilL q v s k a).2 ∧ (spoilL q v s k a).2 ≤ a := by
      induction k with
      | nil => intro a h; simp only [spoilL]; omega
      | cons x l ihl =>
        intro a h
        simp only [spoilL]
        split
        · rename_i h0
          have h1 := ih x (by simp) a h0
          have h2 := ihl (fun t ht => ih t (by simp [ht])) (spoilT q v s x a).2 h1.1
          simp only
          omega
        · simp only; omega
    intro a h
    unfold spoilT
    split
    · simp only; omega
    · have := hL (a - 1) (by omega)
      simp only
      omega
theorem spoilL_bd (q : Nat) (v : Int) (s : ByteArray) (l : List T) : ∀ a, -1 ≤ a → -1 ≤ (spoilL q v s l a).2 ∧ (spoilL q v s l a).2 ≤ a := by
  induction l with
  | nil => intro a h; simp only [spoilL]; omega
  | cons x l ihl =>
    intro a h
    simp only [spoilL]
    split
    · rename_i h0
      have h1 := spoilT_bd q v s x a h0
      have h2 := ihl (spoilT q v s x a).2 h1.1
      simp only
      omega
    · simp only; omega
theorem head_kind (q : Nat) (v : Int) (s : ByteArray) (t : T) : (spoilHead q v s t).kind = t.kind ∧ (spoilHead q v s t).k = t.k ∨ ((spoilHead q v s t).kind = 0 ∨ (spoilHead q v s t).kind = 1 ∨ (spoilHead q v s t).kind = 11) ∧ (spoilHead q v s t).k = [] := by
  unfold spoilHead
  split
  · exact .inr ⟨.inl rfl, rfl⟩
  · split
    · exact .inl ⟨rfl, rfl⟩
    · split
      · exact .inl ⟨rfl, rfl⟩
      · split
        · split
          · exact .inr ⟨.inr (.inl rfl), rfl⟩
          · exact .inr ⟨.inr (.inr rfl), rfl⟩
        · exact .inl ⟨rfl, rfl⟩
theorem head_s (q : Nat) (v : Int) (s : ByteArray) (t : T) (h : t.s.size ≤ 2147483648) : (spoilHead q v s t).s.size ≤ 2147483648 := by
  have he : (⟨#[]⟩ : ByteArray).size ≤ 2147483648 := by decide
  unfold spoilHead
  split
  · exact he
  · split
    · have := cutTo_size s 20
      show (cutTo s 20).size ≤ _
      omega
    · split
      · exact h
      · split
        · split
          · exact he
          · exact he
        · exact h
theorem head_n (q : Nat) (v : Int) (s : ByteArray) (t : T) (hv : -9223372036854775808 ≤ v ∧ v ≤ 9223372036854775807) (h : -9223372036854775808 ≤ t.n ∧ t.n ≤ 9223372036854775807) : -9223372036854775808 ≤ (spoilHead q v s t).n ∧ (spoilHead q v s t).n ≤ 9223372036854775807 := by
  unfold spoilHead
  split
  · exact ⟨by decide, by decide⟩
  · split
    · exact h
    · split
      · exact hv
      · split
        · split
          · exact ⟨by decide, by decide⟩
          · exact ⟨by decide, by decide⟩
        · exact h
theorem shaped_iff (t : T) : t.Shaped ↔ (t.kind = 13 ∨ t.kind = 15 ∨ t.kind = 16 → t.k.length = 2) ∧ (t.kind = 14 → t.k.length = 1) ∧ (t.kind = 13 ∨ t.kind = 14 ∨ t.kind = 15 ∨ t.kind = 16 ∨ t.k = []) ∧ -9223372036854775808 ≤ t.n ∧ t.n ≤ 9223372036854775807 ∧ t.s.size ≤ 2147483648 ∧ ShapedL t.k := by
  cases t
  unfold T.Shaped
  exact Iff.rfl
theorem shapedL_of : ∀ {l : List T}, (∀ t ∈ l, t.Shaped) → ShapedL l := by
  intro l
  induction l with
  | nil => intro _; unfold ShapedL; trivial
  | cons x l ih => intro h; unfold ShapedL; exact ⟨h x (by simp), ih (fun t ht => h t (by simp [ht]))⟩
theorem spoilL_all {P : T → Prop} (q : Nat) (v : Int) (s : ByteArray) (l : List T) (h : ∀ t ∈ l, P t ∧ ∀ a, P (spoilT q v s t a).1) : ∀ a, ∀ t ∈ (spoilL q v s l a).1, P t := by
  induction l with
  | nil => intro a t ht; simp [spoilL] at ht
  | cons x l ih =>
    intro a t ht
    simp only [spoilL] at ht
    split at ht
    · simp only [List.mem_cons] at ht
      rcases ht with rfl | ht
      · exact (h x (by simp)).2 a
      · exact ih (fun t ht => h t (by simp [ht])) _ t ht
    · exact (h t ht).1
theorem spoil_shaped (q : Nat) (v : Int) (s : ByteArray) (hv : -9223372036854775808 ≤ v ∧ v ≤ 9223372036854775807) (t : T) : t.Shaped → ∀ a, (spoilT q v s t a).1.Shaped := by
  induction t using T.ind with
  | _ kind s0 n k ih =>
    intro h a
    have h' := (shaped_iff _).1 h
    obtain ⟨h2, h1, h3, hn1, hn2, hs, hk⟩ := h'
    unfold spoilT
    split
    · rw [shaped_iff]
      simp only
      have hs' := head_s q v s (.mk kind s0 n k) hs
      have hn' := head_n q v s (.mk kind s0 n k) hv ⟨hn1, hn2⟩
      rcases head_kind q v s (.mk kind s0 n k) with ⟨e1, e2⟩ | ⟨e1, e2⟩
      · rw [e1, e2]; exact ⟨h2, h1, h3, hn'.1, hn'.2, hs', hk⟩
      · rw [e2]; exact ⟨fun h => by omega, fun h => by omega, .inr (.inr (.inr (.inr rfl))), hn'.1, hn'.2, hs', by unfold ShapedL; trivial⟩
    · rw [shaped_iff]
      have hl := spoilL_len q v s k (a - 1)
      simp only [T.kind, T.k, T.s, T.n] at *
      refine ⟨fun h => by rw [hl]; exact h2 h, fun h => by rw [hl]; exact h1 h, ?_, hn1, hn2, hs, shapedL_of (spoilL_all q v s k (fun t ht => ⟨shapedL_mem hk t ht, ih t ht (shapedL_mem hk t ht)⟩) _)⟩
      rcases h3 with h | h | h | h | h
      · exact .inl h
      · exact .inr (.inl h)
      · exact .inr (.inr (.inl h))
      · exact .inr (.inr (.inr (.inl h)))
      · refine .inr (.inr (.inr (.inr ?_)))
        subst h
        simp [spoilL]
theorem head_cnt (q : Nat) (v : Int) (s : ByteArray) (t : T) : (spoilHead q v s t).cnt ≤ t.cnt := by
  have h1 : 1 ≤ t.cnt := by cases t; unfold T.cnt; omega
  unfold spoilHead
  split
  · simp [T.cnt, cntL]; exact h1
  · split
    · cases t; simp [T.cnt, T.k]
    · split
      · cases t; simp [T.cnt, T.k]
      · split
        · split
          · simp [T.cnt, cntL]; exact h1
          · simp [T.cnt, cntL]; exact h1
        · exact Nat.le_refl _
theorem spoil_cnt (q : Nat) (v : Int) (s : ByteArray) (t : T) : ∀ a, (spoilT q v s t a).1.cnt ≤ t.cnt := by
  induction t using T.ind with
  | _ kind s0 n k ih =>
    have hL : ∀ a, cntL (spoilL q v s k a).1 ≤ cntL k := by
      induction k with
      | nil => intro a; simp [spoilL]
      | cons x l ihl =>
        intro a
        simp only [spoilL]
        split
        · have h1 := ih x (by simp) a
          have h2 := ihl (fun t ht => ih t (by simp [ht])) (spoilT q v s x a).2
          simp only [cntL]
          omega
        · exact Nat.le_refl _
    intro a
    unfold spoilT
    split
    · exact head_cnt q v s _
    · have := hL (a - 1)
      simp only [T.cnt]
      omega
theorem obsL_len (l : List T) : (obsL l).length = l.length := by
  induction l with
  | nil => rfl
  | cons x l ih => simp [obsL, ih]
theorem obsOf_nodes (t : T) : (obsOf t).nodes ≤ t.cnt := by
  induction t using T.ind with
  | _ kind s n k ih =>
    unfold obsOf T.cnt
    split
    · simp [O.nodes]
    · split
      · simp [O.nodes]
      · match k, ih with
        | [], _ => simp [obsL, O.nodes]
        | [a], ih =>
          have h1 := ih a (by simp)
          simp only [obsL, cntL]
          split
          · simp only [O.nodes]; omega
          · simp [O.nodes]
        | [a, b], ih =>
          have h1 := ih a (by simp)
          have h2 := ih b (by simp)
          simp only [obsL, cntL]
          split
          · simp only [O.nodes]; omega
          · split
            · simp only [O.nodes]; omega
            · split
              · simp only [O.nodes]; omega
              · simp [O.nodes]
        | a :: b :: c :: l, _ => simp [obsL, O.nodes]

end Go.Proofs.YtagjbbdpenbcoaaDoor
namespace Go.Proofs.YtagjbbdpenbcoaaDoor
open Go.RowKit
set_option linter.unusedVariables false

theorem infoTT : (Tryd.prog.info? 30).map (fun i => (i.zero, i.size, i.bytes)) = some (some (.agg zeroT), 4, 56) := by kernel_rfl
/-- A tree stands wherever the old blocks and the new ones are as they were. -/
def Spread (W0 : World) (B : Nat) (w : World) (t : T) (v : Value) : Prop := ∀ X : World, (∀ b o c, (b < W0.heap.size ∨ B ≤ b) → w.cell? ⟨b, o, none⟩ = some c → X.cell? ⟨b, o, none⟩ = some c) → TIn X 0 t v
theorem Spread.here {W0 w : World} {B : Nat} {t : T} {v : Value} (h : Spread W0 B w t v) : TIn w 0 t v := h w (fun _ _ _ _ h => h)
theorem spread_old {W0 w : World} {B : Nat} {t : T} {v : Value} (h : TIn W0 0 t v) (hb : Below W0.heap.size W0 w) : Spread W0 B w t v :=
  fun X hX => h.kept (Nat.le_refl _) (fun b o c _ hc => hX b o c (.inl (World.block_lt_of_cell? W0 _ hc)) ((hb.cell (p := ⟨b, o, none⟩) (World.block_lt_of_cell? W0 _ hc)).trans hc))
theorem spread_leaf {W0 w : World} {B : Nat} (kind : Int) (s : ByteArray) (n : Int) : Spread W0 B w (.mk kind s n []) (.agg #[.int .i64 kind, .string s, .int .i64 n, .slice none 0 0]) := fun X _ => tin_leaf X 0 kind s n
def SpoilPost (W0 w : World) (r : T × Int) (e : Ending) (w' : World) : Prop :=
  ∃ ka kc, e = .returned (.tuple #[.agg (four r.1 ka kc), .int .i64 r.2]) ∧ Spread W0 w.heap.size w' r.1 (.agg (four r.1 ka kc)) ∧ Below w.heap.size w w'
theorem tin_parts {X : World} {t : T} {a : Option Addr} {cap : Nat} (h : TIn X 0 t (.agg #[.int .i64 t.kind, .string t.s, .int .i64 t.n, .slice a t.k.length cap])) (kind : Int) (s : ByteArray) (n : Int) : TIn X 0 (.mk kind s n t.k) (.agg #[.int .i64 kind, .string s, .int .i64 n, .slice a t.k.length cap]) := by
  obtain ⟨a', cap', e, h4, h5, h6⟩ := h
  simp at e
  obtain ⟨rfl, rfl⟩ := e
  exact ⟨a, cap, rfl, h4, h5, h6⟩

set_option maxHeartbeats 2000000 in
set_option maxRecDepth 100000 in
theorem spoil_head (W0 : World) (t : T) (what v : Int) (s : ByteArray) (hw1 : -9223372036854775808 ≤ what) (hw2 : what ≤ 9223372036854775807) (hs : s.size ≤ maxLen) (w : World) (x : Value) (hx : TIn W0 0 t x) (hb : Below W0.heap.size W0 w) :
    Calls Tryd.prog 56 #[x, .int .i64 0, .int .i64 what, .int .i64 v, .string s] w (SpoilPost W0 w (spoilHead (what % 5).toNat v s t, -1)) := by
  obtain ⟨q, hq⟩ : ∃ q : Nat, what % 5 = q := ⟨(what % 5).toNat, by omega⟩
  have hq5 : q = 0 ∨ q = 1 ∨ q = 2 ∨ q = 3 ∨ q = 4 := by omega
  have HX := hidIn hx
  obtain ⟨a, cap, rfl, _, _, _⟩ := hx
  have HB0 := hidIn hb
  have HQ : Hid ((what % 5).toNat = q) := by show _ = _; omega
  have hsz : w.heap.size + 1 ≠ w.heap.size := by omega
  clear hb
  go_enter Tryd.func56, Tryd.ntmps56
  go_wp2_with fail
  obtain ⟨W, hW⟩ : ∃ W, W = (w.alloc (.cells #[.int .i64 t.kind, .string t.s, .int .i64 t.n, .slice a t.k.length cap] 30)).alloc (.cells #[.int .i64 0, .string ⟨#[]⟩, .int .i64 0, .slice none 0 0] 30) := ⟨_, rfl⟩
  have HB : Hid (Below w.heap.size w W) := by rw [hW]; exact below_alloc (below_alloc (Below.refl _ _) _) _
  have hP : Blk W w.heap.size 30 #[.int .i64 t.kind, .string t.s, .int .i64 t.n, .slice a t.k.length cap] := by rw [hW]; exact blk_keep (blk_new rfl) _
  have hZ : Blk W (w.heap.size + 1) 30 zeroT := by rw [hW]; exact blk_new (by simp)
  have HSX : Hid (∀ (B : Nat) (X : World), Below w.heap.size w X → Spread W0 B X t (.agg #[.int .i64 t.kind, .string t.s, .int .i64 t.n, .slice a t.k.length cap])) := fun B X hX => spread_old HX.out (HB0.out.trans (hX.mono HB0.out.size))
  rw [← hW]
  clear hW
  have c0 := hP.cell 0
  have c1 := hP.cell 1
  have c2 := hP.cell 2
  have c3 := hP.cell 3
  have e0 := hP.frozen 0
  have e1 := hP.frozen 1
  have e2 := hP.frozen 2
  have e3 := hP.frozen 3
  obtain ⟨⟨z0, z1, z2, z3⟩, f0, f1, f2, f3⟩ := blk_zero hZ
  have HP := hidIn hP
  have HZ := hidIn hZ
  have HSS := hidIn hs
  clear hP hZ hs HX
  refine calls_same (within_any _ 5 _ (by omega) (by omega) hw1 hw2) ?_
  rw [hq]
  clear hq hw1 hw2
  rcases hq5 with rfl | rfl | rfl | rfl | rfl
  · go_wp2_with fail
    refine bodyPost_ret (results_cell_slot rfl _ _ (w.heap.size + 1) 30 #[.int .i64 0, .string ⟨#[]⟩, .int .i64 0, .slice none 0 0] (0, 0) _ rfl ?blk Tryd.underlying30 rfl infoT) rfl ?post
    case blk => change Blk _ _ _ _; (with_reducible refine blk_set4' ?_ _ _ _ _); (repeat first | with_reducible exact HZ.out | with_reducible refine blk_other ?_ hsz _ _)
    case post =>
      rw [HQ.out]
      change SpoilPost W0 w (T.mk 0 ⟨#[]⟩ 0 [], -1) _ _
      refine ⟨_, _, rfl, spread_leaf _ _ _, ?_⟩
      all_goals (repeat first | with_reducible exact HB.out | with_reducible refine below_set ?_ (by omega) _ _)
  · go_wp2_with fail
    refine calls_same (text_any _ 20 _ HSS.out (by omega)) ?_
    go_wp2_with fail
    refine bodyPost_ret (results_cell_slot rfl _ _ (w.heap.size + 1) 30 #[.int .i64 t.kind, .string (cutTo s 20), .int .i64 t.n, .slice a t.k.length cap] (0, 0) _ rfl ?blk Tryd.underlying30 rfl infoT) rfl ?post
    case blk => change Blk _ _ _ _; (with_reducible refine blk_set4' ?_ _ _ _ _); (repeat first | with_reducible exact HZ.out | with_reducible refine blk_other ?_ hsz _ _)
    case post =>
      rw [HQ.out]
      change SpoilPost W0 w (T.mk t.kind (cutTo s 20) t.n t.k, -1) _ _
      refine ⟨_, _, rfl, (fun X hX => tin_parts (HSX.out _ _ ?_ X hX) _ _ _), ?_⟩
      all_goals (repeat first | with_reducible exact HB.out | with_reducible refine below_set ?_ (by omega) _ _)
  · go_wp2_with fail
    refine bodyPost_ret (results_cell_slot rfl _ _ (w.heap.size + 1) 30 #[.int .i64 t.kind, .string t.s, .int .i64 v, .slice a t.k.length cap] (0, 0) _ rfl ?blk Tryd.underlying30 rfl infoT) rfl ?post
    case blk => change Blk _ _ _ _; (with_reducible refine blk_set4' ?_ _ _ _ _); (repeat first | with_reducible exact HZ.out | with_reducible refine blk_other ?_ hsz _ _)
    case post =>
      rw [HQ.out]
      change SpoilPost W0 w (T.mk t.kind t.s v t.k, -1) _ _
      refine ⟨_, _, rfl, (fun X hX => tin_parts (HSX.out _ _ ?_ X hX) _ _ _), ?_⟩
      all_goals (repeat first | with_reducible exact HB.out | with_reducible refine below_set ?_ (by omega) _ _)
  · by_cases h11 : 11 ≤ t.kind
    · go_wp2_with fail
      refine bodyPost_ret (results_cell_slot rfl _ _ (w.heap.size + 1) 30 #[.int .i64 1, .string ⟨#[]⟩, .int .i64 0, .slice none 0 0] (0, 0) _ rfl ?blk Tryd.underlying30 rfl infoT) rfl ?post
      case blk => change Blk _ _ _ _; (with_reducible refine blk_set4' ?_ _ _ _ _); (repeat first | with_reducible exact HZ.out | with_reducible refine blk_other ?_ hsz _ _)
      case post =>
        rw [HQ.out, show spoilHead 3 v s t = T.mk 1 ⟨#[]⟩ 0 [] from if_pos h11]
        refine ⟨_, _, rfl, spread_leaf _ _ _, ?_⟩
        all_goals (repeat first | with_reducible exact HB.out | with_reducible refine below_set ?_ (by omega) _ _)
    · go_wp2_with fail
      refine bodyPost_ret (results_cell_slot rfl _ _ (w.heap.size + 1) 30 #[.int .i64 11, .string ⟨#[]⟩, .int .i64 1, .slice none 0 0] (0, 0) _ rfl ?blk Tryd.underlying30 rfl infoT) rfl ?post
      case blk => change Blk _ _ _ _; (with_reducible refine blk_set4' ?_ _ _ _ _); (repeat first | with_reducible exact HZ.out | with_reducible refine blk_other ?_ hsz _ _)
      case post =>
        rw [HQ.out, show spoilHead 3 v s t = T.mk 11 ⟨#[]⟩ 1 [] from if_neg (Int.not_le.2 h11)]
        refine ⟨_, _, rfl, spread_leaf _ _ _, ?_⟩
        all_goals (repeat first | with_reducible exact HB.out | with_reducible refine below_set ?_ (by omega) _ _)
  · go_wp2_with fail
    refine bodyPost_ret (results_cell_slot rfl _ _ (w.heap.size + 1) 30 #[.int .i64 t.kind, .string t.s, .int .i64 t.n, .slice a t.k.length cap] (0, 0) _ rfl ?blk Tryd.underlying30 rfl infoT) rfl ?post
    case blk => change Blk _ _ _ _; (with_reducible refine blk_set4' ?_ _ _ _ _); (repeat first | with_reducible exact HZ.out | with_reducible refine blk_other ?_ hsz _ _)
    case post =>
      rw [HQ.out]
      change SpoilPost W0 w (t, -1) _ _
      refine ⟨_, _, rfl, (HSX.out _ _ ?_), ?_⟩
      all_goals (repeat first | with_reducible exact HB.out | with_reducible refine below_set ?_ (by omega) _ _)

/-- The cells of trees, one behind another. -/
def CellsAt (cur : Array Value) (j : Nat) (t : T) (ka : Option Addr) (kc : Nat) : Prop := cur[j * 4]? = some (.int .i64 t.kind) ∧ cur[j * 4 + 1]? = some (.string t.s) ∧ cur[j * 4 + 2]? = some (.int .i64 t.n) ∧ cur[j * 4 + 3]? = some (.slice ka t.k.length kc)
/-- A row of trees in block R: each stands wherever the old blocks and those behind R are as they were. -/
def RowIn (W0 : World) (R : Nat) (w : World) (cur : Array Value) (l : List T) : Prop := ∀ j t, l[j]? = some t → ∃ ka kc, CellsAt cur j t ka kc ∧ Spread W0 (R + 1) w t (.agg (four t ka kc))
theorem Spread.next {W0 w w' : World} {B : Nat} {t : T} {v : Value} (h : Spread W0 B w t v) (hc : ∀ b o c, (b < W0.heap.size ∨ B ≤ b) → w.cell? ⟨b, o, none⟩ = some c → w'.cell? ⟨b, o, none⟩ = some c) : Spread W0 B w' t v :=
  fun X hX => h X (fun b o c hb hw => hX b o c hb (hc b o c hb hw))
theorem Spread.low {W0 w : World} {B B' : Nat} {t : T} {v : Value} (h : Spread W0 B w t v) (hB : B' ≤ B) : Spread W0 B' w t v :=
  fun X hX => h X (fun b o c hb hw => hX b o c (by omega) hw)
theorem RowIn.next {W0 w w' : World} {R : Nat} {cur : Array Value} {l : List T} (h : RowIn W0 R w cur l) (hc : ∀ b o c, b ≠ R → w.cell? ⟨b, o, none⟩ = some c → w'.cell? ⟨b, o, none⟩ = some c) (hR : W0.heap.size ≤ R) : RowIn W0 R w' cur l := by
  intro j t hj
  obtain ⟨ka, kc, h1, h2⟩ := h j t hj
  exact ⟨ka, kc, h1, h2.next (fun b o c hb hw => hc b o c (by omega) hw)⟩
def put4 (cur : Array Value) (i : Nat) (a b c d : Value) : Array Value := (((cur.setIfInBounds (i * 4) a).setIfInBounds (i * 4 + 1) b).setIfInBounds (i * 4 + 2) c).setIfInBounds (i * 4 + 3) d
theorem put4_same (cur : Array Value) (i : Nat) (a b c d : Value) (h : i * 4 + 3 < cur.size) : (put4 cur i a b c d)[i * 4]? = some a ∧ (put4 cur i a b c d)[i * 4 + 1]? = some b ∧ (put4 cur i a b c d)[i * 4 + 2]? = some c ∧ (put4 cur i a b c d)[i * 4 + 3]? = some d := by
  unfold put4
  refine ⟨?_, ?_, ?_, ?_⟩ <;> simp [Array.getElem?_setIfInBounds] <;> omega
theorem put4_other (cur : Array Value) (i j : Nat) (a b c d : Value) (h : j ≠ i) (x : Nat) (hx : x < 4) : (put4 cur i a b c d)[j * 4 + x]? = cur[j * 4 + x]? := by
  unfold put4
  rw [Array.getElem?_setIfInBounds_ne (by omega), Array.getElem?_setIfInBounds_ne (by omega), Array.getElem?_setIfInBounds_ne (by omega), Array.getElem?_setIfInBounds_ne (by omega)]
theorem RowIn.put {W0 w : World} {R : Nat} {cur : Array Value} {l : List T} {i : Nat} {x t : T} {ka : Option Addr} {kc : Nat} (h : RowIn W0 R w cur l) (hi : l[i]? = some x) (hc : i * 4 + 3 < cur.size) (ht : Spread W0 (R + 1) w t (.agg (four t ka kc))) : RowIn W0 R w (put4 cur i (.int .i64 t.kind) (.string t.s) (.int .i64 t.n) (.slice ka t.k.length kc)) (l.set i t) := by
  intro j u hj
  by_cases hji : j = i
  · subst hji
    have hl := (List.getElem?_eq_some_iff.1 hi).1
    rw [List.getElem?_set_self hl] at hj
    injection hj with hj
    subst hj
    exact ⟨ka, kc, put4_same cur j _ _ _ _ hc, ht⟩
  · rw [List.getElem?_set_ne (fun e => hji e.symm)] at hj
    obtain ⟨kb, kd, h1, h2⟩ := h j u hj
    refine ⟨kb, kd, ?_, h2⟩
    obtain ⟨c0, c1, c2, c3⟩ := h1
    exact ⟨(put4_other cur i j _ _ _ _ hji 0 (by omega)).trans c0, (put4_other cur i j _ _ _ _ hji 1 (by omega)).trans c1, (put4_other cur i j _ _ _ _ hji 2 (by omega)).trans c2, (put4_other cur i j _ _ _ _ hji 3 (by omega)).trans c3⟩
/-- The cells of parts that lie in memory. -/
def rowCells (l : List T) (f : Nat → Option Addr × Nat) : Nat → List Value
  | i => match l with
    | [] => []
    | t :: r => .int .i64 t.kind :: .string t.s :: .int .i64 t.n :: .slice (f i).1 t.k.length (f i).2 :: rowCells r f (i + 1)
theorem rowCells_len (f : Nat → Option Addr × Nat) (l : List T) : ∀ i, (rowCells l f i).length = l.length * 4 := by
  induction l with
  | nil => intro i; simp [rowCells]
  | cons t l ih => intro i; simp only [rowCells, List.length_cons, ih]; omega
theorem rowCells_get (f : Nat → Option Addr × Nat) (l : List T) : ∀ i j t, l[j]? = some t → (rowCells l f i)[j * 4]? = some (.int .i64 t.kind) ∧ (rowCells l f i)[j * 4 + 1]? = some (.string t.s) ∧ (rowCells l f i)[j * 4 + 2]? = some (.int .i64 t.n) ∧ (rowCells l f i)[j * 4 + 3]? = some (.slice (f (i + j)).1 t.k.length (f (i + j)).2) := by
  induction l with
  | nil => intro i j t h; simp at h
  | cons u l ih =>
    intro i j t h
    cases j with
    | zero => simp at h; subst h; simp [rowCells]
    | succ j =>
      simp at h
      have := ih (i + 1) j t h
      simp only [rowCells]
      rw [show (j + 1) * 4 = j * 4 + 1 + 1 + 1 + 1 by omega, show i + (j + 1) = i + 1 + j by omega]
      simpa using this
theorem rowCells_one (f : Nat → Option Addr × Nat) (l : List T) : ∀ i, ∀ u ∈ rowCells l f i, u.oneCell' = true := by
  induction l with
  | nil => intro i u hu; simp [rowCells] at hu
  | cons t l ih =>
    intro i u hu
    simp only [rowCells, List.mem_cons] at hu
    rcases hu with rfl | rfl | rfl | rfl | hu
    · rfl
    · rfl
    · rfl
    · rfl
    · exact ih (i + 1) u hu
theorem kat_row {w : World} {l : List T} {b o : Nat} (h : KAt w 0 l (some ⟨b, o, none⟩) 0) : ∃ f : Nat → Option Addr × Nat, (∀ j t, l[j]? = some t → TIn w 0 t (.agg (four t (f j).1 (f j).2))) ∧ ∀ (j : Nat) (u : Value), (rowCells l f 0)[j]? = some u → w.cell? ((⟨b, o, none⟩ : Addr).add j) = some u := by
  have hx : ∀ j, ∃ p : Option Addr × Nat, ∀ t, l[j]? = some t → w.cell? ⟨b, o + j * 4, none⟩ = some (.int .i64 t.kind) ∧ w.cell? ⟨b, o + j * 4 + 1, none⟩ = some (.string t.s) ∧ w.cell? ⟨b, o + j * 4 + 2, none⟩ = some (.int .i64 t.n) ∧ w.cell? ⟨b, o + j * 4 + 3, none⟩ = some (.slice p.1 t.k.length p.2) ∧ TIn w 0 t (.agg (four t p.1 p.2)) := by
    intro j
    cases hj : l[j]? with
    | none => exact ⟨(none, 0), fun t ht => by cases ht⟩
    | some t =>
      obtain ⟨b', o', ka, kc, e, c0, c1, c2, c3, ht⟩ := h.cells hj
      injection e with e
      injection e with e1 e2
      subst e1 e2
      exact ⟨(ka, kc), fun t' ht' => by injection ht' with ht'; subst ht'; exact ⟨c0, c1, c2, c3, ht⟩⟩
  refine ⟨fun j => Classical.choose (hx j), fun j t hj => ((Classical.choose_spec (hx j)) t hj).2.2.2.2, ?_⟩
  intro j u hu
  have hlen := (List.getElem?_eq_some_iff.1 hu).1
  rw [rowCells_len] at hlen
  obtain ⟨q, r, hr, rfl⟩ : ∃ q r, r < 4 ∧ j = q * 4 + r := ⟨j / 4, j % 4, Nat.mod_lt _ (by omega), by omega⟩
  obtain ⟨t, ht⟩ : ∃ t, l[q]? = some t := ⟨_, List.getElem?_eq_getElem (by omega)⟩
  have hg := rowCells_get (fun j => Classical.choose (hx j)) l 0 q t ht
  have hs := (Classical.choose_spec (hx q)) t ht
  rw [Nat.zero_add] at hg
  rw [Go.WideShapes.add_plain, ← Nat.add_assoc]
  have h4 : r = 0 ∨ r = 1 ∨ r = 2 ∨ r = 3 := by omega
  rcases h4 with rfl | rfl | rfl | rfl
  · rw [Nat.add_zero] at hu ⊢; rw [hg.1] at hu; injection hu with hu; subst hu; exact hs.1
  · rw [hg.2.1] at hu; injection hu with hu; subst hu; exact hs.2.1
  · rw [hg.2.2.1] at hu; injection hu with hu; subst hu; exact hs.2.2.1
  · rw [hg.2.2.2] at hu; injection hu with hu; subst hu; exact hs.2.2.2.1

end Go.Proofs.YtagjbbdpenbcoaaDoor
namespace Go.Proofs.YtagjbbdpenbcoaaDoor
open Go.RowKit
set_option linter.unusedVariables false

theorem len_cnt (l : List T) : l.length ≤ cntL l := by
  induction l with
  | nil => simp
  | cons t l ih => have h1 : 1 ≤ t.cnt := by cases t; unfold T.cnt; omega
                   simp only [cntL, List.length_cons]; omega
theorem cell_set4 {W : World} {R i : Nat} {a b c d : Value} {k o : Nat} (h : k ≠ R) : ((((W.setCell ⟨R, i, none⟩ a).setCell ⟨R, i + 1, none⟩ b).setCell ⟨R, i + 2, none⟩ c).setCell ⟨R, i + 3, none⟩ d).cell? ⟨k, o, none⟩ = W.cell? ⟨k, o, none⟩ := by
  rw [World.cell?_setCell_other _ _ _ _ (by intro e; injection e with e; exact h e.symm), World.cell?_setCell_other _ _ _ _ (by intro e; injection e with e; exact h e.symm), World.cell?_setCell_other _ _ _ _ (by intro e; injection e with e; exact h e.symm), World.cell?_setCell_other _ _ _ _ (by intro e; injection e with e; exact h e.symm)]
theorem blk_put4 {W : World} {R ty : Nat} {cur : Array Value} (h : Blk W R ty cur) (i : Nat) (a b c d : Value) : Blk ((((W.setCell ⟨R, i * 4, none⟩ a).setCell ⟨R, i * 4 + 1, none⟩ b).setCell ⟨R, i * 4 + 2, none⟩ c).setCell ⟨R, i * 4 + 3, none⟩ d) R ty (put4 cur i a b c d) :=
  (((h.set _ a).set _ b).set _ c).set _ d
theorem put4_size (cur : Array Value) (i : Nat) (a b c d : Value) : (put4 cur i a b c d).size = cur.size := by simp [put4]
/-- What stands in the row behind so many rounds. -/
def rowAt (q : Nat) (v : Int) (s : ByteArray) (k : List T) (a : Int) (i : Nat) : List T := (spoilL q v s (k.take i) a).1 ++ k.drop i
theorem rowAt_get (q : Nat) (v : Int) (s : ByteArray) (k : List T) (a : Int) (i : Nat) (hi : i < k.length) : (rowAt q v s k a i)[i]? = k[i]? := by
  have hl := spoilL_len q v s (k.take i) a
  rw [List.length_take, Nat.min_eq_left (by omega)] at hl
  unfold rowAt
  rw [List.getElem?_append_right (by omega), hl, Nat.sub_self, List.getElem?_drop, Nat.add_zero]
theorem rowAt_len (q : Nat) (v : Int) (s : ByteArray) (k : List T) (a : Int) (i : Nat) : (rowAt q v s k a i).length = k.length := by
  have hl := spoilL_len q v s (k.take i) a
  unfold rowAt
  rw [List.length_append, hl, ← List.length_append, List.take_append_drop]
theorem rowAt_next (q : Nat) (v : Int) (s : ByteArray) (k : List T) (a : Int) (i : Nat) (t : T) (ht : k[i]? = some t) : rowAt q v s k a (i + 1) = (if 0 ≤ (spoilL q v s (k.take i) a).2 then (rowAt q v s k a i).set i (spoilT q v s t (spoilL q v s (k.take i) a).2).1 else rowAt q v s k a i) ∧ (spoilL q v s (k.take (i + 1)) a).2 = if 0 ≤ (spoilL q v s (k.take i) a).2 then (spoilT q v s t (spoilL q v s (k.take i) a).2).2 else (spoilL q v s (k.take i) a).2 := by
  have hi := (List.getElem?_eq_some_iff.1 ht).1
  have hl := spoilL_len q v s (k.take i) a
  rw [List.length_take, Nat.min_eq_left (by omega)] at hl
  have hd : k.drop i = t :: k.drop (i + 1) := by
    rw [List.drop_eq_getElem_cons hi]
    congr 1
    exact (List.getElem?_eq_some_iff.1 ht).2
  unfold rowAt
  rw [take_more _ _ _ ht, spoilL_snoc, hd]
  split
  · simp only [List.append_assoc, List.singleton_append]
    rw [List.set_append_right _ _ (by omega), hl, Nat.sub_self, List.set_cons_zero]
    simp
  · simp

/-- Parts that are as they were from a place on. -/
def OldIn (W0 : World) (cur : Array Value) (k : List T) (i : Nat) : Prop := ∀ j t, i ≤ j → k[j]? = some t → ∃ ka kc, CellsAt cur j t ka kc ∧ TIn W0 0 t (.agg (four t ka kc))
theorem OldIn.put {W0 : World} {cur : Array Value} {k : List T} {i : Nat} (h : OldIn W0 cur k i) (a b c d : Value) : OldIn W0 (put4 cur i a b c d) k (i + 1) := by
  intro j t hj ht
  obtain ⟨ka, kc, ⟨c0, c1, c2, c3⟩, h2⟩ := h j t (by omega) ht
  exact ⟨ka, kc, ⟨(put4_other cur i j _ _ _ _ (by omega) 0 (by omega)).trans c0, (put4_other cur i j _ _ _ _ (by omega) 1 (by omega)).trans c1, (put4_other cur i j _ _ _ _ (by omega) 2 (by omega)).trans c2, (put4_other cur i j _ _ _ _ (by omega) 3 (by omega)).trans c3⟩, h2⟩
/-- A copy of a tree's parts. -/
structure KidsRow (W0 w w' : World) (ro : Option Addr) (c2 R : Nat) (cur : Array Value) (k : List T) : Prop where
  cap : k.length ≤ c2 ∧ c2 ≤ 9223372036854775807
  at_ : k ≠ [] → ro = some ⟨R, 0, none⟩ ∧ Blk w' R 30 cur ∧ k.length * 4 ≤ cur.size
  base : w.heap.size ≤ R
  row : RowIn W0 R w' cur k
  old : OldIn W0 cur k 0
  below : Below w.heap.size w w'
theorem run_append_nil (w : World) (ty cap : Nat) : (Builtin.append_ #[28, 28] ty #[.slice none 0 0, .slice none 0 cap]).run Tryd.prog w = .ok (.slice none 0 0) w := by
  obtain ⟨i0, hi, hz0, hz1, hz2⟩ := info_parts infoTT
  simp [Builtin.append_, run_underlying Tryd.underlying28, sizeOf, typeInfo, hi, Builtin.lenOf, Builtin.firstCells]
theorem wpList_append_kids {ops : Array Oper} {rest : List Oper} {o : Oper} {a : Act} {Q : Exit → Act → World → Prop} (w : World) (hgd : o.guard = none) (s x : Operand)
    (ho : o.op = .call { callee := .builtin .append, args := #[s, x], argTypes := #[28, 28] })
    (hs : a.eval s = .slice none 0 0) (k : List T) (ao : Option Addr) (cap : Nat) (hx : a.eval x = .slice ao k.length cap) (W0 : World) (hK : KAt W0 0 k ao 0) (hb : Below W0.heap.size W0 w) (hkl : k.length ≤ 1000000)
    (h : ∀ ro c2 R cur w', KidsRow W0 w w' ro c2 R cur k → wpList Tryd.prog ops Q rest (a.put o.dst (.slice ro k.length c2)) w') : wpList Tryd.prog ops Q (o :: rest) a w := by
  obtain ⟨i0, hi, hz0, hz1, hz2⟩ := info_parts infoTT
  cases ao with
  | none =>
    have hk : k = [] := by
      cases k with
      | nil => rfl
      | cons t l => exfalso; unfold KAt at hK; obtain ⟨⟨b, o, e, _⟩, _⟩ := hK; cases e
    subst hk
    refine wpList_plain hgd fun K hKK => ?_
    have hrun := run_append_nil w o.type cap
    have hk2 := h none 0 w.heap.size #[] w ⟨⟨Nat.le_refl _, by simp⟩, fun hn => absurd rfl hn, Nat.le_refl _, fun j t hj => by simp at hj, fun j t _ hj => by simp at hj, Below.refl _ _⟩
    unfold Oper.wp
    simp at hx
    simp [execOp, ho, resolve, invoke, builtin, hs, hx, hrun, Result.andThen]
    exact hKK _ _ hk2
  | some ad =>
    obtain ⟨f, hT, hC⟩ : ∃ f : Nat → Option Addr × Nat, (∀ j t, k[j]? = some t → TIn W0 0 t (.agg (four t (f j).1 (f j).2))) ∧ ∀ (j : Nat) (u : Value), (rowCells k f 0)[j]? = some u → W0.cell? (ad.add j) = some u := by
      cases k with
      | nil => exact ⟨fun _ => (none, 0), fun j t hj => by simp at hj, fun j u hj => by simp [rowCells] at hj⟩
      | cons t l =>
        have hK2 := hK
        unfold KAt at hK2
        obtain ⟨⟨b, o, e, _⟩, _⟩ := hK2
        injection e with e
        subst e
        exact kat_row hK
    refine wpList_append_own_at w hgd s x 28 ho w.heap.size 30 i0 (.agg zeroT) 4 56 Tryd.underlying28 hi hz0 hz1 hz2 rfl (by decide) _ _ _ hs (World.ownsRow_nil _ _ _ _) ad k.length cap (rowCells k f 0) hx (rowCells_len f k 0) ?_ (rowCells_one f k 0) (by unfold maxLen; omega) (by omega) (Nat.le_refl _) ?_
    · intro j u hj
      have hc := hC j u hj
      exact (hb.cell (World.block_lt_of_cell? W0 _ hc)).trans hc
    · intro v' w' hown hgrow _ _
      have hbl : Below w.heap.size w w' := (Below.refl _ _).grown hgrow (Nat.le_refl _) (fun k hk => by simp [Value.ownBlock] at hk)
      simp only [Nat.zero_add, List.nil_append] at hown
      rcases hown.2 with ⟨rfl, h0⟩ | ⟨g, c2, cur, rfl, hg, hG, hn, hm, hz, ht⟩
      · have hk : k = [] := List.length_eq_zero_iff.1 h0
        subst hk
        exact h none 0 w.heap.size #[] w' ⟨⟨Nat.le_refl _, by simp⟩, fun hn => absurd rfl hn, Nat.le_refl _, fun j t hj => by simp at hj, fun j t _ hj => by simp at hj, hbl⟩
      · have hcells : ∀ j t, k[j]? = some t → CellsAt cur j t (f j).1 (f j).2 := by
          intro j t hj
          have hjl := (List.getElem?_eq_some_iff.1 hj).1
          have hgt := rowCells_get f k 0 j t hj
          have hcur : ∀ m, m < k.length * 4 → cur[m]? = (rowCells k f 0)[m]? := by
            intro m hm
            rw [← ht, List.getElem?_take, if_pos hm, Array.getElem?_toList]
          rw [Nat.zero_add] at hgt
          exact ⟨(hcur _ (by omega)).trans hgt.1, (hcur _ (by omega)).trans hgt.2.1, (hcur _ (by omega)).trans hgt.2.2.1, (hcur _ (by omega)).trans hgt.2.2.2⟩
        exact h _ c2 g cur w' ⟨⟨hn, by unfold maxLen at hm; omega⟩, fun _ => ⟨rfl, hG, by omega⟩, hg, fun j t hj => ⟨(f j).1, (f j).2, hcells j t hj, spread_old (hT j t hj) (hb.trans (hbl.mono hb.size))⟩, fun j t _ hj => ⟨(f j).1, (f j).2, hcells j t hj, hT j t hj⟩, hbl⟩

set_option maxHeartbeats 4000000 in
set_option maxRecDepth 100000 in
theorem spoil_any (what v : Int) (s : ByteArray) (hw1 : -9223372036854775808 ≤ what) (hw2 : what ≤ 9223372036854775807) (hs : s.size ≤ maxLen) (W0 : World) (t : T) : t.cnt ≤ 999990 → ∀ (a : Int), 0 ≤ a → a ≤ 4611686018427387904 → ∀ (w : World) (x : Value), TIn W0 0 t x → Below W0.heap.size W0 w →
    Calls Tryd.prog 56 #[x, .int .i64 a, .int .i64 what, .int .i64 v, .string s] w (SpoilPost W0 w (spoilT (what % 5).toNat v s t a)) := by
  induction t using T.ind with
  | _ kind s0 n k ih =>
  intro hcnt a ha0 ha1 w x hx hb
  by_cases h0 : a = 0
  · subst h0
    have h := spoil_head W0 (.mk kind s0 n k) what v s hw1 hw2 hs w x hx hb
    have he : spoilT (what % 5).toNat v s (.mk kind s0 n k) 0 = (spoilHead (what % 5).toNat v s (.mk kind s0 n k), -1) := by unfold spoilT; rw [if_pos rfl]
    rw [he]
    exact h
  · have HR : Hid (spoilT (what % 5).toNat v s (.mk kind s0 n k) a = (.mk kind s0 n (spoilL (what % 5).toNat v s k (a - 1)).1, (spoilL (what % 5).toNat v s k (a - 1)).2)) := by unfold Hid spoilT; rw [if_neg h0]
    have h0' : (a == 0) = false := by rw [beq_eq_false_iff_ne]; exact h0
    have hct : (T.mk kind s0 n k).cnt = cntL k + 1 := by rw [T.cnt]
    rw [hct] at hcnt
    have hkl : k.length ≤ 1000000 := by have := len_cnt k; omega
    have HIH : Hid (∀ t ∈ k, ∀ (a : Int), 0 ≤ a → a ≤ 4611686018427387904 → ∀ (w : World) (x : Value), TIn W0 0 t x → Below W0.heap.size W0 w → Calls Tryd.prog 56 #[x, .int .i64 a, .int .i64 what, .int .i64 v, .string s] w (SpoilPost W0 w (spoilT (what % 5).toNat v s t a))) := fun t ht => ih t ht (by have := cntL_mem k t ht; omega)
    clear ih hct hcnt
    obtain ⟨ao, cap, rfl, hc1, hc2, hK⟩ := hx
    simp only [T.kind, T.s, T.n, T.k] at hc1 hK ⊢
    have HK := hidIn hK
    have HB0 := hidIn hb
    clear hK hb
    generalize (what % 5).toNat = q at *
    go_enter Tryd.func56, Tryd.ntmps56
    go_wp2_with (first
      | (at_builtin; refine wpList_append_kids _ rfl _ _ rfl rfl k ao cap rfl W0 HK.out (HB0.out.trans (Below.mono (below_alloc (below_alloc (Below.refl _ _) _) _) HB0.out.size)) hkl ?_; intro ro c2 R cur w1 hrow)
      | go_in)
    obtain ⟨W, hW⟩ : ∃ W, W = (w.alloc (.cells #[.int .i64 kind, .string s0, .int .i64 n, .slice ao k.length cap] 30)).alloc (.cells #[.int .i64 0, .string ⟨#[]⟩, .int .i64 0, .slice none 0 0] 30) := ⟨_, rfl⟩
    rw [← hW] at hrow
    have HB : Hid (Below w.heap.size w W) := by rw [hW]; exact below_alloc (below_alloc (Below.refl _ _) _) _
    have HPW : Hid (Blk W w.heap.size 30 #[.int .i64 kind, .string s0, .int .i64 n, .slice ao k.length cap]) := by rw [hW]; exact blk_keep (blk_new rfl) _
    have HZW : Hid (Blk W (w.heap.size + 1) 30 zeroT) := by rw [hW]; exact blk_new (by simp)
    have HWS : Hid (W.heap.size = w.heap.size + 2) := by unfold Hid; rw [hW]; simp
    have HROW := hidIn hrow
    clear hW hrow
    go_loopw [45, 1] (fun s45 s1 wr => ∃ (i : Nat) (cr : Array Value), i ≤ k.length ∧ s45 = .int .i64 i ∧ s1 = .int .i64 (spoilL q v s (k.take i) (a - 1)).2 ∧ (k ≠ [] → Blk wr R 30 cr ∧ k.length * 4 ≤ cr.size) ∧ RowIn W0 R wr cr (rowAt q v s k (a - 1) i) ∧ OldIn W0 cr k i ∧ Below W.heap.size W wr) (fun s45 _ _ => k.length - (intOf s45).toNat)
    case atStart => exact ⟨0, cur, by omega, rfl, by rw [List.take_zero, spoilL], fun hn => (HROW.out.at_ hn).2, by have h := HROW.out.row; simpa [rowAt, spoilL] using h, HROW.out.old, HROW.out.below⟩
    case round =>
      obtain ⟨i, cr, hi, rfl, rfl, hblk, hrow, hold, hbr⟩ := hrel
      have HBLK := hidIn hblk
      have HRW := hidIn hrow
      have HOLD := hidIn hold
      have HBR := hidIn hbr
      clear hblk hrow hold hbr
      have hbd := spoilL_bd q v s (k.take i) (a - 1) (by omega)
      by_cases hlt : i < k.length
      · have hlt' : (i : Int) < (k.length : Int) := by omega
        obtain ⟨t, hti⟩ : ∃ t, k[i]? = some t := ⟨_, List.getElem?_eq_getElem hlt⟩
        have hne : k ≠ [] := by intro e; rw [e] at hlt; simp at hlt
        have HNX := hidIn (rowAt_next q v s k (a - 1) i t hti)
        have HGET := hidIn ((rowAt_get q v s k (a - 1) i hlt).trans hti)
        have HM : Hid (t ∈ k) := List.mem_of_getElem? hti
        obtain ⟨hro, _, _⟩ := HROW.out.at_ hne
        subst hro
        obtain ⟨hbk, hsz⟩ := HBLK.out hne
        generalize (spoilL q v s (k.take i) (a - 1)).2 = A at *
        by_cases hA : 0 ≤ A
        · obtain ⟨ka, kc, ⟨d0, d1, d2, d3⟩, htin⟩ := HOLD.out i t (Nat.le_refl _) hti
          have c0 : wr.cell? ⟨R, i * 4, none⟩ = _ := (hbk.cell _).trans d0
          have c1 : wr.cell? ⟨R, i * 4 + 1, none⟩ = _ := (hbk.cell _).trans d1
          have c2' : wr.cell? ⟨R, i * 4 + 2, none⟩ = _ := (hbk.cell _).trans d2
          have c3 : wr.cell? ⟨R, i * 4 + 3, none⟩ = _ := (hbk.cell _).trans d3
          have HTI := hidIn htin
          have HBK := hidIn hbk
          have HSZ := hidIn hsz
          clear htin hti d0 d1 d2 d3 hbk hsz
          go_wp2_with fail
          have HB0W := hidIn (HB0.out.trans ((HB.out.trans (HBR.out.mono HB.out.size)).mono HB0.out.size))
          refine (HIH.out t HM.out A hA (by omega) wr _ HTI.out HB0W.out).mono ?_
          rintro e w2 ⟨kb, kd, rfl, hsp, hb2⟩
          have hbd2 := spoilT_bd q v s t A hA
          generalize spoilT q v s t A = r at *
          obtain ⟨t', A2⟩ := r
          simp only [if_pos hA] at hsp hbd2 HNX ⊢
          have HBK2 : Hid (Blk w2 R 30 cr) := HBK.out.below hb2 HBK.out.lt
          have HOK : Hid (∀ m, m < k.length * 4 → ∃ u, w2.cell? ⟨R, m, none⟩ = some u) := by
            intro m hm
            have := HSZ.out
            exact ⟨cr[m]'(by omega), (HBK2.out.cell m).trans (Array.getElem?_eq_getElem _)⟩
          obtain ⟨u0, c0⟩ := HOK.out (i * 4) (by omega)
          obtain ⟨u1, c1⟩ := HOK.out (i * 4 + 1) (by omega)
          obtain ⟨u2, c2'⟩ := HOK.out (i * 4 + 2) (by omega)
          obtain ⟨u3, c3⟩ := HOK.out (i * 4 + 3) (by omega)
          have f0 := HBK2.out.frozen (i * 4)
          have f1 := HBK2.out.frozen (i * 4 + 1)
          have f2 := HBK2.out.frozen (i * 4 + 2)
          have f3 := HBK2.out.frozen (i * 4 + 3)
          have HB2 := hidIn hb2
          have HSP := hidIn hsp
          have HFIN : Hid ((k ≠ [] → Blk ((((w2.setCell ⟨R, i * 4, none⟩ (.int .i64 t'.kind)).setCell ⟨R, i * 4 + 1, none⟩ (.string t'.s)).setCell ⟨R, i * 4 + 2, none⟩ (.int .i64 t'.n)).setCell ⟨R, i * 4 + 3, none⟩ (.slice kb t'.k.length kd)) R 30 (put4 cr i (.int .i64 t'.kind) (.string t'.s) (.int .i64 t'.n) (.slice kb t'.k.length kd)) ∧ k.length * 4 ≤ (put4 cr i (.int .i64 t'.kind) (.string t'.s) (.int .i64 t'.n) (.slice kb t'.k.length kd)).size) ∧ RowIn W0 R ((((w2.setCell ⟨R, i * 4, none⟩ (.int .i64 t'.kind)).setCell ⟨R, i * 4 + 1, none⟩ (.string t'.s)).setCell ⟨R, i * 4 + 2, none⟩ (.int .i64 t'.n)).setCell ⟨R, i * 4 + 3, none⟩ (.slice kb t'.k.length kd)) (put4 cr i (.int .i64 t'.kind) (.string t'.s) (.int .i64 t'.n) (.slice kb t'.k.length kd)) ((rowAt q v s k (a - 1) i).set i t') ∧ Below W.heap.size W ((((w2.setCell ⟨R, i * 4, none⟩ (.int .i64 t'.kind)).setCell ⟨R, i * 4 + 1, none⟩ (.string t'.s)).setCell ⟨R, i * 4 + 2, none⟩ (.int .i64 t'.n)).setCell ⟨R, i * 4 + 3, none⟩ (.slice kb t'.k.length kd))) := by
            have hbase := HROW.out.base
            have hRW : W0.heap.size ≤ R := by have := HB0.out.size; have := HB.out.size; omega
            refine ⟨fun _ => ⟨blk_put4 HBK2.out i _ _ _ _, by rw [put4_size]; exact HSZ.out⟩, ?_, ?_⟩
            · have h2 : RowIn W0 R w2 cr (rowAt q v s k (a - 1) i) := HRW.out.next (fun b o c _ hc => (HB2.out.cell (p := ⟨b, o, none⟩) (World.block_lt_of_cell? _ _ hc)).trans hc) hRW
              have h3 := h2.put HGET.out (by have := HSZ.out; omega) (HSP.out.low (by have := HBK.out.lt; omega))
              exact h3.next (fun b o c hb hc => (cell_set4 hb).trans hc) hRW
            · have h4 : Below W.heap.size W w2 := HBR.out.trans (HB2.out.mono HBR.out.size)
              exact (((h4.setCell hbase _).setCell hbase _).setCell hbase _).setCell hbase _
          clear hb2 hsp
          unfold four
          go_wp2_with fail
          go_roundw
          case rel => exact ⟨i + 1, _, by omega, by go_num, by rw [HNX.out.2], HFIN.out.1, by rw [HNX.out.1]; exact HFIN.out.2.1, HOLD.out.put _ _ _ _, HFIN.out.2.2⟩
          case measure => simp [intOf]; omega
        · have hA' : A < 0 := by omega
          go_wp2_with fail
          go_roundw
          case rel =>
            have hn := HNX.out
            simp only [if_neg hA] at hn
            exact ⟨i + 1, cr, by omega, by go_num, by rw [hn.2], HBLK.out, by rw [hn.1]; exact HRW.out, fun j t hj ht => HOLD.out j t (by omega) ht, HBR.out⟩
          case measure => simp [intOf]; omega
      · have hle : i = k.length := by omega
        subst hle
        have hLk : rowAt q v s k (a - 1) k.length = (spoilL q v s k (a - 1)).1 := by simp [rowAt]
        rw [List.take_length] at hbd ⊢
        have hlen := spoilL_len q v s k (a - 1)
        have HRW2 : Hid (RowIn W0 R wr cr (spoilL q v s k (a - 1)).1) := by unfold Hid; rw [← hLk]; exact HRW.out
        have HLEN := hidIn hlen
        clear hLk HRW hlen
        generalize spoilL q v s k (a - 1) = r at *
        obtain ⟨L, A⟩ := r
        simp only at hbd HRW2 HLEN HR ⊢
        have hP := HPW.out.below HBR.out HPW.out.lt
        have hZ := HZW.out.below HBR.out HZW.out.lt
        have c0 := hP.cell 0
        have c1 := hP.cell 1
        have c2' := hP.cell 2
        have c3 := hP.cell 3
        have e0 := hP.frozen 0
        have e1 := hP.frozen 1
        have e2 := hP.frozen 2
        have e3 := hP.frozen 3
        obtain ⟨⟨z0, z1, z2, z3⟩, f0, f1, f2, f3⟩ := blk_zero hZ
        have hsz : w.heap.size + 1 ≠ w.heap.size := by omega
        have HZ := hidIn hZ
        clear hP hZ
        go_wp2_with fail
        refine bodyPost_ret (results_cell_slot rfl _ _ (w.heap.size + 1) 30 #[.int .i64 kind, .string s0, .int .i64 n, .slice ro k.length c2] (0, 0) _ rfl ?blk Tryd.underlying30 rfl infoT) rfl ?post
        case blk => change Blk _ _ _ _; (with_reducible refine blk_set4' ?_ _ _ _ _); (repeat first | with_reducible exact HZ.out | with_reducible refine blk_other ?_ hsz _ _)
        case post =>
          rw [HR.out]
          have hb3 : Below w.heap.size w wr := HB.out.trans (HBR.out.mono HB.out.size)
          refine ⟨ro, c2, ?_, ?_, ?_⟩
          · show _ = Ending.returned (.tuple #[.agg #[.int .i64 kind, .string s0, .int .i64 n, .slice ro L.length c2], .int .i64 A])
            rw [HLEN.out]
            rfl
          · intro X hX
            have hcap := HROW.out.cap
            refine ⟨ro, c2, rfl, by show L.length ≤ c2; rw [HLEN.out]; exact hcap.1, hcap.2, ?_⟩
            have hbase := HROW.out.base
            have hws := HWS.out
            have hold : ∀ b o c, (b < W0.heap.size ∨ R ≤ b) → wr.cell? ⟨b, o, none⟩ = some c → X.cell? ⟨b, o, none⟩ = some c := by
              intro b o c hb hc
              have hW0 := HB0.out.size
              refine hX b o c (by omega) ?_
              rw [World.cell?_setCell_other _ _ _ _ (by intro e; injection e with e; omega), World.cell?_setCell_other _ _ _ _ (by intro e; injection e with e; omega), World.cell?_setCell_other _ _ _ _ (by intro e; injection e with e; omega), World.cell?_setCell_other _ _ _ _ (by intro e; injection e with e; omega), World.cell?_setCell_other _ _ _ _ (by intro e; injection e with e; omega)]
              exact hc
            refine KAt_mk (fun j t hj => ?_)
            have hj' : L[j]? = some t := hj
            have hne : k ≠ [] := by
              intro e
              have h1 := (List.getElem?_eq_some_iff.1 hj').1
              rw [HLEN.out, e] at h1
              simp at h1
            obtain ⟨hro, _, _⟩ := HROW.out.at_ hne
            obtain ⟨hbk, _⟩ := HBLK.out hne
            obtain ⟨ka, kc, ⟨d0, d1, d2, d3⟩, hsp⟩ := HRW2.out j t hj'
            refine ⟨R, 0, hro, ?_⟩
            rw [Nat.zero_add, Nat.zero_add]
            exact TAt_mk (hsp X (fun b o c hb hc => hold b o c (by omega) hc)) (Nat.zero_le _) (hold _ _ _ (.inr (Nat.le_refl _)) ((hbk.cell _).trans d0)) (hold _ _ _ (.inr (Nat.le_refl _)) ((hbk.cell _).trans d1)) (hold _ _ _ (.inr (Nat.le_refl _)) ((hbk.cell _).trans d2)) (hold _ _ _ (.inr (Nat.le_refl _)) ((hbk.cell _).trans d3))
          · (repeat first | with_reducible exact hb3 | with_reducible refine below_set ?_ (by omega) _ _)

end Go.Proofs.YtagjbbdpenbcoaaDoor
namespace Go.Proofs.YtagjbbdpenbcoaaDoor
open Go.RowKit
set_option linter.unusedVariables false

def SpoiltPost (W0 w : World) (t : T) (q : Nat) (v : Int) (s : ByteArray) (e : Ending) (w' : World) : Prop :=
  ∃ a ka kc, e = .returned (.agg (four (spoilT q v s t a).1 ka kc)) ∧ Spread W0 w.heap.size w' (spoilT q v s t a).1 (.agg (four (spoilT q v s t a).1 ka kc)) ∧ Below w.heap.size w w'

set_option maxHeartbeats 2000000 in
set_option maxRecDepth 100000 in
theorem spoilt_any (t : T) (at' what v : Int) (s : ByteArray) (ha1 : -9223372036854775808 ≤ at') (ha2 : at' ≤ 9223372036854775807) (hw1 : -9223372036854775808 ≤ what) (hw2 : what ≤ 9223372036854775807) (hs : s.size ≤ maxLen) (hcnt : t.cnt ≤ 999990) (hn1 : 1 ≤ t.nodes) (hn2 : t.nodes ≤ 1000000) (W0 w : World) (x : Value) (hx : TIn W0 0 t x) (hb : Below W0.heap.size W0 w) :
    Calls Tryd.prog 34 #[x, .int .i64 at', .int .i64 what, .int .i64 v, .string s] w (SpoiltPost W0 w t (what % 5).toNat v s) := by
  have HB0 := hidIn hb
  clear hb
  have HX := hidIn hx
  obtain ⟨ao, cap, rfl, _, _, _⟩ := hx
  have HCNT := hidIn hcnt
  have HSS := hidIn hs
  clear hs hcnt
  go_enter Tryd.func34, Tryd.ntmps34
  go_wp2_with fail
  obtain ⟨W, hW⟩ : ∃ W, W = (w.alloc (.cells #[.int .i64 t.kind, .string t.s, .int .i64 t.n, .slice ao t.k.length cap] 30)).alloc (.cells #[.int .i64 0, .string ⟨#[]⟩, .int .i64 0, .slice none 0 0] 30) := ⟨_, rfl⟩
  have HB : Hid (Below w.heap.size w W) := by rw [hW]; exact below_alloc (below_alloc (Below.refl _ _) _) _
  have HP : Hid (Blk W w.heap.size 30 #[.int .i64 t.kind, .string t.s, .int .i64 t.n, .slice ao t.k.length cap]) := by rw [hW]; exact blk_keep (blk_new rfl) _
  have HZ : Hid (Blk W (w.heap.size + 1) 30 zeroT) := by rw [hW]; exact blk_new (by simp)
  have HWS : Hid (W.heap.size = w.heap.size + 2) := by unfold Hid; rw [hW]; simp
  have HXW := hidIn (HX.out.below (HB0.out.trans (HB.out.mono HB0.out.size)))
  rw [← hW]
  clear hW
  refine (refSize_any t W _ HXW.out hn2).mono ?_
  rintro e w2 ⟨rfl, hb2⟩
  have hP := HP.out.below hb2 HP.out.lt
  have hZ := HZ.out.below hb2 HZ.out.lt
  have c0 := hP.cell 0
  have c1 := hP.cell 1
  have c2 := hP.cell 2
  have c3 := hP.cell 3
  obtain ⟨⟨z0, z1, z2, z3⟩, f0, f1, f2, f3⟩ := blk_zero hZ
  have HB2 := hidIn hb2
  have hn1' : (1 : Int) ≤ (t.nodes : Int) := by omega
  have hn2' : (t.nodes : Int) ≤ 4611686018427387904 := by omega
  have hm0 := Int.emod_nonneg at' (show (t.nodes : Int) ≠ 0 by omega)
  have hm1 := Int.emod_lt_of_pos at' (show 0 < (t.nodes : Int) by omega)
  have hsz2 : w.heap.size + 2 ≤ w2.heap.size := by have := HWS.out; have := hb2.size; omega
  clear hb2 hP hZ
  go_wp2_with fail
  obtain ⟨Y, hY⟩ : ∃ Y, Y = w2.alloc (.cells #[.int .i64 0, .string ⟨#[]⟩, .int .i64 0, .slice none 0 0] 30) := ⟨_, rfl⟩
  have HBY : Hid (Below W.heap.size W Y) := by rw [hY]; exact below_alloc HB2.out _
  have hYZ : Blk Y w2.heap.size 30 zeroT := by rw [hY]; exact blk_new rfl
  have HYZ := hidIn hYZ
  have hYP := HP.out.below HBY.out HP.out.lt
  rw [← hY]
  clear hY c0 c1 c2 c3 z0 z1 z2 z3 f0 f1 f2 f3
  have hYc : ∀ k, k < 4 → ∀ X, X = Y ∨ X = Y.drew → X.cell? ⟨w.heap.size, k, none⟩ = (#[.int .i64 t.kind, .string t.s, .int .i64 t.n, .slice ao t.k.length cap] : Array Value)[k]? := by
    rintro k _ X (rfl | rfl)
    · exact hYP.cell k
    · exact hYP.cell k
  have c0 := hYP.cell 0
  have c1 := hYP.cell 1
  have c2 := hYP.cell 2
  have c3 := hYP.cell 3
  clear hYc hYP hYZ
  have HC : Hid (∀ X, Below Y.heap.size Y X → Calls Tryd.prog 56 #[.agg #[.int .i64 t.kind, .string t.s, .int .i64 t.n, .slice ao t.k.length cap], .int .i64 (at' % (t.nodes : Int)), .int .i64 what, .int .i64 v, .string s] X (fun e w5 => ∃ ka kc t' A, e = .returned (.tuple #[.agg #[.int .i64 t'.kind, .string t'.s, .int .i64 t'.n, .slice ka t'.k.length kc], .int .i64 A]) ∧ t' = (spoilT (what % 5).toNat v s t (at' % (t.nodes : Int))).1 ∧ Spread W0 Y.heap.size w5 t' (.agg (four t' ka kc)) ∧ Below Y.heap.size Y w5)) := by
    intro X hX
    have hwX : Below W0.heap.size W0 X := HB0.out.trans ((HB.out.trans ((HBY.out.trans (hX.mono HBY.out.size)).mono HB.out.size)).mono HB0.out.size)
    refine (spoil_any what v s hw1 hw2 HSS.out W0 t HCNT.out _ hm0 (by omega) X _ HX.out hwX).mono ?_
    rintro e w5 ⟨ka, kc, rfl, hsp, hb5⟩
    exact ⟨ka, kc, _, _, rfl, rfl, hsp.low hX.size, hX.trans (hb5.mono hX.size)⟩
  have hltY : w.heap.size + 1 < Y.heap.size := by have := HWS.out; have := HBY.out.size; omega
  have hlt2 : w2.heap.size < Y.heap.size := HYZ.out.lt
  have HZY : Hid (Blk Y (w.heap.size + 1) 30 zeroT) := HZ.out.below HBY.out HZ.out.lt
  clear HX HXW HCNT HSS
  have hne : w.heap.size + 1 ≠ w2.heap.size := by have := HWS.out; have := HB2.out.size; omega
  go_region_with (first | (go_at_call 16; refine calls_same (within_any _ _ _ hn1' hn2' ha1 ha2) ?_) | (go_at_call 56; refine (HC.out _ (by first | exact below_drew (Below.refl _ _) | exact Below.refl _ _)).mono ?_; rintro e w5 ⟨ka, kc, t', A, rfl, hteq, hsp, hb5⟩; have hZ5 := HYZ.out.below hb5 HYZ.out.lt; have hR5 := HZY.out.below hb5 HZY.out.lt; obtain ⟨⟨z0, z1, z2, z3⟩, f0, f1, f2, f3⟩ := blk_zero hZ5; obtain ⟨⟨y0, y1, y2, y3⟩, e0, e1, e2, e3⟩ := blk_zero hR5; have HR5 := hidIn hR5; have HSP := hidIn hsp; have HB5 := hidIn hb5; have HTE := hidIn hteq; clear hZ5 hR5 hsp hb5 hteq))
  all_goals
    go_wp2_with fail
    refine bodyPost_ret (results_cell_row rfl _ _ (w.heap.size + 1) 30 #[.int .i64 t'.kind, .string t'.s, .int .i64 t'.n, .slice ka t'.k.length kc] (0, 0) _ rfl ?blk Tryd.underlying30 rfl infoT) rfl ?post
    case blk => change Blk _ _ _ _; (with_reducible refine blk_set4' ?_ _ _ _ _); (repeat first | with_reducible exact HR5.out | with_reducible refine blk_other ?_ hne _ _)
    case post =>
      have hte := HTE.out
      refine ⟨at' % (t.nodes : Int), ka, kc, ?_, ?_, ?_⟩
      · rw [← hte]; rfl
      · rw [← hte]
        have hW0 := HB0.out.size
        intro X hX
        refine HSP.out X (fun b o c hb hc => hX b o c (by omega) ?_)
        rw [World.cell?_setCell_other _ _ _ _ (by intro e; injection e with e; omega), World.cell?_setCell_other _ _ _ _ (by intro e; injection e with e; omega), World.cell?_setCell_other _ _ _ _ (by intro e; injection e with e; omega), World.cell?_setCell_other _ _ _ _ (by intro e; injection e with e; omega), World.cell?_setCell_other _ _ _ _ (by intro e; injection e with e; omega), World.cell?_setCell_other _ _ _ _ (by intro e; injection e with e; omega), World.cell?_setCell_other _ _ _ _ (by intro e; injection e with e; omega), World.cell?_setCell_other _ _ _ _ (by intro e; injection e with e; omega)]
        exact hc
      · have hb3 : Below w.heap.size w w5 := HB.out.trans ((HBY.out.trans (HB5.out.mono HBY.out.size)).mono HB.out.size)
        (repeat first | with_reducible exact hb3 | with_reducible refine below_set ?_ (by omega) _ _)

end Go.Proofs.YtagjbbdpenbcoaaDoor
namespace Go.Proofs.YtagjbbdpenbcoaaDoor
open Go.RowKit
set_option linter.unusedVariables false

theorem sc_leaf (t : T) (h : t.kind = 0 ∨ t.kind = 1 ∨ t.kind = 2 ∨ 8 < t.kind) (hs : t.s.size ≤ 2147483648) : SC t := by
  cases t
  exact .leaf _ _ _ _ h hs
theorem sc_n {t : T} (h : SC t) (n : Int) (hn : -9223372036854775808 ≤ n ∧ n ≤ 9223372036854775807) : SC (.mk t.kind t.s n t.k) := by
  cases h with
  | leaf kind s n0 k h hs => exact .leaf _ _ _ _ h hs
  | give s n0 a ha => exact .give _ _ _ ha
  | and s n0 a b ha hb => exact .and _ _ _ _ ha hb
  | or s n0 a b hs ha hb => exact .or _ _ _ _ hs ha hb
  | scale s n0 o a ho ha => exact .scale _ _ _ _ ho ha
  | when s n0 a hn0 ha => exact .when _ _ _ hn ha
  | iff s n0 o a b ho ha hb => exact .iff _ _ _ _ _ ho ha hb
theorem sc_s {t : T} (h : SC t) (s : ByteArray) (hs : s.size ≤ 2147483648) : SC (.mk t.kind s t.n t.k) := by
  cases h with
  | leaf kind s0 n0 k h hs0 => exact .leaf _ _ _ _ h hs
  | give s0 n0 a ha => exact .give _ _ _ ha
  | and s0 n0 a b ha hb => exact .and _ _ _ _ ha hb
  | or s0 n0 a b hs0 ha hb => exact .or _ _ _ _ hs ha hb
  | scale s0 n0 o a ho ha => exact .scale _ _ _ _ ho ha
  | when s0 n0 a hn0 ha => exact .when _ _ _ hn0 ha
  | iff s0 n0 o a b ho ha hb => exact .iff _ _ _ _ _ ho ha hb
theorem head_sc (q : Nat) (v : Int) (s : ByteArray) (hv : -9223372036854775808 ≤ v ∧ v ≤ 9223372036854775807) {t : T} (h : SC t) : SC (spoilHead q v s t) := by
  have he : (⟨#[]⟩ : ByteArray).size ≤ 2147483648 := by decide
  unfold spoilHead
  split
  · exact .leaf _ _ _ _ (.inl rfl) he
  · split
    · exact sc_s h _ (by have := cutTo_size s 20; omega)
    · split
      · exact sc_n h v hv
      · split
        · split
          · exact .leaf _ _ _ _ (.inr (.inl rfl)) he
          · exact .leaf _ _ _ _ (.inr (.inr (.inr (by decide)))) he
        · exact h
theorem spoilL_one (q : Nat) (v : Int) (s : ByteArray) (x : T) (a : Int) : ∃ x', (spoilL q v s [x] a).1 = [x'] ∧ (x' = x ∨ ∃ a', x' = (spoilT q v s x a').1) := by
  simp only [spoilL]
  split
  · exact ⟨_, rfl, .inr ⟨_, rfl⟩⟩
  · exact ⟨_, rfl, .inl rfl⟩
theorem spoilL_cons (q : Nat) (v : Int) (s : ByteArray) (x : T) (l : List T) (a : Int) : ∃ x' a2, (spoilL q v s (x :: l) a).1 = x' :: (spoilL q v s l a2).1 ∧ (x' = x ∨ ∃ a', x' = (spoilT q v s x a').1) := by
  simp only [spoilL]
  split
  · exact ⟨_, _, rfl, .inr ⟨_, rfl⟩⟩
  · refine ⟨x, a, ?_, .inl rfl⟩
    cases l with
    | nil => simp [spoilL]
    | cons y l => rename_i h; simp [spoilL, h]
theorem spoil_sc (q : Nat) (v : Int) (s : ByteArray) (hv : -9223372036854775808 ≤ v ∧ v ≤ 9223372036854775807) {t : T} (h : SC t) : ∀ a, SC (spoilT q v s t a).1 := by
  induction h with
  | leaf kind s0 n k h hs =>
    intro a
    unfold spoilT
    split
    · exact head_sc q v s hv (.leaf _ _ _ _ h hs)
    · exact .leaf _ _ _ _ h hs
  | give s0 n x hx ih =>
    intro a
    unfold spoilT
    split
    · exact head_sc q v s hv (.give _ _ _ hx)
    · obtain ⟨x', e, h⟩ := spoilL_one q v s x (a - 1)
      simp only
      rw [e]
      refine .give _ _ _ ?_
      rcases h with rfl | ⟨a', rfl⟩
      · exact hx
      · exact ih a'
  | and s0 n x y hx hy ihx ihy =>
    intro a
    unfold spoilT
    split
    · exact head_sc q v s hv (.and _ _ _ _ hx hy)
    · obtain ⟨x', a2, e, h⟩ := spoilL_cons q v s x [y] (a - 1)
      obtain ⟨y', e', h'⟩ := spoilL_one q v s y a2
      simp only
      rw [e, e']
      refine .and _ _ _ _ ?_ ?_
      · rcases h with rfl | ⟨a', rfl⟩
        · exact hx
        · exact ihx a'
      · rcases h' with rfl | ⟨a', rfl⟩
        · exact hy
        · exact ihy a'
  | or s0 n x y hs hx hy ihx ihy =>
    intro a
    unfold spoilT
    split
    · exact head_sc q v s hv (.or _ _ _ _ hs hx hy)
    · obtain ⟨x', a2, e, h⟩ := spoilL_cons q v s x [y] (a - 1)
      obtain ⟨y', e', h'⟩ := spoilL_one q v s y a2
      simp only
      rw [e, e']
      refine .or _ _ _ _ hs ?_ ?_
      · rcases h with rfl | ⟨a', rfl⟩
        · exact hx
        · exact ihx a'
      · rcases h' with rfl | ⟨a', rfl⟩
        · exact hy
        · exact ihy a'
  | scale s0 n o y ho hy ihy =>
    intro a
    unfold spoilT
    split
    · exact head_sc q v s hv (.scale _ _ _ _ ho hy)
    · obtain ⟨x', a2, e, h⟩ := spoilL_cons q v s o [y] (a - 1)
      obtain ⟨y', e', h'⟩ := spoilL_one q v s y a2
      simp only
      rw [e, e']
      refine .scale _ _ _ _ ?_ ?_
      · rcases h with rfl | ⟨a', rfl⟩
        · exact ho
        · exact spoil_shaped q v s hv o ho a'
      · rcases h' with rfl | ⟨a', rfl⟩
        · exact hy
        · exact ihy a'
  | when s0 n x hn hx ih =>
    intro a
    unfold spoilT
    split
    · exact head_sc q v s hv (.when _ _ _ hn hx)
    · obtain ⟨x', e, h⟩ := spoilL_one q v s x (a - 1)
      simp only
      rw [e]
      refine .when _ _ _ hn ?_
      rcases h with rfl | ⟨a', rfl⟩
      · exact hx
      · exact ih a'
  | iff s0 n o x y ho hx hy ihx ihy =>
    intro a
    unfold spoilT
    split
    · exact head_sc q v s hv (.iff _ _ _ _ _ ho hx hy)
    · obtain ⟨o', a2, e, h⟩ := spoilL_cons q v s o [x, y] (a - 1)
      obtain ⟨x', a3, e2, h2⟩ := spoilL_cons q v s x [y] a2
      obtain ⟨y', e', h'⟩ := spoilL_one q v s y a3
      simp only
      rw [e, e2, e']
      refine .iff _ _ _ _ _ ?_ ?_ ?_
      · rcases h with rfl | ⟨a', rfl⟩
        · exact ho
        · exact spoil_shaped q v s hv o ho a'
      · rcases h2 with rfl | ⟨a', rfl⟩
        · exact hx
        · exact ihx a'
      · rcases h' with rfl | ⟨a', rfl⟩
        · exact hy
        · exact ihy a'

end Go.Proofs.YtagjbbdpenbcoaaDoor
namespace Go.Proofs.YtagjbbdpenbcoaaDoor
open Go.RowKit
set_option linter.unusedVariables false

def OddPostC (w : World) (e : Ending) (w' : World) : Prop := ∃ c : C, e = .returned c.val ∧ c.Ok ∧ c.weight ≤ 10 ∧ Below w.heap.size w w'
theorem strangeC_of (t : TypeId) (x : Value) (h0 : t ≠ 64) (h1 : t ≠ 44) (h2 : t ≠ 67) (h3 : t ≠ 46) (h4 : t ≠ 69) (h5 : t ≠ 73) (h6 : t ≠ 71) (h7 : t ≠ 77) : (C.odd (.iface t x)).Ok := .inr ⟨t, x, rfl, h0, h1, h2, h3, h4, h5, h6, h7⟩

set_option maxHeartbeats 2000000 in
set_option maxRecDepth 100000 in
theorem oddC_any (n : Int) (w : World) (h1 : -9223372036854775808 ≤ n) (h2 : n ≤ 9223372036854775807) : Calls Tryd.prog 35 #[.int .i64 n] w (OddPostC w) := by
  obtain ⟨q, hq⟩ : ∃ q : Nat, n % 9 = q := ⟨(n % 9).toNat, by omega⟩
  have hq9 : q = 0 ∨ q = 1 ∨ q = 2 ∨ q = 3 ∨ q = 4 ∨ q = 5 ∨ q = 6 ∨ q = 7 ∨ q = 8 := by omega
  have hmm := @run_makeMap Tryd.prog
  go_enter Tryd.func35, Tryd.ntmps35
  go_wp2_with fail
  refine calls_same (within_any _ 9 _ (by omega) (by omega) h1 h2) ?_
  rw [hq]
  clear h1 h2 hq
  rcases hq9 with rfl | rfl | rfl | rfl | rfl | rfl | rfl | rfl | rfl
  all_goals
    go_wp2_with fail
    go_ret
    first
      | exact ⟨.odd .nilIface, rfl, .inl rfl, by simp [C.weight], by repeat first | exact Below.refl _ _ | refine below_alloc ?_ _⟩
      | exact ⟨.odd (.iface _ _), rfl, strangeC_of _ _ (by decide) (by decide) (by decide) (by decide) (by decide) (by decide) (by decide) (by decide), by simp [C.weight], by repeat first | exact Below.refl _ _ | refine below_alloc ?_ _⟩
theorem termOf_weight (t : T) (h : SC t) : (termOf t).weight ≤ 2 * t.cnt := by
  induction h with
  | leaf kind s n k h hs =>
    unfold termOf T.cnt
    split
    · simp only [C.weight]; omega
    · split
      · simp only [C.weight]; omega
      · split <;> first | omega | (simp only [C.weight]; omega)
  | give s n a ha iha => show (C.give (termOf a)).weight ≤ _; simp only [C.weight, T.cnt, cntL] at *; omega
  | and s n a b ha hb iha ihb => show (C.and (termOf a) (termOf b)).weight ≤ _; simp only [C.weight, T.cnt, cntL] at *; omega
  | or s n a b hs ha hb iha ihb => show (C.or s (termOf a) (termOf b)).weight ≤ _; simp only [C.weight, T.cnt, cntL] at *; omega
  | scale s n o a ho ha iha => have := obsOf_nodes o; show (C.scale (obsOf o) (termOf a)).weight ≤ _; simp only [C.weight, T.cnt, cntL] at *; omega
  | when s n a hn ha iha => show (C.when n (termOf a)).weight ≤ _; simp only [C.weight, T.cnt, cntL] at *; omega
  | iff s n o a b ho ha hb iha ihb => have := obsOf_nodes o; show (C.iff (obsOf o) (termOf a) (termOf b)).weight ≤ _; simp only [C.weight, T.cnt, cntL] at *; omega

end Go.Proofs.YtagjbbdpenbcoaaDoor
namespace Go.Proofs.YtagjbbdpenbcoaaDoor
open Go.RowKit
set_option linter.unusedVariables false

section
variable {P : Program} {ops : Array Oper} {md : Region.Mode} {C : World → Prop} {Le : World → World → Prop} {M : Nat → Mode} {n : Nat}
/-- The last operation waits for all others. -/
def waitsAll (md : Region.Mode) (ops : Array Oper) (n : Nat) : Bool := (List.range n).all fun i => (ops[n]?).any fun o => o.after.any fun e => Region.binds md e && e.on == i
theorem waits_spec (h : waitsAll md ops n = true) {i : Nat} (hi : i < n) : ∃ o, ops[n]? = some o ∧ ∃ e ∈ o.after, Region.binds md e = true ∧ e.on = i := by
  unfold waitsAll at h
  rw [List.all_eq_true] at h
  have h1 := h i (List.mem_range.2 hi)
  cases ho : ops[n]? with
  | none => rw [ho] at h1; simp at h1
  | some o =>
    rw [ho] at h1
    simp only [Option.any_some] at h1
    rw [Array.any_eq_true] at h1
    obtain ⟨j, hj, h2⟩ := h1
    simp only [Bool.and_eq_true, beq_iff_eq] at h2
    exact ⟨o, rfl, o.after[j], Array.getElem_mem _, h2.1, h2.2⟩
theorem last_waits (h : waitsAll md ops n = true) {i : Nat} (hi : i < n) {listed : Array Bool} (hun : listed.getD i true = false) : n ∉ Region.ready md ops listed := by
  intro hr
  obtain ⟨o, ho, e, he, hb, hon⟩ := waits_spec h hi
  obtain ⟨_, o', ho', hall⟩ := mem_ready.1 hr
  rw [ho] at ho'
  injection ho' with ho'
  subst ho'
  have h1 := hall e he hb
  rw [hon] at h1
  rcases Nat.lt_or_ge i listed.size with h' | h'
  · simp [h'] at hun h1; rw [hun] at h1; cases h1
  · simp [Array.getElem?_eq_none h'] at h1
def wpAnyL (P : Program) (md : Region.Mode) (ops : Array Oper) (C : World → Prop) (Le : World → World → Prop) (M : Nat → Mode) (n : Nat) (Q : Act → Kn → Prop) : Nat → Array Bool → Act → Kn → Prop
  | 0, listed, a, k => Region.ready md ops listed ≠ [] ∧ (∀ j ∈ Region.ready md ops listed, j = n) ∧ Region.ready md ops (listed.setIfInBounds n true) = [] ∧ Q a k
  | fuel + 1, listed, a, k => Region.ready md ops listed ≠ [] ∧ (∀ j ∈ Region.ready md ops listed, j ≠ n) ∧ ∀ i ∈ Region.ready md ops listed, gOp P ops C Le M i (wpAnyL P md ops C Le M n Q fuel (listed.setIfInBounds i true)) a k
theorem wpAny_of_growL {Q : Act → Kn → Prop} {Q' : Exit → Act → World → Prop} (hCL : ∀ w w', C w → Le w w' → C w') (hQ : ∀ a k w, C w → (∀ s, k s w) → Q a k → wpOp P ops Q' n (fun a w => Q' .normal a w) a w) : ∀ (fuel : Nat) (listed : Array Bool) (a : Act) (k : Kn) (w : World), Stays Le k → C w → (∀ s, k s w) →
    wpAnyL P md ops C Le M n Q fuel listed a k → wpAny P md ops Q' (fuel + 1) listed a w
  | 0, _, _, _, _, hs, hw, hk, h => ⟨fun h0 => absurd h0 h.1, fun i hi => by
      have := h.2.1 i hi
      subst this
      exact wpOp_mono (fun a w hq => ⟨h.2.2.1, hq⟩) (hQ _ _ _ hw hk h.2.2.2)⟩
  | fuel + 1, _, _, _, _, hs, hw, hk, h => ⟨fun h0 => absurd h0 h.1, fun i hi => wpOp_of_gOp hCL hs hw hk (fun a' k' w' hs' hw' hk' => wpAny_of_growL hCL hQ fuel _ a' k' w' hs' hw' hk') (h.2.2 i hi)⟩
theorem wpAnyL_first {Q : Act → Kn → Prop} {i : Nat} {oi : Oper} {ok : Value → Prop} {f : Value → World → Prop} (hwt : waitsAll md ops n = true) (hin : i < n) (hi : ops[i]? = some oi) (hsel : ∀ (j : Nat) (o : Oper) cs b, ops[j]? = some o → o.op ≠ .select cs b) :
    ∀ (fuel : Nat) (listed : Array Bool) (a : Act) (k : Kn),
      (∀ j oj, ops[j]? = some oj → j ≠ i → listed.getD j true = false → (∀ e ∈ oj.after, Region.binds md e = true → e.on ≠ i) → oi.apart ops oj = true) →
      i ∈ Region.ready md ops listed → YieldsG P ops C Le (M i) oi ok f a k →
      (∀ u, ok u → wpAnyL P md ops C Le M n Q fuel (listed.setIfInBounds i true) (a.put oi.dst u) (kput k oi.dst (f u))) → wpAnyL P md ops C Le M n Q (fuel + 1) listed a k := by
  intro fuel
  induction fuel with
  | zero =>
    intro listed a k _ hr hy H
    have hnl : ∀ j ∈ Region.ready md ops listed, j ≠ n := fun j hj e => last_waits hwt hin (mem_ready.1 hr).1 (e ▸ hj)
    refine ⟨fun h => (by rw [h] at hr; cases hr), hnl, fun j hj => ?_⟩
    by_cases hji : j = i
    · subst hji; exact hy.gOp hi H
    · obtain ⟨u0, hu0⟩ := yields_some hy
      exact absurd ((H u0 hu0).2.1 j (ready_mono hj hji)) (hnl j hj)
  | succ fuel ih =>
    intro listed a k hfree hr hy H
    have hnl : ∀ j ∈ Region.ready md ops listed, j ≠ n := fun j hj e => last_waits hwt hin (mem_ready.1 hr).1 (e ▸ hj)
    refine ⟨fun h => (by rw [h] at hr; cases hr), hnl, fun j hj => ?_⟩
    by_cases hji : j = i
    · subst hji; exact hy.gOp hi H
    · have h1 : ∀ u, ok u → _ := fun u hu => (H u hu).2.2 j (ready_mono hj hji)
      obtain ⟨hjun, oj, hoj, hall⟩ := mem_ready.1 hj
      have hnot : ∀ e ∈ oj.after, Region.binds md e = true → e.on ≠ i := fun e he hb heq => by
        have h1 := hall e he hb
        have h0 := (mem_ready.1 hr).1
        rw [heq] at h1
        rcases Nat.lt_or_ge i listed.size with h' | h'
        · simp [h'] at h0 h1; rw [h0] at h1; cases h1
        · simp [Array.getElem?_eq_none h'] at h1
      have h2 := gOp_put hoj (hfree j oj hoj hji hjun hnot) (fun cs b => hsel i oi cs b hi) (fun cs b => hsel j oj cs b hoj) hy h1
      have hfree' : ∀ k ok, ops[k]? = some ok → k ≠ i → (listed.setIfInBounds j true).getD k true = false →
          (∀ e ∈ ok.after, Region.binds md e = true → e.on ≠ i) → oi.apart ops ok = true := fun k ok hk hki hun hno => by
        refine hfree k ok hk hki ?_ hno
        by_cases hjk : j = k
        · subst hjk; exact hjun
        · rw [getD_set_ne true hjk] at hun; exact hun
      refine gOp_mono (fun a' k' h3 => ih (listed.setIfInBounds j true) a' k' hfree' (ready_mono hr (Ne.symm hji)) h3.1 (fun u hu => ?_)) h2
      rw [Array.setIfInBounds_comm _ _ hji]
      exact h3.2 u hu
theorem wpAnyL_lex {Q : Act → Kn → Prop} (hs : Region.noSelect ops = true) (hwt : waitsAll md ops n = true) : ∀ (l : List Oper) (i : Nat) (listed : Array Bool) (a : Act) (k : Kn), i + l.length = n → (∀ j, j < l.length → l[j]? = ops[i + j]?) →
    Region.lexFrom md ops (l.length + 1) i listed = true → wpGrow P ops C Le M Q i l a k → wpAnyL P md ops C Le M n Q l.length listed a k
  | [], i, listed, _, _, hn, _, hB, h => by
    have hin : i = n := by simpa using hn
    subst hin
    simp only [List.length_nil, Region.lexFrom, Bool.and_eq_true, List.isEmpty_iff] at hB
    obtain ⟨⟨hr, hf⟩, he⟩ := hB
    have hr' : i ∈ Region.ready md ops listed := by simpa using hr
    refine ⟨fun h0 => (by rw [h0] at hr'; cases hr'), fun j hj => ?_, he, h⟩
    by_cases hji : j = i
    · exact hji
    · have := ready_mono hj hji
      rw [he] at this
      cases this
  | o :: l, i, listed, a, k, hn, hl, hB, h => by
    have h0 : ops[i]? = some o := by simpa using (hl 0 (by simp)).symm
    simp only [List.length_cons] at hn
    rw [List.length_cons] at hB
    unfold Region.lexFrom at hB
    simp only [Bool.and_eq_true] at hB
    obtain ⟨⟨hr, hf⟩, hB'⟩ := hB
    have hst : gOp P ops C Le M i (wpGrow P ops C Le M Q (i + 1) l) a k := by unfold gOp; simp only [h0]; exact h
    obtain ⟨ok, f, hy, hK⟩ := yieldsG_of_gOp h0 hst
    exact wpAnyL_first hwt (by omega) h0 (Region.noSelect_spec hs) l.length listed a k (Region.free_spec h0 hf) (by simpa using hr) hy
      (fun u hu => wpAnyL_lex hs hwt l (i + 1) _ _ _ (by omega) (fun j hj => by have := hl (j + 1) (by simp; omega); simpa [Nat.add_assoc, Nat.add_comm 1 j] using this) hB' (hK u hu))
/-- All but the last in the text's order, then the last. -/
theorem wp_region_growL {id : Nat} {Q : Exit → Act → World → Prop} {a : Act} {w : World} {l : List Oper} {o : Oper} {L : List Oper} (C : World → Prop) (Le : World → World → Prop) (M : Nat → Mode) (hm : P.follows .mixedOrders = true) (hL : L = l ++ [o]) (hB : Region.lexB .any L.toArray = true) (hwt : waitsAll .any L.toArray l.length = true) (hCL : ∀ w w', C w → Le w w' → C w') (hC : C w.drew)
    (h : wpGrow P L.toArray C Le M (fun a' k' => ∀ w', C w' → (∀ s, k' s w') → wpList P L.toArray Q [o] a' w') 0 l a (fun _ _ => True)) : (Code.region id L.toArray true).wp P Q a w := by
  simp only [Region.lexB, Bool.and_eq_true] at hB
  have hsz : L.toArray.size = l.length + 1 := by rw [hL]; simp
  have ho : L.toArray[l.length]? = some o := by rw [hL]; simp
  refine wp_region_any hm ?_
  rw [hsz]
  refine wpAny_of_growL (M := M) (n := l.length) (Q := fun a' k' => ∀ w', C w' → (∀ s, k' s w') → wpList P L.toArray Q [o] a' w') hCL (fun a k w' hw' hk h => ?_) _ _ _ (fun _ _ => True) _ (fun _ _ _ _ h => h) hC (fun _ => trivial) ?_
  · have := h w' hw' hk
    unfold wpList at this
    unfold wpOp
    simp only [ho]
    exact this
  · have hB2 := hB.2
    rw [hsz] at hB2
    exact wpAnyL_lex (C := C) (Le := Le) (M := M) (md := .any) hB.1 hwt l 0 _ a (fun _ _ => True) (by simp) (fun j hj => by rw [hL]; simp [List.getElem?_append_left hj]) hB2 h
end

end Go.Proofs.YtagjbbdpenbcoaaDoor
namespace Go.Proofs.YtagjbbdpenbcoaaDoor.Ivl
open Go.RowKit
set_option linter.unusedVariables false

/-- What is known of an operation's value: which it may be, and what is known of it from then on. -/
structure Mode where
  ok : Value → Prop
  some' : ∃ u, ok u
  fact : Value → Nat × Nat → World → Prop
/-- What is known of the slots. -/
abbrev Kn := Nat → Nat × Nat → World → Prop
def kput (k : Kn) : Option Tmp → (Nat × Nat → World → Prop) → Kn
  | none, _ => k
  | some d, f => fun s => if s = d then f else k s
theorem kput_ne (k : Kn) (dst : Option Tmp) (f : Nat × Nat → World → Prop) (s : Nat) (h : dst ≠ some s) : kput k dst f s = k s := by
  cases dst with
  | none => rfl
  | some d => simp only [kput]; rw [if_neg (fun e => h (by rw [e]))]
theorem kput_comm (k : Kn) (d e : Option Tmp) (f g : Nat × Nat → World → Prop) (h : ∀ x, d = some x → e ≠ some x) : kput (kput k d f) e g = kput (kput k e g) d f := by
  cases d with
  | none => rfl
  | some d =>
    cases e with
    | none => rfl
    | some e =>
      have hne : e ≠ d := fun x => h d rfl (by rw [x])
      funext s
      simp only [kput]
      by_cases h1 : s = e
      · subst h1; rw [if_pos rfl, if_neg hne, if_pos rfl]
      · by_cases h2 : s = d
        · subst h2; rw [if_neg h1, if_pos rfl, if_pos rfl]
        · rw [if_neg h1, if_neg h2, if_neg h2, if_neg h1]

/-- What an operation reads. -/
def reads (ops : Array Oper) (o : Oper) (a : Act) : List Value := (o.looksAt ops).map fun s => a.tmps.getD s undef
theorem reads_put (ops : Array Oper) (o : Oper) (a : Act) (dst : Option Tmp) (v : Value) (h : ∀ d, dst = some d → d ∉ o.looksAt ops) : reads ops o (a.put dst v) = reads ops o a := by
  unfold reads
  refine List.map_congr_left (fun s hs => ?_)
  cases dst with
  | none => rfl
  | some d =>
    have hne : d ≠ s := fun e => h d rfl (e ▸ hs)
    simp [Act.put, Array.getElem?_setIfInBounds_ne hne]
section
variable {P : Program} {ops : Array Oper} {md : Region.Mode} {C : World → Prop} {Le : World → World → Prop} {M : Nat → List Value → Mode} {n : Nat}

def growUpon (P : Program) (Le : World → World → Prop) (m : Mode) (w : World) : Result Next → Prop
  | .ok (.value u) w' => Le w w' ∧ m.ok u ∧ m.fact u (w.heap.size, w'.heap.size) w'
  | .ok .skip w' => Le w w' ∧ m.ok undef ∧ m.fact undef (w.heap.size, w'.heap.size) w'
  | .ok (.enter f args) w' => w' = w ∧ Calls P f args w (fun e w'' => ∃ v, e = .returned v ∧ Le w w'' ∧ m.ok v ∧ m.fact v (w.heap.size, w''.heap.size) w'')
  | _ => False
def growAt (P : Program) (o : Oper) (a : Act) (Le : World → World → Prop) (m : Mode) (w : World) : Prop := growUpon P Le m w ((execOp a.eval o).run P w)
/-- What is asked of an operation that comes up. -/
def grow (P : Program) (ops : Array Oper) (C : World → Prop) (Le : World → World → Prop) (m : Mode) (o : Oper) (a : Act) (k : Kn) (K : Act → Kn → Prop) : Prop :=
  (∀ u I w w', Le w w' → m.fact u I w → m.fact u I w') ∧ (∀ w, C w → (∀ s ∈ o.looksAt ops, ∃ I, k s I w) → growAt P o a Le m w) ∧ ∀ u, m.ok u → K (a.put o.dst u) (kput k o.dst (m.fact u))
def wpGrow (P : Program) (ops : Array Oper) (C : World → Prop) (Le : World → World → Prop) (M : Nat → List Value → Mode) (Q : Act → Kn → Prop) : Nat → List Oper → Act → Kn → Prop
  | _, [], a, k => Q a k
  | i, o :: rest, a, k => if Region.wanted o (yielded ops a.tmps) then grow P ops C Le (M i (reads ops o a)) o a k (wpGrow P ops C Le M Q (i + 1) rest) else wpGrow P ops C Le M Q (i + 1) rest (a.put o.dst undef) (kput k o.dst (fun _ _ => True))
def gOp (P : Program) (ops : Array Oper) (C : World → Prop) (Le : World → World → Prop) (M : Nat → List Value → Mode) (i : Nat) (K : Act → Kn → Prop) (a : Act) (k : Kn) : Prop :=
  match ops[i]? with
  | none => K a k
  | some o => if Region.wanted o (yielded ops a.tmps) then grow P ops C Le (M i (reads ops o a)) o a k K else K (a.put o.dst undef) (kput k o.dst (fun _ _ => True))
theorem grow_mono {m : Mode} {o : Oper} {a : Act} {k : Kn} {K K' : Act → Kn → Prop} (h : ∀ a k, K a k → K' a k) (hh : grow P ops C Le m o a k K) : grow P ops C Le m o a k K' :=
  ⟨hh.1, hh.2.1, fun u hu => h _ _ (hh.2.2 u hu)⟩
theorem gOp_mono {i : Nat} {a : Act} {k : Kn} {K K' : Act → Kn → Prop} (h : ∀ a k, K a k → K' a k) (hh : gOp P ops C Le M i K a k) : gOp P ops C Le M i K' a k := by
  unfold gOp at *
  split
  · exact h _ _ (by simpa [*] using hh)
  · rename_i o ho
    simp only [ho] at hh
    split
    · rename_i hw; simp only [hw, if_true] at hh; exact grow_mono h hh
    · rename_i hw; simp only [hw] at hh; exact h _ _ hh
def Stays (Le : World → World → Prop) (k : Kn) : Prop := ∀ s I w w', Le w w' → k s I w → k s I w'
theorem Stays.put {k : Kn} (h : Stays Le k) (dst : Option Tmp) {f : Nat × Nat → World → Prop} (hf : ∀ I w w', Le w w' → f I w → f I w') : Stays Le (kput k dst f) := by
  cases dst with
  | none => exact h
  | some d =>
    intro s I w w' hle hk
    simp only [kput] at hk ⊢
    split
    · rename_i e; rw [if_pos e] at hk; exact hf I w w' hle hk
    · rename_i e; rw [if_neg e] at hk; exact h s I w w' hle hk
/-- Which blocks each slot's value was made in. -/
def putL (L : Nat → Nat × Nat) : Option Tmp → Nat × Nat → Nat → Nat × Nat
  | none, _ => L
  | some d, I => fun s => if s = d then I else L s
/-- All of them made by now, no two in one. -/
def Apt (L : Nat → Nat × Nat) (w : World) : Prop := (∀ s, (L s).2 ≤ w.heap.size) ∧ ∀ s t, s ≠ t → (L s).2 ≤ (L t).1 ∨ (L t).2 ≤ (L s).1
theorem Apt.put {L : Nat → Nat × Nat} {w w' : World} (h : Apt L w) (hs : w.heap.size ≤ w'.heap.size) (dst : Option Tmp) : Apt (putL L dst (w.heap.size, w'.heap.size)) w' := by
  cases dst with
  | none => exact ⟨fun s => Nat.le_trans (h.1 s) hs, h.2⟩
  | some d =>
    constructor
    · intro s
      simp only [putL]
      split
      · exact Nat.le_refl _
      · exact Nat.le_trans (h.1 s) hs
    · intro s t hst
      have h1 := h.1 s
      have h2 := h.1 t
      simp only [putL]
      by_cases e1 : s = d
      · by_cases e2 : t = d
        · exact absurd (e1.trans e2.symm) hst
        · rw [if_pos e1, if_neg e2]; exact .inr h2
      · by_cases e2 : t = d
        · rw [if_neg e1, if_pos e2]; exact .inl h1
        · rw [if_neg e1, if_neg e2]; exact h.2 s t hst
theorem all_put {k : Kn} {L : Nat → Nat × Nat} {w : World} (h : ∀ s, k s (L s) w) (dst : Option Tmp) {f : Nat × Nat → World → Prop} {I : Nat × Nat} (hf : f I w) : ∀ s, kput k dst f s (putL L dst I s) w := by
  cases dst with
  | none => exact h
  | some d =>
    intro s
    simp only [kput, putL]
    split
    · exact hf
    · exact h s
theorem all_true {k : Kn} {L : Nat → Nat × Nat} {w : World} (h : ∀ s, k s (L s) w) (dst : Option Tmp) : ∀ s, kput k dst (fun _ _ => True) s (L s) w := by
  cases dst with
  | none => exact h
  | some d =>
    intro s
    simp only [kput]
    split
    · trivial
    · exact h s
theorem wp_of_grow {o : Oper} {m : Mode} {a : Act} {k : Kn} {L : Nat → Nat × Nat} {K : Act → Kn → Prop} {K' : Act → World → Prop} {Q' : Exit → Act → World → Prop} {w : World} (hLS : ∀ w w', Le w w' → w.heap.size ≤ w'.heap.size) (hCL : ∀ w w', C w → Le w w' → C w') (hs : Stays Le k) (hw : C w) (hk : ∀ s, k s (L s) w) (hL : Apt L w)
    (h : ∀ a k L w', Stays Le k → C w' → (∀ s, k s (L s) w') → Apt L w' → K a k → K' a w') (hh : grow P ops C Le m o a k K) : o.wp P a w K' Q' := by
  obtain ⟨h0, h1, h2⟩ := hh
  have h3 := h1 w hw (fun s _ => ⟨_, hk s⟩)
  unfold growAt at h3
  unfold Oper.wp
  generalize (execOp a.eval o).run P w = r at *
  cases r with
  | ok n w' =>
    cases n <;> simp only [growUpon] at h3 <;> simp only [Oper.upon]
    case value u =>
      obtain ⟨e1, e2, e3⟩ := h3
      exact h _ _ _ _ (hs.put o.dst (h0 u)) (hCL w w' hw e1) (all_put (fun s => hs s _ w w' e1 (hk s)) o.dst e3) (hL.put (hLS _ _ e1) o.dst) (h2 u e2)
    case skip =>
      obtain ⟨e1, e2, e3⟩ := h3
      exact h _ _ _ _ (hs.put o.dst (h0 undef)) (hCL w w' hw e1) (all_put (fun s => hs s _ w w' e1 (hk s)) o.dst e3) (hL.put (hLS _ _ e1) o.dst) (h2 undef e2)
    case enter f args =>
      obtain ⟨e1, hc⟩ := h3
      rw [e1]
      refine hc.mono fun e w'' ⟨v, he, e1, e2, e3⟩ => ?_
      subst he
      exact h _ _ _ _ (hs.put o.dst (h0 v)) (hCL w w'' hw e1) (all_put (fun s => hs s _ w w'' e1 (hk s)) o.dst e3) (hL.put (hLS _ _ e1) o.dst) (h2 v e2)
  | halt x w' => simp only [growUpon] at h3
theorem wpOp_of_gOp {i : Nat} {a : Act} {k : Kn} {L : Nat → Nat × Nat} {K : Act → Kn → Prop} {K' : Act → World → Prop} {Q' : Exit → Act → World → Prop} {w : World} (hLS : ∀ w w', Le w w' → w.heap.size ≤ w'.heap.size) (hCL : ∀ w w', C w → Le w w' → C w') (hs : Stays Le k) (hw : C w) (hk : ∀ s, k s (L s) w) (hL : Apt L w)
    (h : ∀ a k L w', Stays Le k → C w' → (∀ s, k s (L s) w') → Apt L w' → K a k → K' a w') (hh : gOp P ops C Le M i K a k) : wpOp P ops Q' i K' a w := by
  unfold gOp at hh
  unfold wpOp
  split
  · rename_i ho; simp only [ho] at hh; exact h _ _ _ _ hs hw hk hL hh
  · rename_i o ho
    simp only [ho] at hh
    split
    · rename_i hwt; simp only [hwt, if_true] at hh; exact .inl (wp_of_grow hLS hCL hs hw hk hL h hh)
    · rename_i hwt; simp only [hwt] at hh; exact h _ _ _ _ (hs.put o.dst (fun _ _ _ _ h => h)) hw (all_true hk o.dst) hL hh
/-- What an operation yields: the values that it may, and what is known of them. -/
def YieldsG (P : Program) (ops : Array Oper) (C : World → Prop) (Le : World → World → Prop) (m : Mode) (o : Oper) (ok : Value → Prop) (f : Value → Nat × Nat → World → Prop) (a : Act) (k : Kn) : Prop :=
  (Region.wanted o (yielded ops a.tmps) = true ∧ ok = m.ok ∧ f = m.fact ∧ (∀ u I w w', Le w w' → m.fact u I w → m.fact u I w') ∧ ∀ w, C w → (∀ s ∈ o.looksAt ops, ∃ I, k s I w) → growAt P o a Le m w) ∨
  (Region.wanted o (yielded ops a.tmps) = false ∧ ok = (fun u => u = undef) ∧ f = fun _ _ _ => True)
theorem YieldsG.gOp {i : Nat} {o : Oper} {ok : Value → Prop} {f : Value → Nat × Nat → World → Prop} {a : Act} {k : Kn} (hi : ops[i]? = some o) (hy : YieldsG P ops C Le (M i (reads ops o a)) o ok f a k) {K : Act → Kn → Prop} (h : ∀ u, ok u → K (a.put o.dst u) (kput k o.dst (f u))) : gOp P ops C Le M i K a k := by
  unfold Go.Proofs.YtagjbbdpenbcoaaDoor.Ivl.gOp
  simp only [hi]
  rcases hy with ⟨hw, rfl, rfl, h0, hv⟩ | ⟨hw, rfl, rfl⟩
  · simp only [hw, if_true]; exact ⟨h0, hv, h⟩
  · simp only [hw, Bool.false_eq_true, if_false]; exact h undef rfl
theorem looks_put {o : Oper} {k : Kn} {dst : Option Tmp} {f : Nat × Nat → World → Prop} {w : World} (h : ∀ d, dst = some d → d ∉ o.looksAt ops) : (∀ s ∈ o.looksAt ops, ∃ I, kput k dst f s I w) ↔ ∀ s ∈ o.looksAt ops, ∃ I, k s I w := by
  constructor
  · intro hk s hs
    have := hk s hs
    rwa [kput_ne k dst f s (fun e => h s e hs)] at this
  · intro hk s hs
    rw [kput_ne k dst f s (fun e => h s e hs)]
    exact hk s hs
theorem YieldsG.of_same {m : Mode} {o : Oper} {ok : Value → Prop} {f : Value → Nat × Nat → World → Prop} {a a' : Act} {k k' : Kn} (hy : YieldsG P ops C Le m o ok f a k) (he : execOp a'.eval o = execOp a.eval o)
    (hw : Region.wanted o (yielded ops a'.tmps) = Region.wanted o (yielded ops a.tmps)) (hk : ∀ w, (∀ s ∈ o.looksAt ops, ∃ I, k' s I w) → ∀ s ∈ o.looksAt ops, ∃ I, k s I w) : YieldsG P ops C Le m o ok f a' k' := by
  rcases hy with ⟨h1, h2, h3, h4, h5⟩ | ⟨h1, h2, h3⟩
  · refine .inl ⟨by rw [hw]; exact h1, h2, h3, h4, fun w hC hl => ?_⟩
    have := h5 w hC (hk w hl)
    unfold growAt at *
    rwa [he]
  · exact .inr ⟨by rw [hw]; exact h1, h2, h3⟩
theorem yields_some {m : Mode} {o : Oper} {ok : Value → Prop} {f : Value → Nat × Nat → World → Prop} {a : Act} {k : Kn} (hy : YieldsG P ops C Le m o ok f a k) : ∃ u, ok u := by
  rcases hy with ⟨_, rfl, _⟩ | ⟨_, rfl, _⟩
  · exact m.some'
  · exact ⟨_, rfl⟩
theorem gOp_put {j : Nat} {m : Mode} {oi oj : Oper} {ok : Value → Prop} {f : Value → Nat × Nat → World → Prop} (hj : ops[j]? = some oj) (hap : oi.apart ops oj = true)
    (hsi : ∀ cs b, oi.op ≠ .select cs b) (hsj : ∀ cs b, oj.op ≠ .select cs b) {K : Act → Kn → Prop} {a : Act} {k : Kn}
    (hy : YieldsG P ops C Le m oi ok f a k) (h : ∀ u, ok u → gOp P ops C Le M j K (a.put oi.dst u) (kput k oi.dst (f u))) :
    gOp P ops C Le M j (fun a' k' => reads ops oi a' = reads ops oi a ∧ YieldsG P ops C Le m oi ok f a' k' ∧ ∀ u, ok u → K (a'.put oi.dst u) (kput k' oi.dst (f u))) a k := by
  obtain ⟨h1, h2, h3⟩ := Oper.apart_spec hap
  have keep : ∀ u g, YieldsG P ops C Le m oi ok f (a.put oj.dst u) (kput k oj.dst g) := fun u g =>
    hy.of_same (execOp_put oi hsi a oj.dst u h3) (wanted_put oi a oj.dst u h3) (fun w hl => (looks_put h3).1 hl)
  obtain ⟨u0, hu0⟩ := yields_some hy
  unfold gOp at *
  simp only [hj] at *
  by_cases hw : Region.wanted oj (yielded ops a.tmps) = true
  · simp only [hw, if_true]
    have hw' : ∀ u, Region.wanted oj (yielded ops (a.put oi.dst u).tmps) = true := fun u => by rw [wanted_put oj a oi.dst u h1]; exact hw
    simp only [hw', if_true] at h
    have hrd : ∀ u, reads ops oj (a.put oi.dst u) = reads ops oj a := fun u => reads_put ops oj a oi.dst u h1
    simp only [hrd] at h
    refine ⟨(h u0 hu0).1, fun w hC hl => ?_, fun u' hu' => ⟨reads_put ops oi a oj.dst u' h3, keep u' _, fun u hu => ?_⟩⟩
    · have := (h u0 hu0).2.1 w hC ((looks_put h1).2 hl)
      unfold growAt at *
      rwa [execOp_put oj hsj a oi.dst u0 h1] at this
    · have := (h u hu).2.2 u' hu'
      rw [← Act.put_comm a u u' h2, ← kput_comm k oi.dst oj.dst _ _ h2]
      exact this
  · have hwf : Region.wanted oj (yielded ops a.tmps) = false := by simpa using hw
    simp only [hwf, Bool.false_eq_true, if_false]
    have hw' : ∀ u, Region.wanted oj (yielded ops (a.put oi.dst u).tmps) = false := fun u => by rw [wanted_put oj a oi.dst u h1]; exact hwf
    simp only [hw', Bool.false_eq_true, if_false] at h
    refine ⟨reads_put ops oi a oj.dst _ h3, keep _ _, fun u hu => ?_⟩
    have := h u hu
    rw [← Act.put_comm a u undef h2, ← kput_comm k oi.dst oj.dst _ _ h2]
    exact this
theorem yieldsG_of_gOp {i : Nat} {o : Oper} {a : Act} {k : Kn} {K : Act → Kn → Prop} (hi : ops[i]? = some o) (h : gOp P ops C Le M i K a k) : ∃ ok f, YieldsG P ops C Le (M i (reads ops o a)) o ok f a k ∧ ∀ u, ok u → K (a.put o.dst u) (kput k o.dst (f u)) := by
  unfold gOp at h
  simp only [hi] at h
  by_cases hw : Region.wanted o (yielded ops a.tmps) = true
  · simp only [hw, if_true] at h
    exact ⟨_, _, .inl ⟨hw, rfl, rfl, h.1, h.2.1⟩, h.2.2⟩
  · simp only [hw] at h
    exact ⟨_, _, .inr ⟨by simpa using hw, rfl, rfl⟩, fun u hu => by subst hu; exact h⟩
def wpAnyL (P : Program) (md : Region.Mode) (ops : Array Oper) (C : World → Prop) (Le : World → World → Prop) (M : Nat → List Value → Mode) (n : Nat) (Q : Act → Kn → Prop) : Nat → Array Bool → Act → Kn → Prop
  | 0, listed, a, k => Region.ready md ops listed ≠ [] ∧ (∀ j ∈ Region.ready md ops listed, j = n) ∧ Region.ready md ops (listed.setIfInBounds n true) = [] ∧ Q a k
  | fuel + 1, listed, a, k => Region.ready md ops listed ≠ [] ∧ (∀ j ∈ Region.ready md ops listed, j ≠ n) ∧ ∀ i ∈ Region.ready md ops listed, gOp P ops C Le M i (wpAnyL P md ops C Le M n Q fuel (listed.setIfInBounds i true)) a k
theorem wpAny_of_growL {Q : Act → Kn → Prop} {Q' : Exit → Act → World → Prop} (hLS : ∀ w w', Le w w' → w.heap.size ≤ w'.heap.size) (hCL : ∀ w w', C w → Le w w' → C w') (hQ : ∀ a k L w, C w → (∀ s, k s (L s) w) → Apt L w → Q a k → wpOp P ops Q' n (fun a w => Q' .normal a w) a w) : ∀ (fuel : Nat) (listed : Array Bool) (a : Act) (k : Kn) (L : Nat → Nat × Nat) (w : World), Stays Le k → C w → (∀ s, k s (L s) w) → Apt L w →
    wpAnyL P md ops C Le M n Q fuel listed a k → wpAny P md ops Q' (fuel + 1) listed a w
  | 0, _, _, _, _, _, hs, hw, hk, hL, h => ⟨fun h0 => absurd h0 h.1, fun i hi => by
      have := h.2.1 i hi
      subst this
      exact wpOp_mono (fun a w hq => ⟨h.2.2.1, hq⟩) (hQ _ _ _ _ hw hk hL h.2.2.2)⟩
  | fuel + 1, _, _, _, _, _, hs, hw, hk, hL, h => ⟨fun h0 => absurd h0 h.1, fun i hi => wpOp_of_gOp hLS hCL hs hw hk hL (fun a' k' L' w' hs' hw' hk' hL' => wpAny_of_growL hLS hCL hQ fuel _ a' k' L' w' hs' hw' hk' hL') (h.2.2 i hi)⟩
theorem wpAnyL_first {Q : Act → Kn → Prop} {i : Nat} {oi : Oper} {ok : Value → Prop} {f : Value → Nat × Nat → World → Prop} (hwt : waitsAll md ops n = true) (hin : i < n) (hi : ops[i]? = some oi) (hsel : ∀ (j : Nat) (o : Oper) cs b, ops[j]? = some o → o.op ≠ .select cs b) :
    ∀ (fuel : Nat) (listed : Array Bool) (a : Act) (k : Kn),
      (∀ j oj, ops[j]? = some oj → j ≠ i → listed.getD j true = false → (∀ e ∈ oj.after, Region.binds md e = true → e.on ≠ i) → oi.apart ops oj = true) →
      i ∈ Region.ready md ops listed → YieldsG P ops C Le (M i (reads ops oi a)) oi ok f a k →
      (∀ u, ok u → wpAnyL P md ops C Le M n Q fuel (listed.setIfInBounds i true) (a.put oi.dst u) (kput k oi.dst (f u))) → wpAnyL P md ops C Le M n Q (fuel + 1) listed a k := by
  intro fuel
  induction fuel with
  | zero =>
    intro listed a k _ hr hy H
    have hnl : ∀ j ∈ Region.ready md ops listed, j ≠ n := fun j hj e => last_waits hwt hin (mem_ready.1 hr).1 (e ▸ hj)
    refine ⟨fun h => (by rw [h] at hr; cases hr), hnl, fun j hj => ?_⟩
    by_cases hji : j = i
    · subst hji; exact hy.gOp hi H
    · obtain ⟨u0, hu0⟩ := yields_some hy
      exact absurd ((H u0 hu0).2.1 j (ready_mono hj hji)) (hnl j hj)
  | succ fuel ih =>
    intro listed a k hfree hr hy H
    have hnl : ∀ j ∈ Region.ready md ops listed, j ≠ n := fun j hj e => last_waits hwt hin (mem_ready.1 hr).1 (e ▸ hj)
    refine ⟨fun h => (by rw [h] at hr; cases hr), hnl, fun j hj => ?_⟩
    by_cases hji : j = i
    · subst hji; exact hy.gOp hi H
    · have h1 : ∀ u, ok u → _ := fun u hu => (H u hu).2.2 j (ready_mono hj hji)
      obtain ⟨hjun, oj, hoj, hall⟩ := mem_ready.1 hj
      have hnot : ∀ e ∈ oj.after, Region.binds md e = true → e.on ≠ i := fun e he hb heq => by
        have h1 := hall e he hb
        have h0 := (mem_ready.1 hr).1
        rw [heq] at h1
        rcases Nat.lt_or_ge i listed.size with h' | h'
        · simp [h'] at h0 h1; rw [h0] at h1; cases h1
        · simp [Array.getElem?_eq_none h'] at h1
      have h2 := gOp_put hoj (hfree j oj hoj hji hjun hnot) (fun cs b => hsel i oi cs b hi) (fun cs b => hsel j oj cs b hoj) hy h1
      have hfree' : ∀ k ok, ops[k]? = some ok → k ≠ i → (listed.setIfInBounds j true).getD k true = false →
          (∀ e ∈ ok.after, Region.binds md e = true → e.on ≠ i) → oi.apart ops ok = true := fun k ok hk hki hun hno => by
        refine hfree k ok hk hki ?_ hno
        by_cases hjk : j = k
        · subst hjk; exact hjun
        · rw [getD_set_ne true hjk] at hun; exact hun
      refine gOp_mono (fun a' k' h3 => ih (listed.setIfInBounds j true) a' k' hfree' (ready_mono hr (Ne.symm hji)) (by rw [h3.1]; exact h3.2.1) (fun u hu => ?_)) h2
      rw [Array.setIfInBounds_comm _ _ hji]
      exact h3.2.2 u hu
theorem wpAnyL_lex {Q : Act → Kn → Prop} (hs : Region.noSelect ops = true) (hwt : waitsAll md ops n = true) : ∀ (l : List Oper) (i : Nat) (listed : Array Bool) (a : Act) (k : Kn), i + l.length = n → (∀ j, j < l.length → l[j]? = ops[i + j]?) →
    Region.lexFrom md ops (l.length + 1) i listed = true → wpGrow P ops C Le M Q i l a k → wpAnyL P md ops C Le M n Q l.length listed a k
  | [], i, listed, _, _, hn, _, hB, h => by
    have hin : i = n := by simpa using hn
    subst hin
    simp only [List.length_nil, Region.lexFrom, Bool.and_eq_true, List.isEmpty_iff] at hB
    obtain ⟨⟨hr, hf⟩, he⟩ := hB
    have hr' : i ∈ Region.ready md ops listed := by simpa using hr
    refine ⟨fun h0 => (by rw [h0] at hr'; cases hr'), fun j hj => ?_, he, h⟩
    by_cases hji : j = i
    · exact hji
    · have := ready_mono hj hji
      rw [he] at this
      cases this
  | o :: l, i, listed, a, k, hn, hl, hB, h => by
    have h0 : ops[i]? = some o := by simpa using (hl 0 (by simp)).symm
    simp only [List.length_cons] at hn
    rw [List.length_cons] at hB
    unfold Region.lexFrom at hB
    simp only [Bool.and_eq_true] at hB
    obtain ⟨⟨hr, hf⟩, hB'⟩ := hB
    have hst : gOp P ops C Le M i (wpGrow P ops C Le M Q (i + 1) l) a k := by unfold gOp; simp only [h0]; exact h
    obtain ⟨ok, f, hy, hK⟩ := yieldsG_of_gOp h0 hst
    exact wpAnyL_first hwt (by omega) h0 (Region.noSelect_spec hs) l.length listed a k (Region.free_spec h0 hf) (by simpa using hr) hy
      (fun u hu => wpAnyL_lex hs hwt l (i + 1) _ _ _ (by omega) (fun j hj => by have := hl (j + 1) (by simp; omega); simpa [Nat.add_assoc, Nat.add_comm 1 j] using this) hB' (hK u hu))
/-- All but the last in the text's order, then the last; what was made by two of them lies apart. -/
theorem wp_region_growI {id : Nat} {Q : Exit → Act → World → Prop} {a : Act} {w : World} {l : List Oper} {o : Oper} {L : List Oper} (C : World → Prop) (Le : World → World → Prop) (M : Nat → List Value → Mode) (hm : P.follows .mixedOrders = true) (hL : L = l ++ [o]) (hB : Region.lexB .any L.toArray = true) (hwt : waitsAll .any L.toArray l.length = true) (hLS : ∀ w w', Le w w' → w.heap.size ≤ w'.heap.size) (hCL : ∀ w w', C w → Le w w' → C w') (hC : C w.drew)
    (h : wpGrow P L.toArray C Le M (fun a' k' => ∀ I w', C w' → (∀ s, k' s (I s) w') → Apt I w' → wpList P L.toArray Q [o] a' w') 0 l a (fun _ _ _ => True)) : (Code.region id L.toArray true).wp P Q a w := by
  simp only [Region.lexB, Bool.and_eq_true] at hB
  have hsz : L.toArray.size = l.length + 1 := by rw [hL]; simp
  have ho : L.toArray[l.length]? = some o := by rw [hL]; simp
  refine wp_region_any hm ?_
  rw [hsz]
  refine wpAny_of_growL (M := M) (n := l.length) (Q := fun a' k' => ∀ I w', C w' → (∀ s, k' s (I s) w') → Apt I w' → wpList P L.toArray Q [o] a' w') hLS hCL (fun a k I w' hw' hk hA h => ?_) _ _ _ (fun _ _ _ => True) (fun _ => (0, 0)) _ (fun _ _ _ _ _ h => h) hC (fun _ => trivial) ⟨fun _ => Nat.zero_le _, fun _ _ _ => .inl (Nat.le_refl _)⟩ ?_
  · have := h I w' hw' hk hA
    unfold wpList at this
    unfold wpOp
    simp only [ho]
    exact this
  · have hB2 := hB.2
    rw [hsz] at hB2
    exact wpAnyL_lex (C := C) (Le := Le) (M := M) (md := .any) hB.1 hwt l 0 _ a (fun _ _ _ => True) (by simp) (fun j hj => by rw [hL]; simp [List.getElem?_append_left hj]) hB2 h
end
/-- One value. -/
def one (v : Value) : Mode := ⟨fun u => u = v, ⟨v, rfl⟩, fun _ _ _ => True⟩
/-- Any value of which something is known, and in which blocks it was made. -/
def loose (f : Value → Nat × Nat → World → Prop) : Mode := ⟨fun _ => True, ⟨undef, trivial⟩, f⟩
def modes (l : List (List Value → Mode)) (i : Nat) : List Value → Mode := l.getD i (fun _ => one undef)
section
variable {P : Program} {ops : Array Oper} {C : World → Prop} {Le : World → World → Prop} {M : Nat → List Value → Mode} {Q : Act → Kn → Prop}
theorem g_runs {i : Nat} {o : Oper} {rest : List Oper} {a : Act} {k : Kn} (v : Value) (hR : ∀ w, Le w w) (hM : M i (reads ops o a) = one v) (hw : Region.wanted o (yielded ops a.tmps) = true)
    (h : ∀ w, C w → (execOp a.eval o).run P w = .ok (.value v) w) (hk : wpGrow P ops C Le M Q (i + 1) rest (a.put o.dst v) (kput k o.dst (fun _ _ => True))) : wpGrow P ops C Le M Q i (o :: rest) a k := by
  unfold wpGrow
  rw [if_pos hw, hM]
  refine ⟨fun _ _ _ _ _ h => h, fun w hC _ => ?_, fun u hu => ?_⟩
  · unfold growAt
    rw [h w hC]
    exact ⟨hR w, rfl, trivial⟩
  · cases hu
    exact hk
theorem g_loose {i : Nat} {o : Oper} {rest : List Oper} {a : Act} {k : Kn} (f : FuncId) (args : Array Value) (φ : Value → Nat × Nat → World → Prop) (hM : M i (reads ops o a) = loose φ) (hφ : ∀ u I w w', Le w w' → φ u I w → φ u I w') (hw : Region.wanted o (yielded ops a.tmps) = true)
    (h : ∀ w, C w → (execOp a.eval o).run P w = .ok (.enter f args) w) (hc : ∀ w, C w → (∀ s ∈ o.looksAt ops, ∃ I, k s I w) → Calls P f args w (fun e w' => ∃ v, e = .returned v ∧ Le w w' ∧ φ v (w.heap.size, w'.heap.size) w')) (hk : ∀ u, wpGrow P ops C Le M Q (i + 1) rest (a.put o.dst u) (kput k o.dst (φ u))) : wpGrow P ops C Le M Q i (o :: rest) a k := by
  unfold wpGrow
  rw [if_pos hw, hM]
  refine ⟨hφ, fun w hC hl => ?_, fun u _ => hk u⟩
  unfold growAt
  rw [h w hC]
  exact ⟨rfl, (hc w hC hl).mono fun e w' ⟨v, h1, h2, h3⟩ => ⟨v, h1, h2, trivial, h3⟩⟩
theorem g_makes {i : Nat} {o : Oper} {rest : List Oper} {a : Act} {k : Kn} (φ : Value → Nat × Nat → World → Prop) (hM : M i (reads ops o a) = loose φ) (hφ : ∀ u I w w', Le w w' → φ u I w → φ u I w') (hw : Region.wanted o (yielded ops a.tmps) = true)
    (h : ∀ w, C w → (∀ s ∈ o.looksAt ops, ∃ I, k s I w) → ∃ u w', (execOp a.eval o).run P w = .ok (.value u) w' ∧ Le w w' ∧ φ u (w.heap.size, w'.heap.size) w') (hk : ∀ u, wpGrow P ops C Le M Q (i + 1) rest (a.put o.dst u) (kput k o.dst (φ u))) : wpGrow P ops C Le M Q i (o :: rest) a k := by
  unfold wpGrow
  rw [if_pos hw, hM]
  refine ⟨hφ, fun w hC hl => ?_, fun u _ => hk u⟩
  obtain ⟨u, w', h1, h2, h3⟩ := h w hC hl
  unfold growAt
  rw [h1]
  exact ⟨h2, trivial, h3⟩
theorem g_nil {i : Nat} {a : Act} {k : Kn} (h : Q a k) : wpGrow P ops C Le M Q i [] a k := h
end

end Go.Proofs.YtagjbbdpenbcoaaDoor.Ivl
namespace Go.Proofs.YtagjbbdpenbcoaaDoor
open Go.RowKit
set_option linter.unusedVariables false

set_option maxHeartbeats 1000000 in
set_option maxRecDepth 100000 in
theorem two_raw (kind : Int) (t u : T) (ka la : Option Addr) (kc lc : Nat) (w : World) :
    Calls Tryd.prog 57 #[.int .i64 kind, .agg #[.int .i64 t.kind, .string t.s, .int .i64 t.n, .slice ka t.k.length kc], .agg #[.int .i64 u.kind, .string u.s, .int .i64 u.n, .slice la u.k.length lc]] w fun e w' => ∃ b, e = .returned (.agg #[.int .i64 kind, .string ⟨#[]⟩, .int .i64 0, .slice (some ⟨b, 0, none⟩) 2 2]) ∧ w.heap.size ≤ b ∧ Blk w' b 30 (eight t ka kc u la lc) ∧ Up w w' := by
  go_enter Tryd.func57, Tryd.ntmps57
  go_wp2_with fail
  refine bodyPost_ret (results_cell_row rfl _ _ (w.heap.size + 1 + 1) 30 #[.int .i64 kind, .string ⟨#[]⟩, .int .i64 0, .slice (some ⟨w.heap.size + 1 + 1 + 1, 0, none⟩) 2 2] (0, 0) _ rfl ?blk Tryd.underlying30 rfl infoT) rfl ?post
  case blk => exact blk_keep (blk_new (by simp)) _
  case post => exact ⟨_, rfl, by omega, blk_new (by simp), below_alloc (below_alloc (below_alloc (below_alloc (Below.refl _ _) _) _) _) _⟩
theorem cell_nine {W : World} {R g : Nat} {a b c d e a' b' c' d' : Value} {k o : Nat} (h1 : k ≠ g) (h2 : k ≠ R) : (((((((((W.setCell ⟨g, 0, none⟩ a).setCell ⟨g, 1, none⟩ b).setCell ⟨g, 2, none⟩ c).setCell ⟨g, 3, none⟩ d).setCell ⟨g, 1, none⟩ e).setCell ⟨R, 0, none⟩ a').setCell ⟨R, 1, none⟩ b').setCell ⟨R, 2, none⟩ c').setCell ⟨R, 3, none⟩ d').cell? ⟨k, o, none⟩ = W.cell? ⟨k, o, none⟩ := by
  rw [set4_cell' h2, World.cell?_setCell_other _ _ _ _ (by intro e; injection e with e; exact h1 e.symm), set4_cell' h1]
/-- A tree that was made in these blocks. -/
def treeI (B : Nat) (t : T) (v : Value) (I : Nat × Nat) (w : World) : Prop := ∃ ka kc, v = .agg #[.int .i64 t.kind, .string t.s, .int .i64 t.n, .slice ka t.k.length kc] ∧ B ≤ I.1 ∧ ∀ X : World, (∀ b o c, I.1 ≤ b → b < I.2 → w.cell? ⟨b, o, none⟩ = some c → X.cell? ⟨b, o, none⟩ = some c) → TIn X I.1 t (.agg (four t ka kc))
theorem treeI_stays (B : Nat) (t : T) : ∀ u I w w', Up w w' → treeI B t u I w → treeI B t u I w' := fun u I w w' h ⟨ka, kc, e, hB, ht⟩ => ⟨ka, kc, e, hB, fun X hX => ht X (fun b o c h1 h2 hc => hX b o c h1 h2 ((Below.cell h (p := ⟨b, o, none⟩) (World.block_lt_of_cell? w _ hc)).trans hc))⟩
theorem treeI_made {B : Nat} {w w' : World} {t : T} {ka : Option Addr} {kc : Nat} (hB : B ≤ w.heap.size) (ht : TIn w' w.heap.size t (.agg (four t ka kc))) : treeI B t (.agg #[.int .i64 t.kind, .string t.s, .int .i64 t.n, .slice ka t.k.length kc]) (w.heap.size, w'.heap.size) w' :=
  ⟨ka, kc, rfl, hB, fun X hX => ht.kept (Nat.le_refl _) (fun b o c hb hc => hX b o c hb (World.block_lt_of_cell? w' _ hc) hc)⟩
/-- The row of two trees. -/
def rowI (B : Nat) (ta tb : T) (r : List Value) (v : Value) (I : Nat × Nat) (w : World) : Prop := ∃ ka kc la lc b, r = [.agg #[.int .i64 ta.kind, .string ta.s, .int .i64 ta.n, .slice ka ta.k.length kc], .agg #[.int .i64 tb.kind, .string tb.s, .int .i64 tb.n, .slice la tb.k.length lc]] ∧ v = .agg #[.int .i64 5, .string ⟨#[]⟩, .int .i64 0, .slice (some ⟨b, 0, none⟩) 2 2] ∧ B ≤ b ∧ I.1 ≤ b ∧ b < I.2 ∧ Blk w b 30 (eight ta ka kc tb la lc)
theorem rowI_stays (B : Nat) (ta tb : T) (r : List Value) : ∀ u I w w', Up w w' → rowI B ta tb r u I w → rowI B ta tb r u I w' := fun u I w w' h ⟨ka, kc, la, lc, b, e1, e2, h0, h1, h2, hb⟩ => ⟨ka, kc, la, lc, b, e1, e2, h0, h1, h2, hb.below h hb.lt⟩
/-- A struct of its own, empty. -/
def zeroI (B : Nat) (v : Value) (I : Nat × Nat) (w : World) : Prop := v = .pointer (some ⟨I.1, 0, none⟩) ∧ B ≤ I.1 ∧ I.1 < I.2 ∧ Blk w I.1 30 zeroT
theorem zeroI_stays (B : Nat) : ∀ u I w w', Up w w' → zeroI B u I w → zeroI B u I w' := fun u I w w' h ⟨e, h1, h2, hb⟩ => ⟨e, h1, h2, hb.below h hb.lt⟩
set_option maxHeartbeats 1000000 in
set_option maxRecDepth 100000 in
theorem plainC_or (s : ByteArray) (l r : C) (q1 : One' l.val) (q2 : One' r.val) (ih1 : MakesC l) (ih2 : MakesC r) : MakesC (.or s l r) := by
  intro w
  have a0 := fun v xT w => notZero 69 v xT w (by decide)
  have a1 := fun v xT w => notOne 69 v xT w (by decide)
  have a2 := fun v xT w => notGive 69 v xT w (by decide)
  have a3 := fun v xT w => notAnd 69 v xT w (by decide)
  have a4 := fun v xT w => isOr v xT w
  have hs1 := q1.store
  have cv1 := q1.cells
  have mv1 := q1.cells
  unfold Value.cells at mv1
  have hs2 := q2.store
  have cv2 := q2.cells
  have mv2 := q2.cells
  unfold Value.cells at mv2
  unfold C.val
  clear q1 q2
  go_enter Tryd.func36, Tryd.ntmps36
  go_wp2_with fail
  obtain ⟨W, hW⟩ : ∃ W, W = (w.alloc (.cells #[.int .i64 0, .string ⟨#[]⟩, .int .i64 0, .slice none 0 0] 30)).alloc (.cells #[.string s, l.val, r.val] 69) := ⟨_, rfl⟩
  have HB : Hid (Below w.heap.size w W) := by rw [hW]; exact below_alloc (below_alloc (Below.refl _ _) _) _
  have HZ : Hid (Blk W w.heap.size 30 zeroT) := by rw [hW]; exact blk_keep (blk_new rfl) _
  have HX : Hid (Blk W (w.heap.size + 1) 69 #[.string s, l.val, r.val]) := by rw [hW]; exact blk_new (by simp)
  have HWS : Hid (W.heap.size = w.heap.size + 2) := by unfold Hid; rw [hW]; simp
  rw [← hW]
  clear hW
  have HI1 : Hid (∀ w, Calls Tryd.prog 36 #[l.val] w (TreePost w (plainC l))) := ih1
  have HI2 : Hid (∀ w, Calls Tryd.prog 36 #[r.val] w (TreePost w (plainC r))) := ih2
  have HPL : Hid (plainC (.or s l r) = .mk 5 s 0 [plainC l, plainC r]) := rfl
  have HF : Hid (∀ w', Below W.heap.size W w' → w'.cell? ⟨w.heap.size + 1, 0, none⟩ = some (.string s) ∧ w'.cell? ⟨w.heap.size + 1, 1, none⟩ = some l.val ∧ w'.cell? ⟨w.heap.size + 1, 2, none⟩ = some r.val) := fun w' hw' => ⟨(HX.out.below hw' HX.out.lt).cell 0, (HX.out.below hw' HX.out.lt).cell 1, (HX.out.below hw' HX.out.lt).cell 2⟩
  clear ih1 ih2
  generalize l.val = va at *
  generalize r.val = vb at *
  generalize plainC l = ta at *
  generalize plainC r = tb at *
  clear hs1 cv1 mv1 hs2 cv2 mv2 a0 a1 a2 a3 a4
  refine Ivl.wp_region_growI (l := [_, _, _, _, _, _, _, _]) (fun w' => Below W.heap.size W w') Up (Ivl.modes [fun _ => Ivl.one (.pointer (some ⟨w.heap.size + 1, 1, none⟩)), fun _ => Ivl.one va, fun _ => Ivl.loose (treeI W.heap.size ta), fun _ => Ivl.one (.pointer (some ⟨w.heap.size + 1, 2, none⟩)), fun _ => Ivl.one vb, fun _ => Ivl.loose (treeI W.heap.size tb), fun r => Ivl.loose (rowI W.heap.size ta tb r), fun _ => Ivl.loose (zeroI W.heap.size)]) (by kernel_rfl) rfl (by kernel_rfl) (by kernel_rfl) (fun _ _ h => Below.size h) (up_class _) (below_drew (Below.refl _ _)) ?_
  generalize hops : (#[_, _, _, _, _, _, _, _, _] : Array Oper) = ops
  clear hops
  refine Ivl.g_runs (.pointer (some ⟨w.heap.size + 1, 1, none⟩)) Up.refl rfl (wanted_none rfl) (fun w' hw' => ?_) ?_
  · go_simp
  simp only [Act.put, List.setIfInBounds_toArray, List.set_cons_zero, List.set_cons_succ]
  refine Ivl.g_runs (va) Up.refl rfl (wanted_none rfl) (fun w' hw' => ?_) ?_
  · obtain ⟨y0, y1, y2⟩ := HF.out w' hw'
    go_simp
  simp only [Act.put, List.setIfInBounds_toArray, List.set_cons_zero, List.set_cons_succ]
  refine Ivl.g_loose 36 #[va] (treeI W.heap.size ta) rfl (treeI_stays _ _) (wanted_none rfl) (fun w' hw' => ?_) (fun w' hw' hk => ?_) (fun u46 => ?_)
  · go_simp
  · refine (HI1.out w').mono ?_
    rintro e w3 ⟨ka, kc, rfl, ht, hb⟩
    exact ⟨_, rfl, hb, treeI_made hw'.size ht⟩
  simp only [Act.put, List.setIfInBounds_toArray, List.set_cons_zero, List.set_cons_succ]
  refine Ivl.g_runs (.pointer (some ⟨w.heap.size + 1, 2, none⟩)) Up.refl rfl (wanted_none rfl) (fun w' hw' => ?_) ?_
  · go_simp
  simp only [Act.put, List.setIfInBounds_toArray, List.set_cons_zero, List.set_cons_succ]
  refine Ivl.g_runs (vb) Up.refl rfl (wanted_none rfl) (fun w' hw' => ?_) ?_
  · obtain ⟨y0, y1, y2⟩ := HF.out w' hw'
    go_simp
  simp only [Act.put, List.setIfInBounds_toArray, List.set_cons_zero, List.set_cons_succ]
  refine Ivl.g_loose 36 #[vb] (treeI W.heap.size tb) rfl (treeI_stays _ _) (wanted_none rfl) (fun w' hw' => ?_) (fun w' hw' hk => ?_) (fun u49 => ?_)
  · go_simp
  · refine (HI2.out w').mono ?_
    rintro e w3 ⟨ka, kc, rfl, ht, hb⟩
    exact ⟨_, rfl, hb, treeI_made hw'.size ht⟩
  simp only [Act.put, List.setIfInBounds_toArray, List.set_cons_zero, List.set_cons_succ]
  refine Ivl.g_loose 57 #[.int .i64 5, u46, u49] (rowI W.heap.size ta tb [u46, u49]) rfl (rowI_stays _ _ _ _) (wanted_none rfl) (fun w' hw' => ?_) (fun w' hw' hk => ?_) (fun u50 => ?_)
  · go_simp
  · obtain ⟨_, ka, kc, rfl, _, _⟩ : ∃ I, treeI W.heap.size ta u46 I w' := hk 46 (looks_at (by simp [Op.operands, Call.operands]))
    obtain ⟨_, la, lc, rfl, _, _⟩ : ∃ I, treeI W.heap.size tb u49 I w' := hk 49 (looks_at (by simp [Op.operands, Call.operands]))
    refine (two_raw 5 ta tb ka la kc lc w').mono ?_
    rintro e w3 ⟨b, rfl, hbb, hblk, hb⟩
    exact ⟨_, rfl, hb, ka, kc, la, lc, b, rfl, rfl, Nat.le_trans hw'.size hbb, hbb, hblk.lt, hblk⟩
  simp only [Act.put, List.setIfInBounds_toArray, List.set_cons_zero, List.set_cons_succ]
  refine Ivl.g_makes (zeroI W.heap.size) rfl (zeroI_stays _) (wanted_none rfl) (fun w' hw' hk => ?_) (fun u8 => ?_)
  · refine ⟨.pointer (some ⟨w'.heap.size, 0, none⟩), w'.alloc (.cells zeroT 30), ?_, below_alloc (Below.refl _ _) _, rfl, hw'.size, ?_, blk_new rfl⟩
    · unfold zeroT
      go_simp
    · show w'.heap.size < (w'.alloc _).heap.size
      rw [World.size_alloc]
      exact Nat.lt_succ_self _
  simp only [Act.put, List.setIfInBounds_toArray, List.set_cons_zero, List.set_cons_succ]
  refine Ivl.g_nil ?_
  intro I w9 hw9 hk9 hA
  obtain ⟨ka, kc, e46, b46, t46⟩ : treeI W.heap.size ta u46 (I 46) w9 := hk9 46
  obtain ⟨la, lc, e49, b49, t49⟩ : treeI W.heap.size tb u49 (I 49) w9 := hk9 49
  obtain ⟨ka', kc', la', lc', b, e50, f50, b0, b1, b2, hblk⟩ : rowI W.heap.size ta tb [u46, u49] u50 (I 50) w9 := hk9 50
  obtain ⟨f8, b8, c8, hz8⟩ : zeroI W.heap.size u8 (I 8) w9 := hk9 8
  have d1 := hA.2 46 8 (by decide)
  have d2 := hA.2 49 8 (by decide)
  have d3 := hA.2 50 8 (by decide)
  have d4 := hA.2 46 50 (by decide)
  rw [e46, e49] at e50
  simp only [List.cons.injEq, Value.agg.injEq, and_true] at e50
  have hka : ka' = ka ∧ kc' = kc ∧ la' = la ∧ lc' = lc := by
    obtain ⟨h1, h2⟩ := e50
    simp at h1 h2
    exact ⟨h1.1.symm, h1.2.symm, h2.1.symm, h2.2.symm⟩
  obtain ⟨rfl, rfl, rfl, rfl⟩ := hka
  subst f50 f8 e46 e49
  have hws := HWS.out
  generalize hg : (I 8).1 = g at *
  have ng0 : ¬ g = w.heap.size := by omega
  have ng1 : ¬ g = w.heap.size + 1 := by omega
  have ng2 : ¬ w.heap.size = g := by omega
  have ng3 : ¬ w.heap.size + 1 = g := by omega
  obtain ⟨⟨g0, g1, g2, g3⟩, k0, k1, k2, k3⟩ := blk_zero hz8
  have hz9 := HZ.out.below hw9 HZ.out.lt
  obtain ⟨⟨z0, z1, z2, z3⟩, f0, f1, f2, f3⟩ := blk_zero hz9
  obtain ⟨y0, _, _⟩ := HF.out w9 hw9
  have HZ9 := hidIn hz9
  have HZ8 := hidIn hz8
  have HB9 := hidIn hw9
  have HT46 := hidIn t46
  have HT49 := hidIn t49
  have HBLK := hidIn hblk
  have HNUM : Hid (W.heap.size ≤ (I 46).1 ∧ W.heap.size ≤ (I 49).1 ∧ (I 50).1 ≤ b ∧ b < (I 50).2 ∧ W.heap.size ≤ g ∧ ((I 46).2 ≤ g ∨ g < (I 46).1) ∧ ((I 49).2 ≤ g ∨ g < (I 49).1) ∧ ((I 50).2 ≤ g ∨ g < (I 50).1)) := ⟨b46, b49, b1, b2, b8, by omega, by omega, by omega⟩
  have HBL : Hid (W.heap.size ≤ b) := b0
  have HG := hidIn hws
  clear hz8 hz9 hw9 t46 t49 hblk hk9 hA d1 d2 d3 d4 b46 b49 b0 b1 b2 b8 c8 e50 hws hg
  go_upto_region 17 with fail
  obtain ⟨w10, h10⟩ : ∃ y, y = (((w9.setCell ⟨g, 0, none⟩ (.int .i64 5)).setCell ⟨g, 1, none⟩ (.string ⟨#[]⟩)).setCell ⟨g, 2, none⟩ (.int .i64 0)).setCell ⟨g, 3, none⟩ (.slice (some ⟨b, 0, none⟩) 2 2) := ⟨_, rfl⟩
  have hg10 : Blk w10 g 30 #[.int .i64 5, .string ⟨#[]⟩, .int .i64 0, .slice (some ⟨b, 0, none⟩) 2 2] := by rw [h10]; exact blk_set4' HZ8.out _ _ _ _
  have hr10 : Blk w10 w.heap.size 30 zeroT := by rw [h10]; exact blk_other (blk_other (blk_other (blk_other HZ9.out ng2 _ _) ng2 _ _) ng2 _ _) ng2 _ _
  have HC10 : Hid (∀ k x, k ≠ g → w10.cell? ⟨k, x, none⟩ = w9.cell? ⟨k, x, none⟩) := by intro k x hk; rw [h10]; exact set4_cell' hk
  have HB10 : Hid (Below w.heap.size w w10) := by
    have hbw : Below w.heap.size w w9 := HB.out.trans (HB9.out.mono HB.out.size)
    have hws := HG.out
    obtain ⟨m1, m2, m3, m4, m5, m6, m7, m8⟩ := HNUM.out
    rw [h10]
    exact below_set (below_set (below_set (below_set hbw (by omega) _ _) (by omega) _ _) (by omega) _ _) (by omega) _ _
  have HBLK10 : Hid (Blk w10 b 30 (eight ta ka' kc' tb la' lc')) := by
    obtain ⟨m1, m2, m3, m4, m5, m6, m7, m8⟩ := HNUM.out
    rw [h10]
    exact blk_other (blk_other (blk_other (blk_other HBLK.out (by omega) _ _) (by omega) _ _) (by omega) _ _) (by omega) _ _
  rw [← h10]
  have y10 : w10.cell? ⟨w.heap.size + 1, 0, none⟩ = some (.string s) := (HC10.out _ _ ng3).trans y0
  clear h10 g0 g1 g2 g3 k0 k1 k2 k3 z0 z1 z2 z3 f0 f1 f2 f3 y0
  have g0 : w10.cell? ⟨g, 0, none⟩ = some (.int .i64 5) := hg10.cell 0
  have g1 : w10.cell? ⟨g, 1, none⟩ = some (.string ⟨#[]⟩) := hg10.cell 1
  have g2 : w10.cell? ⟨g, 2, none⟩ = some (.int .i64 0) := hg10.cell 2
  have g3 : w10.cell? ⟨g, 3, none⟩ = some (.slice (some ⟨b, 0, none⟩) 2 2) := hg10.cell 3
  have k1 := hg10.frozen 1
  obtain ⟨⟨z0, z1, z2, z3⟩, f0, f1, f2, f3⟩ := blk_zero hr10
  have HR10 := hidIn hr10
  clear hg10 hr10
  go_wp2_with fail
  refine bodyPost_ret (results_cell_row rfl _ _ w.heap.size 30 #[.int .i64 5, .string s, .int .i64 0, .slice (some ⟨b, 0, none⟩) 2 2] (0, 0) _ rfl ?blk Tryd.underlying30 rfl infoT) rfl ?post
  case blk => change Blk _ _ _ _; (with_reducible refine blk_set4' ?_ _ _ _ _); (repeat first | with_reducible exact HR10.out | with_reducible refine blk_other ?_ ng2 _ _)
  case post =>
    have hws := HG.out
    obtain ⟨m1, m2, m3, m4, m5, m6, m7, m8⟩ := HNUM.out
    have m9 := HBL.out
    rw [HPL.out]
    have hcl : ∀ k x c, k ≠ g → k ≠ w.heap.size → w9.cell? ⟨k, x, none⟩ = some c → ((((((w10.setCell ⟨g, 1, none⟩ (.string s)).setCell ⟨w.heap.size, 0, none⟩ (.int .i64 5)).setCell ⟨w.heap.size, 1, none⟩ (.string s)).setCell ⟨w.heap.size, 2, none⟩ (.int .i64 0)).setCell ⟨w.heap.size, 3, none⟩ (.slice (some ⟨b, 0, none⟩) 2 2)).cell? ⟨k, x, none⟩) = some c := by
      intro k x c h1 h2 hc
      rw [set4_cell' h2, World.cell?_setCell_other _ _ _ _ (by intro e; injection e with e; exact h1 e.symm), HC10.out k x h1]
      exact hc
    refine ⟨some ⟨b, 0, none⟩, 2, rfl, ⟨some ⟨b, 0, none⟩, 2, rfl, Nat.le_refl _, by omega, kat_two ((HT46.out _ (fun k x c h1 h2 hc => ?_)).low (by omega)) ((HT49.out _ (fun k x c h1 h2 hc => ?_)).low (by omega)) (by omega) ?_⟩, ?_⟩
    · exact hcl k x c (by omega) (by omega) hc
    · exact hcl k x c (by omega) (by omega) hc
    · (repeat first | with_reducible exact HBLK10.out | with_reducible refine blk_other ?_ (by omega) _ _)
    · (repeat first | with_reducible exact HB10.out | with_reducible refine below_set ?_ (by omega) _ _)

end Go.Proofs.YtagjbbdpenbcoaaDoor
namespace Go.Proofs.YtagjbbdpenbcoaaDoor
open Go.RowKit
set_option linter.unusedVariables false

/-- A tree in new memory. -/
def treeF (B : Nat) (t : T) (v : Value) (w : World) : Prop := ∃ ka kc, v = .agg #[.int .i64 t.kind, .string t.s, .int .i64 t.n, .slice ka t.k.length kc] ∧ TIn w B t (.agg (four t ka kc))
theorem treeF_stays (B : Nat) (t : T) : ∀ u w w', Up w w' → treeF B t u w → treeF B t u w' := fun u w w' h ⟨ka, kc, e, ht⟩ => ⟨ka, kc, e, ht.below h⟩
/-- Trees one behind another in new memory. -/
def kidsF (B : Nat) (l : List T) (n : Nat) (v : Value) (w : World) : Prop := ∃ b, v = .slice (some ⟨b, 0, none⟩) n n ∧ KAt w B l (some ⟨b, 0, none⟩) 0
theorem kidsF_stays (B : Nat) (l : List T) (n : Nat) : ∀ u w w', Up w w' → kidsF B l n u w → kidsF B l n u w' := fun u w w' h ⟨b, e, ht⟩ => ⟨b, e, ht.below h⟩
def madeF (B : Nat) (kind : Int) (d : Int) (l : List T) (n : Nat) (v : Value) (w : World) : Prop := ∃ b, v = .agg #[.int .i64 kind, .string ⟨#[]⟩, .int .i64 d, .slice (some ⟨b, 0, none⟩) n n] ∧ KAt w B l (some ⟨b, 0, none⟩) 0
theorem madeF_stays (B : Nat) (kind d : Int) (l : List T) (n : Nat) : ∀ u w w', Up w w' → madeF B kind d l n u w → madeF B kind d l n u w' := fun u w w' h ⟨b, e, ht⟩ => ⟨b, e, ht.below h⟩
set_option maxHeartbeats 4000000 in
set_option maxRecDepth 100000 in
theorem plainC_when (d : Int) (c : C) (q1 : One' c.val) (ih1 : MakesC c) : MakesC (.when d c) := by
  intro w
  have a0 := fun v xT w => notZero 71 v xT w (by decide)
  have a1 := fun v xT w => notOne 71 v xT w (by decide)
  have a2 := fun v xT w => notGive 71 v xT w (by decide)
  have a3 := fun v xT w => notAnd 71 v xT w (by decide)
  have a4 := fun v xT w => notOr 71 v xT w (by decide)
  have a5 := fun v xT w => notScale 71 v xT w (by decide)
  have a6 := fun v xT w => isWhen v xT w
  have hs1 := q1.store
  have cv1 := q1.cells
  have mv1 := q1.cells
  unfold Value.cells at mv1
  unfold C.val
  have HI1 := hidIn ih1
  clear q1
  go_enter Tryd.func36, Tryd.ntmps36
  go_wp2_with fail
  obtain ⟨W, hW⟩ : ∃ W, W = (w.alloc (.cells #[.int .i64 0, .string ⟨#[]⟩, .int .i64 0, .slice none 0 0] 30)).alloc (.cells #[.int .i64 d, c.val] 71) := ⟨_, rfl⟩
  have HB : Hid (Below w.heap.size w W) := by rw [hW]; exact below_alloc (below_alloc (Below.refl _ _) _) _
  have HZ : Hid (Blk W w.heap.size 30 zeroT) := by rw [hW]; exact blk_keep (blk_new rfl) _
  have HX : Hid (Blk W (w.heap.size + 1) 71 #[.int .i64 d, c.val]) := by rw [hW]; exact blk_new (by simp)
  have HWS : Hid (W.heap.size = w.heap.size + 2) := by unfold Hid; rw [hW]; simp
  rw [← hW]
  clear hW
  have HI1 : Hid (∀ w, Calls Tryd.prog 36 #[c.val] w (TreePost w (plainC c))) := ih1
  have HPL : Hid (plainC (.when d c) = .mk 7 ⟨#[]⟩ d [plainC c]) := rfl
  have HF : Hid (∀ w', Below W.heap.size W w' → w'.cell? ⟨w.heap.size + 1, 0, none⟩ = some (.int .i64 d) ∧ w'.cell? ⟨w.heap.size + 1, 1, none⟩ = some c.val) := fun w' hw' => ⟨(HX.out.below hw' HX.out.lt).cell 0, (HX.out.below hw' HX.out.lt).cell 1⟩
  clear ih1
  generalize c.val = vc at *
  generalize plainC c = tc at *
  clear hs1 cv1 mv1 a0 a1 a2 a3 a4 a5 a6
  refine wp_region_growL (l := [_, _, _, _, _, _, _]) (fun w' => Below W.heap.size W w') Up (modes [one (.pointer (some ⟨w.heap.size + 1, 0, none⟩)), one (.int .i64 d), one (.pointer (some ⟨w.heap.size + 1, 1, none⟩)), one (vc), loose (treeF W.heap.size tc), loose (kidsF W.heap.size [tc] 1), loose (madeF W.heap.size 7 d [tc] 1)]) (by kernel_rfl) rfl (by kernel_rfl) (by kernel_rfl) (up_class _) (below_drew (Below.refl _ _)) ?_
  generalize hops : (#[_, _, _, _, _, _, _, _] : Array Oper) = ops
  clear hops
  refine g_runs (.pointer (some ⟨w.heap.size + 1, 0, none⟩)) grow_end Up.refl rfl (wanted_none rfl) (by intro d hd w; cases hd; exact trivial) (fun w' hw' => ?_) ?_
  · go_simp
  simp only [Act.put, List.setIfInBounds_toArray, List.set_cons_zero, List.set_cons_succ]
  refine g_runs (.int .i64 d) grow_end Up.refl rfl (wanted_none rfl) (by intro d hd w; cases hd; exact trivial) (fun w' hw' => ?_) ?_
  · obtain ⟨y0, y1⟩ := HF.out w' hw'
    go_simp
  simp only [Act.put, List.setIfInBounds_toArray, List.set_cons_zero, List.set_cons_succ]
  refine g_runs (.pointer (some ⟨w.heap.size + 1, 1, none⟩)) grow_end Up.refl rfl (wanted_none rfl) (by intro d hd w; cases hd; exact trivial) (fun w' hw' => ?_) ?_
  · go_simp
  simp only [Act.put, List.setIfInBounds_toArray, List.set_cons_zero, List.set_cons_succ]
  refine g_runs (vc) grow_end Up.refl rfl (wanted_none rfl) (by intro d hd w; cases hd; exact trivial) (fun w' hw' => ?_) ?_
  · obtain ⟨y0, y1⟩ := HF.out w' hw'
    go_simp
  simp only [Act.put, List.setIfInBounds_toArray, List.set_cons_zero, List.set_cons_succ]
  refine g_loose 36 #[vc] (treeF W.heap.size tc) rfl (treeF_stays _ _) (wanted_none rfl) (fun w' hw' => ?_) (fun w' hw' hk => ?_) (fun u72 => ?_)
  · go_simp
  · refine (HI1.out w').mono ?_
    rintro e w3 ⟨ka, kc, rfl, ht, hb⟩
    exact ⟨_, rfl, hb, ka, kc, rfl, ht.low hw'.size⟩
  simp only [Act.put, List.setIfInBounds_toArray, List.set_cons_zero, List.set_cons_succ]
  refine g_makes (kidsF W.heap.size [tc] 1) rfl (kidsF_stays _ _ _) (wanted_none rfl) (fun w' hw' hk => ?_) (fun u73 => ?_)
  · obtain ⟨ka72, kc72, rfl, ht72⟩ : treeF W.heap.size tc u72 w' := hk 72 (looks_at (by simp [Op.operands]))
    refine ⟨.slice (some ⟨w'.heap.size, 0, none⟩) 1 1, w'.alloc (.cells (four tc ka72 kc72) 30), ?_, below_alloc (Below.refl _ _) _, w'.heap.size, rfl, kat_one (ht72.below (below_alloc (Below.refl _ _) _)) hw'.size (blk_new rfl)⟩
    unfold four
    go_simp
  simp only [Act.put, List.setIfInBounds_toArray, List.set_cons_zero, List.set_cons_succ]
  refine g_makes (madeF W.heap.size 7 d [tc] 1) rfl (madeF_stays _ _ _ _ _) (wanted_none rfl) (fun w' hw' hk => ?_) (fun u74 => ?_)
  · obtain ⟨b, rfl, hb⟩ : kidsF W.heap.size [tc] 1 u73 w' := hk 73 (looks_at (by simp [Op.operands]))
    refine ⟨_, w', ?_, Up.refl _, b, rfl, hb⟩
    go_simp
  simp only [Act.put, List.setIfInBounds_toArray, List.set_cons_zero, List.set_cons_succ]
  refine g_nil ?_
  intro w9 hw9 hk9
  obtain ⟨b, rfl, hkat⟩ : madeF W.heap.size 7 d [tc] 1 u74 w9 := hk9 74
  have hz9 := HZ.out.below hw9 HZ.out.lt
  obtain ⟨⟨z0, z1, z2, z3⟩, f0, f1, f2, f3⟩ := blk_zero hz9
  have HZ9 := hidIn hz9
  have HB9 := hidIn hw9
  have HK9 := hidIn hkat
  clear hz9 hw9 hkat hk9
  go_wp2_with fail
  refine bodyPost_ret (results_cell_row rfl _ _ w.heap.size 30 #[.int .i64 7, .string ⟨#[]⟩, .int .i64 d, .slice (some ⟨b, 0, none⟩) 1 1] (0, 0) _ rfl ?blk Tryd.underlying30 rfl infoT) rfl ?post
  case blk => change Blk _ _ _ _; (with_reducible exact blk_set4' HZ9.out _ _ _ _)
  case post =>
    have hbw : Below w.heap.size w w9 := HB.out.trans (HB9.out.mono HB.out.size)
    have hWS := HWS.out
    rw [HPL.out]
    refine ⟨some ⟨b, 0, none⟩, 1, rfl, ⟨some ⟨b, 0, none⟩, 1, rfl, Nat.le_refl _, by omega, HK9.out.kept (by omega) (fun k x v hk hv => ?_)⟩, ?_⟩
    · rw [set4_cell' (by omega)]
      exact hv
    · (repeat first | with_reducible exact hbw | with_reducible refine below_set ?_ (by omega) _ _)
set_option maxHeartbeats 4000000 in
set_option maxRecDepth 100000 in
theorem plainC_iff (n : O) (l r : C) (q1 : One' n.val) (q2 : One' l.val) (q3 : One' r.val) (ih1 : MakesO n) (ih2 : MakesC l) (ih3 : MakesC r) : MakesC (.iff n l r) := by
  intro w
  have a0 := fun v xT w => notZero 77 v xT w (by decide)
  have a1 := fun v xT w => notOne 77 v xT w (by decide)
  have a2 := fun v xT w => notGive 77 v xT w (by decide)
  have a3 := fun v xT w => notAnd 77 v xT w (by decide)
  have a4 := fun v xT w => notOr 77 v xT w (by decide)
  have a5 := fun v xT w => notScale 77 v xT w (by decide)
  have a6 := fun v xT w => notWhen 77 v xT w (by decide)
  have a7 := fun v xT w => isIf v xT w
  have hs1 := q1.store
  have cv1 := q1.cells
  have mv1 := q1.cells
  unfold Value.cells at mv1
  have hs2 := q2.store
  have cv2 := q2.cells
  have mv2 := q2.cells
  unfold Value.cells at mv2
  have hs3 := q3.store
  have cv3 := q3.cells
  have mv3 := q3.cells
  unfold Value.cells at mv3
  unfold C.val
  clear q1 q2 q3
  go_enter Tryd.func36, Tryd.ntmps36
  go_wp2_with fail
  obtain ⟨W, hW⟩ : ∃ W, W = (w.alloc (.cells #[.int .i64 0, .string ⟨#[]⟩, .int .i64 0, .slice none 0 0] 30)).alloc (.cells #[n.val, l.val, r.val] 77) := ⟨_, rfl⟩
  have HB : Hid (Below w.heap.size w W) := by rw [hW]; exact below_alloc (below_alloc (Below.refl _ _) _) _
  have HZ : Hid (Blk W w.heap.size 30 zeroT) := by rw [hW]; exact blk_keep (blk_new rfl) _
  have HX : Hid (Blk W (w.heap.size + 1) 77 #[n.val, l.val, r.val]) := by rw [hW]; exact blk_new (by simp)
  have HWS : Hid (W.heap.size = w.heap.size + 2) := by unfold Hid; rw [hW]; simp
  rw [← hW]
  clear hW
  have HI1 : Hid (∀ w, Calls Tryd.prog 37 #[n.val] w (TreePost w (plain n))) := ih1
  have HI2 : Hid (∀ w, Calls Tryd.prog 36 #[l.val] w (TreePost w (plainC l))) := ih2
  have HI3 : Hid (∀ w, Calls Tryd.prog 36 #[r.val] w (TreePost w (plainC r))) := ih3
  have HPL : Hid (plainC (.iff n l r) = .mk 8 ⟨#[]⟩ 0 [plain n, plainC l, plainC r]) := rfl
  have HF : Hid (∀ w', Below W.heap.size W w' → w'.cell? ⟨w.heap.size + 1, 0, none⟩ = some n.val ∧ w'.cell? ⟨w.heap.size + 1, 1, none⟩ = some l.val ∧ w'.cell? ⟨w.heap.size + 1, 2, none⟩ = some r.val) := fun w' hw' => ⟨(HX.out.below hw' HX.out.lt).cell 0, (HX.out.below hw' HX.out.lt).cell 1, (HX.out.below hw' HX.out.lt).cell 2⟩
  clear ih1 ih2 ih3
  generalize n.val = vn at *
  generalize l.val = vl at *
  generalize r.val = vr at *
  generalize plain n = tn at *
  generalize plainC l = tl at *
  generalize plainC r = tr at *
  clear hs1 cv1 mv1 hs2 cv2 mv2 hs3 cv3 mv3 a0 a1 a2 a3 a4 a5 a6 a7
  refine wp_region_growL (l := [_, _, _, _, _, _, _, _, _, _, _]) (fun w' => Below W.heap.size W w') Up (modes [one (.pointer (some ⟨w.heap.size + 1, 0, none⟩)), one (vn), loose (treeF W.heap.size tn), one (.pointer (some ⟨w.heap.size + 1, 1, none⟩)), one (vl), loose (treeF W.heap.size tl), one (.pointer (some ⟨w.heap.size + 1, 2, none⟩)), one (vr), loose (treeF W.heap.size tr), loose (kidsF W.heap.size [tn, tl, tr] 3), loose (madeF W.heap.size 8 0 [tn, tl, tr] 3)]) (by kernel_rfl) rfl (by kernel_rfl) (by kernel_rfl) (up_class _) (below_drew (Below.refl _ _)) ?_
  generalize hops : (#[_, _, _, _, _, _, _, _, _, _, _, _] : Array Oper) = ops
  clear hops
  refine g_runs (.pointer (some ⟨w.heap.size + 1, 0, none⟩)) grow_end Up.refl rfl (wanted_none rfl) (by intro d hd w; cases hd; exact trivial) (fun w' hw' => ?_) ?_
  · go_simp
  simp only [Act.put, List.setIfInBounds_toArray, List.set_cons_zero, List.set_cons_succ]
  refine g_runs (vn) grow_end Up.refl rfl (wanted_none rfl) (by intro d hd w; cases hd; exact trivial) (fun w' hw' => ?_) ?_
  · obtain ⟨y0, y1, y2⟩ := HF.out w' hw'
    go_simp
  simp only [Act.put, List.setIfInBounds_toArray, List.set_cons_zero, List.set_cons_succ]
  refine g_loose 37 #[vn] (treeF W.heap.size tn) rfl (treeF_stays _ _) (wanted_none rfl) (fun w' hw' => ?_) (fun w' hw' hk => ?_) (fun u80 => ?_)
  · go_simp
  · refine (HI1.out w').mono ?_
    rintro e w3 ⟨ka, kc, rfl, ht, hb⟩
    exact ⟨_, rfl, hb, ka, kc, rfl, ht.low hw'.size⟩
  simp only [Act.put, List.setIfInBounds_toArray, List.set_cons_zero, List.set_cons_succ]
  refine g_runs (.pointer (some ⟨w.heap.size + 1, 1, none⟩)) grow_end Up.refl rfl (wanted_none rfl) (by intro d hd w; cases hd; exact trivial) (fun w' hw' => ?_) ?_
  · go_simp
  simp only [Act.put, List.setIfInBounds_toArray, List.set_cons_zero, List.set_cons_succ]
  refine g_runs (vl) grow_end Up.refl rfl (wanted_none rfl) (by intro d hd w; cases hd; exact trivial) (fun w' hw' => ?_) ?_
  · obtain ⟨y0, y1, y2⟩ := HF.out w' hw'
    go_simp
  simp only [Act.put, List.setIfInBounds_toArray, List.set_cons_zero, List.set_cons_succ]
  refine g_loose 36 #[vl] (treeF W.heap.size tl) rfl (treeF_stays _ _) (wanted_none rfl) (fun w' hw' => ?_) (fun w' hw' hk => ?_) (fun u83 => ?_)
  · go_simp
  · refine (HI2.out w').mono ?_
    rintro e w3 ⟨ka, kc, rfl, ht, hb⟩
    exact ⟨_, rfl, hb, ka, kc, rfl, ht.low hw'.size⟩
  simp only [Act.put, List.setIfInBounds_toArray, List.set_cons_zero, List.set_cons_succ]
  refine g_runs (.pointer (some ⟨w.heap.size + 1, 2, none⟩)) grow_end Up.refl rfl (wanted_none rfl) (by intro d hd w; cases hd; exact trivial) (fun w' hw' => ?_) ?_
  · go_simp
  simp only [Act.put, List.setIfInBounds_toArray, List.set_cons_zero, List.set_cons_succ]
  refine g_runs (vr) grow_end Up.refl rfl (wanted_none rfl) (by intro d hd w; cases hd; exact trivial) (fun w' hw' => ?_) ?_
  · obtain ⟨y0, y1, y2⟩ := HF.out w' hw'
    go_simp
  simp only [Act.put, List.setIfInBounds_toArray, List.set_cons_zero, List.set_cons_succ]
  refine g_loose 36 #[vr] (treeF W.heap.size tr) rfl (treeF_stays _ _) (wanted_none rfl) (fun w' hw' => ?_) (fun w' hw' hk => ?_) (fun u86 => ?_)
  · go_simp
  · refine (HI3.out w').mono ?_
    rintro e w3 ⟨ka, kc, rfl, ht, hb⟩
    exact ⟨_, rfl, hb, ka, kc, rfl, ht.low hw'.size⟩
  simp only [Act.put, List.setIfInBounds_toArray, List.set_cons_zero, List.set_cons_succ]
  refine g_makes (kidsF W.heap.size [tn, tl, tr] 3) rfl (kidsF_stays _ _ _) (wanted_none rfl) (fun w' hw' hk => ?_) (fun u87 => ?_)
  · obtain ⟨ka80, kc80, rfl, ht80⟩ : treeF W.heap.size tn u80 w' := hk 80 (looks_at (by simp [Op.operands]))
    obtain ⟨ka83, kc83, rfl, ht83⟩ : treeF W.heap.size tl u83 w' := hk 83 (looks_at (by simp [Op.operands]))
    obtain ⟨ka86, kc86, rfl, ht86⟩ : treeF W.heap.size tr u86 w' := hk 86 (looks_at (by simp [Op.operands]))
    refine ⟨.slice (some ⟨w'.heap.size, 0, none⟩) 3 3, w'.alloc (.cells (twelve tn ka80 kc80 tl ka83 kc83 tr ka86 kc86) 30), ?_, below_alloc (Below.refl _ _) _, w'.heap.size, rfl, kat_three (ht80.below (below_alloc (Below.refl _ _) _)) (ht83.below (below_alloc (Below.refl _ _) _)) (ht86.below (below_alloc (Below.refl _ _) _)) hw'.size (blk_new rfl)⟩
    unfold twelve
    go_simp
  simp only [Act.put, List.setIfInBounds_toArray, List.set_cons_zero, List.set_cons_succ]
  refine g_makes (madeF W.heap.size 8 0 [tn, tl, tr] 3) rfl (madeF_stays _ _ _ _ _) (wanted_none rfl) (fun w' hw' hk => ?_) (fun u88 => ?_)
  · obtain ⟨b, rfl, hb⟩ : kidsF W.heap.size [tn, tl, tr] 3 u87 w' := hk 87 (looks_at (by simp [Op.operands]))
    refine ⟨_, w', ?_, Up.refl _, b, rfl, hb⟩
    go_simp
  simp only [Act.put, List.setIfInBounds_toArray, List.set_cons_zero, List.set_cons_succ]
  refine g_nil ?_
  intro w9 hw9 hk9
  obtain ⟨b, rfl, hkat⟩ : madeF W.heap.size 8 0 [tn, tl, tr] 3 u88 w9 := hk9 88
  have hz9 := HZ.out.below hw9 HZ.out.lt
  obtain ⟨⟨z0, z1, z2, z3⟩, f0, f1, f2, f3⟩ := blk_zero hz9
  have HZ9 := hidIn hz9
  have HB9 := hidIn hw9
  have HK9 := hidIn hkat
  clear hz9 hw9 hkat hk9
  go_wp2_with fail
  refine bodyPost_ret (results_cell_row rfl _ _ w.heap.size 30 #[.int .i64 8, .string ⟨#[]⟩, .int .i64 0, .slice (some ⟨b, 0, none⟩) 3 3] (0, 0) _ rfl ?blk Tryd.underlying30 rfl infoT) rfl ?post
  case blk => change Blk _ _ _ _; (with_reducible exact blk_set4' HZ9.out _ _ _ _)
  case post =>
    have hbw : Below w.heap.size w w9 := HB.out.trans (HB9.out.mono HB.out.size)
    have hWS := HWS.out
    rw [HPL.out]
    refine ⟨some ⟨b, 0, none⟩, 3, rfl, ⟨some ⟨b, 0, none⟩, 3, rfl, Nat.le_refl _, by omega, HK9.out.kept (by omega) (fun k x v hk hv => ?_)⟩, ?_⟩
    · rw [set4_cell' (by omega)]
      exact hv
    · (repeat first | with_reducible exact hbw | with_reducible refine below_set ?_ (by omega) _ _)

end Go.Proofs.YtagjbbdpenbcoaaDoor
namespace Go.Proofs.YtagjbbdpenbcoaaDoor
open Go.RowKit
set_option linter.unusedVariables false

theorem plainCC_any (c : C) (h : c.Ok) : MakesC c := by
  induction c with
  | zero => exact plainC_zero
  | one s => exact plainC_one s
  | odd v => exact plainC_odd v h
  | give c ih => exact plainC_give c (c.one' h) (ih h)
  | and l r ihl ihr => exact plainC_and l r (l.one' h.1) (r.one' h.2) (ihl h.1) (ihr h.2)
  | or s l r ihl ihr => exact plainC_or s l r (l.one' h.2.1) (r.one' h.2.2) (ihl h.2.1) (ihr h.2.2)
  | scale o c ih => exact plainC_scale o c (o.one' h.1) (c.one' h.2) (plainO_any o h.1) (ih h.2)
  | when d c ih => exact plainC_when d c (c.one' h.2) (ih h.2)
  | iff o l r ihl ihr => exact plainC_iff o l r (o.one' h.1) (l.one' h.2.1) (r.one' h.2.2) (plainO_any o h.1) (ihl h.2.1) (ihr h.2.2)

end Go.Proofs.YtagjbbdpenbcoaaDoor
namespace Go.Proofs.YtagjbbdpenbcoaaDoor
open Go.RowKit
set_option linter.unusedVariables false

def OddPost (w : World) (e : Ending) (w' : World) : Prop := ∃ o : O, e = .returned o.val ∧ o.Ok ∧ (o = .const 1 ∨ ∃ v, o = .odd v) ∧ Below w.heap.size w w'
theorem strange_of (t : TypeId) (x : Value) (h0 : t ≠ 58) (h1 : t ≠ 56) (h2 : t ≠ 74) (h3 : t ≠ 60) (h4 : t ≠ 62) (h5 : t ≠ 75) : (O.odd (.iface t x)).Ok := .inr ⟨t, x, rfl, h0, h1, h2, h3, h4, h5⟩

set_option maxHeartbeats 2000000 in
set_option maxRecDepth 100000 in
theorem odd_any (n : Int) (w : World) (h1 : -9223372036854775808 ≤ n) (h2 : n ≤ 9223372036854775807) : Calls Tryd.prog 35 #[.int .i64 n] w (OddPost w) := by
  obtain ⟨q, hq⟩ : ∃ q : Nat, n % 9 = q := ⟨(n % 9).toNat, by omega⟩
  have hq9 : q = 0 ∨ q = 1 ∨ q = 2 ∨ q = 3 ∨ q = 4 ∨ q = 5 ∨ q = 6 ∨ q = 7 ∨ q = 8 := by omega
  have hmm := @run_makeMap Tryd.prog
  go_enter Tryd.func35, Tryd.ntmps35
  go_wp2_with fail
  refine calls_same (within_any _ 9 _ (by omega) (by omega) h1 h2) ?_
  rw [hq]
  clear h1 h2 hq
  rcases hq9 with rfl | rfl | rfl | rfl | rfl | rfl | rfl | rfl | rfl
  all_goals
    go_wp2_with fail
    go_ret
    first
      | exact ⟨.odd .nilIface, rfl, .inl rfl, .inr ⟨_, rfl⟩, by repeat first | exact Below.refl _ _ | refine below_alloc ?_ _⟩
      | exact ⟨.const 1, rfl, by simp [O.Ok], .inl rfl, by repeat first | exact Below.refl _ _ | refine below_alloc ?_ _⟩
      | exact ⟨.odd (.iface _ _), rfl, strange_of _ _ (by decide) (by decide) (by decide) (by decide) (by decide) (by decide), .inr ⟨_, rfl⟩, by repeat first | exact Below.refl _ _ | refine below_alloc ?_ _⟩

end Go.Proofs.YtagjbbdpenbcoaaDoor
namespace Go.Proofs.YtagjbbdpenbcoaaDoor
open Go.RowKit
set_option linter.unusedVariables false

def SomePost (w : World) (e : Ending) (w' : World) : Prop :=
  ∃ (o : O) (ka : Option Addr) (kc : Nat), e = .returned (.tuple #[o.val, .agg #[.int .i64 (plain o).kind, .string (plain o).s, .int .i64 (plain o).n, .slice ka (plain o).k.length kc]]) ∧ o.Ok ∧ o.nodes ≤ 1000 ∧ TIn w' w.heap.size (plain o) (.agg (four (plain o) ka kc)) ∧ Below w.heap.size w w'
theorem tdiv_in (a b : Int) (hb : 2 ≤ b) (h1 : -9223372036854775808 ≤ a) (h2 : a ≤ 9223372036854775807) : -9223372036854775808 ≤ a.tdiv b ∧ a.tdiv b ≤ 9223372036854775807 := by
  by_cases h : 0 ≤ a
  · have h3 := Int.tdiv_nonneg h (by omega : 0 ≤ b)
    have h4 : a.tdiv b ≤ a := Int.tdiv_le_self b h
    omega
  · have h3 := Int.tdiv_nonneg (by omega : 0 ≤ -a) (by omega : 0 ≤ b)
    have h4 : (-a).tdiv b ≤ -a := Int.tdiv_le_self b (by omega)
    rw [Int.neg_tdiv] at h3 h4
    omega
/-- A slot, and a struct's cell, as results. -/
theorem results_slot_cell {P : Program} {fn : Func} {p q : Tmp} {ty : TypeId} (h : fn.results = #[.tmp q, .cell p ty]) (tmps : Array Value) (w : World) (g : Nat) (t : TypeId) (cs : Array Value) (fr : Nat × Nat) (d : TypeDesc)
    (hp : tmps.getD p undef = .pointer (some ⟨g, 0, none⟩)) (hg : w.heap[g]? = some (.cells cs t fr))
    (hu : P.underlying ty = some d) (hd : (match d with | .struct _ | .array _ _ => true | _ => false) = true) (hi : (P.info? ty).map (·.size) = some cs.size) :
    (results fn tmps).run P w = .ok (.tuple #[tmps.getD q undef, .agg cs]) w := by
  have hp' : tmps[p]?.getD undef = .pointer (some ⟨g, 0, none⟩) := by simpa using hp
  simp [results, h, hp', asAddr, run_loadVar_row w g t ty cs fr d hg hu hd hi]

set_option maxHeartbeats 4000000 in
set_option maxRecDepth 100000 in
theorem some4_any (p : Pl) (at' what v : Int) (s : ByteArray) (odd : Int) (w : World) (hp : PlanIn w p) (ha1 : -9223372036854775808 ≤ at') (ha2 : at' ≤ 9223372036854775807) (hw1 : -9223372036854775808 ≤ what) (hw2 : what ≤ 9223372036854775807) (hv1 : -9223372036854775808 ≤ v) (hv2 : v ≤ 9223372036854775807) (hs : s.size ≤ maxLen) (ho1 : -9223372036854775808 ≤ odd) (ho2 : odd ≤ 9223372036854775807) :
    Calls Tryd.prog 19 #[planV p, .int .i64 at', .int .i64 what, .int .i64 v, .string s, .int .i64 odd] w (SomePost w) := by
  unfold planV
  have HP := hidIn hp
  have HSS := hidIn hs
  clear hp hs
  go_enter Tryd.func19, Tryd.ntmps19
  go_wp2_with fail
  obtain ⟨W, hW⟩ : ∃ W, W = (w.alloc (.cells #[.slice p.na p.nl p.nc, .slice p.wa p.wl p.wc] 25)).alloc (.cells #[.int .i64 0, .string ⟨#[]⟩, .int .i64 0, .slice none 0 0] 30) := ⟨_, rfl⟩
  have HB : Hid (Below w.heap.size w W) := by rw [hW]; exact below_alloc (below_alloc (Below.refl _ _) _) _
  have HZ : Hid (Blk W (w.heap.size + 1) 30 zeroT) := by rw [hW]; exact blk_new (by simp)
  have HWS : Hid (W.heap.size = w.heap.size + 2) := by unfold Hid; rw [hW]; simp
  have HPW := hidIn (HP.out.below HB.out)
  rw [← hW]
  clear hW HP
  refine (number_any p W HPW.out).mono ?_
  rintro e w1 ⟨v1, rfl, ht1, hb1⟩
  have ht1' := ht1
  obtain ⟨ka, kc, rfl, _, _, _⟩ := ht1'
  have HSH := hidIn (shaped_plain _ (whole_ok _ (numP_whole p)))
  have HCN : Hid ((plain (numP p)).cnt ≤ 70) := by have h1 := plain_cnt (numP p); have h2 := numP_nodes p; show _ ≤ _; omega
  have HND : Hid (1 ≤ (plain (numP p)).nodes ∧ (plain (numP p)).nodes ≤ 31) := by
    rw [plain_nodes]
    have h2 := numP_nodes p
    refine ⟨?_, h2⟩
    have := numP_whole p
    cases h : numP p <;> simp [O.nodes]
    rw [h] at this
    exact this
  have HT1 := hidIn ht1
  have HB1 := hidIn hb1
  clear ht1 hb1
  generalize plain (numP p) = t at *
  by_cases hwt : what.tmod 4 = 0
  · have hwt' : (what.tmod 4 == 0) = true := by rw [hwt]; rfl
    have hdq : -9223372036854775808 ≤ what.tdiv 4 ∧ what.tdiv 4 ≤ 9223372036854775807 := tdiv_in what 4 (by omega) hw1 hw2
    have hwq : IntKind.i64.wrap (what.tdiv 4) = what.tdiv 4 := wrap_small _ hdq.1 hdq.2
    go_wp2_with fail
    obtain ⟨Y, hY⟩ : ∃ Y, Y = w1.alloc (.cells #[.int .i64 t.kind, .string t.s, .int .i64 t.n, .slice ka t.k.length kc] 30) := ⟨_, rfl⟩
    have HBY1 : Hid (Below w1.heap.size w1 Y) := by rw [hY]; exact below_alloc (Below.refl _ _) _
    have HYS : Hid (Y.heap.size = w1.heap.size + 1) := by unfold Hid; rw [hY]; simp
    have HY14 : Hid (Blk Y w1.heap.size 30 #[.int .i64 t.kind, .string t.s, .int .i64 t.n, .slice ka t.k.length kc]) := by rw [hY]; exact blk_new rfl
    rw [← hY]
    clear hY
    refine (spoilt_any t at' _ v s ha1 ha2 hdq.1 hdq.2 HSS.out (by have := HCN.out; omega) HND.out.1 (by have := HND.out.2; omega) w1 Y _ (HT1.out.low (Nat.zero_le _)) HBY1.out).mono ?_
    rintro e w2 ⟨a, kb, kd, rfl, hsp, hb2⟩
    have HSH2 := hidIn (spoil_shaped (what.tdiv 4 % 5).toNat v s ⟨hv1, hv2⟩ t HSH.out a)
    have HCN2 : Hid ((spoilT (what.tdiv 4 % 5).toNat v s t a).1.cnt ≤ 70) := Nat.le_trans (spoil_cnt _ v s t a) HCN.out
    generalize (spoilT (what.tdiv 4 % 5).toNat v s t a).1 = t2 at *
    have hk2 := HY14.out.below hb2 HY14.out.lt
    obtain ⟨c0, c1, c2, c3⟩ : w2.cell? ⟨w1.heap.size, 0, none⟩ = some (.int .i64 t.kind) ∧ w2.cell? ⟨w1.heap.size, 1, none⟩ = some (.string t.s) ∧ w2.cell? ⟨w1.heap.size, 2, none⟩ = some (.int .i64 t.n) ∧ w2.cell? ⟨w1.heap.size, 3, none⟩ = some (.slice ka t.k.length kc) := ⟨hk2.cell 0, hk2.cell 1, hk2.cell 2, hk2.cell 3⟩
    have f0 := hk2.frozen 0
    have f1 := hk2.frozen 1
    have f2 := hk2.frozen 2
    have f3 := hk2.frozen 3
    have HTX : Hid (TIn ((((w2.setCell ⟨w1.heap.size, 0, none⟩ (.int .i64 t2.kind)).setCell ⟨w1.heap.size, 1, none⟩ (.string t2.s)).setCell ⟨w1.heap.size, 2, none⟩ (.int .i64 t2.n)).setCell ⟨w1.heap.size, 3, none⟩ (.slice kb t2.k.length kd)) 0 t2 (.agg (four t2 kb kd))) := hsp _ (fun b o c hb hc => by have := HYS.out; rw [set4_cell' (by omega)]; exact hc)
    have HBX : Hid (Below W.heap.size W ((((w2.setCell ⟨w1.heap.size, 0, none⟩ (.int .i64 t2.kind)).setCell ⟨w1.heap.size, 1, none⟩ (.string t2.s)).setCell ⟨w1.heap.size, 2, none⟩ (.int .i64 t2.n)).setCell ⟨w1.heap.size, 3, none⟩ (.slice kb t2.k.length kd))) := by
      have h1 : Below W.heap.size W w2 := HB1.out.trans ((HBY1.out.trans (hb2.mono HBY1.out.size)).mono HB1.out.size)
      have hs := HB1.out.size
      exact (((h1.setCell hs _).setCell hs _).setCell hs _).setCell hs _
    clear hsp hb2 hk2
    unfold four
    go_wp2_with fail
    refine (obsT_any t2 HSH2.out _ _ HTX.out).mono ?_
    rintro e w3 ⟨rfl, hb3⟩
    have HB3 : Hid (Below W.heap.size W w3) := HBX.out.trans (hb3.mono HBX.out.size)
    have HO0 := hidIn (obsOf_ok t2 HSH2.out)
    have HN0 : Hid ((obsOf t2).nodes ≤ 70) := by have h1 := obsOf_nodes t2; have h2 := HCN2.out; show _ ≤ _; omega
    clear hb3
    generalize obsOf t2 = o0 at *
    by_cases hodd : odd.tmod 9 = 8
    · have hodd' : (odd.tmod 9 == 8) = true := by rw [hodd]; rfl
      have hdv : -9223372036854775808 ≤ odd.tdiv 9 ∧ odd.tdiv 9 ≤ 9223372036854775807 := tdiv_in odd 9 (by omega) ho1 ho2
      have hwr : IntKind.i64.wrap (odd.tdiv 9) = odd.tdiv 9 := wrap_small _ hdv.1 hdv.2
      have q0 := o0.one' HO0.out
      have cv0 := q0.cells
      have mv0 := q0.cells
      unfold Value.cells at mv0
      go_wp2_with fail
      refine (odd_any _ w3 hdv.1 hdv.2).mono ?_
      rintro e w5 ⟨o5, rfl, hok5, h51, hb5⟩
      obtain ⟨o, ho⟩ : ∃ o, o = O.add o0 o5 := ⟨_, rfl⟩
      have HOK : Hid o.Ok := by rw [ho]; exact ⟨HO0.out, hok5⟩
      have HON : Hid (o.nodes ≤ 1000) := by
        rw [ho]
        have h1 := HN0.out
        rcases h51 with rfl | ⟨v, rfl⟩
        · simp only [O.nodes]; show _ ≤ _; omega
        · simp only [O.nodes]; show _ ≤ _; omega
      have HOV : Hid (o.val = .iface 74 (.agg #[o0.val, o5.val])) := by rw [ho]; rfl
      have HB3' : Hid (Below W.heap.size W w5) := HB3.out.trans (hb5.mono HB3.out.size)
      clear HB3
      have HB3 := HB3'
      have q5 := o5.one' hok5
      have cv5 := q5.cells
      have mv5 := q5.cells
      unfold Value.cells at mv5
      clear hb5 hok5 h51 ho q5 q0
      go_wp2_with fail
      rw [← HOV.out]
      refine (plainO_any o HOK.out _).mono ?_
      rintro e w4 ⟨la, lc, rfl, ht4, hb4⟩
      have HT4 := hidIn ht4
      have hb4' : Below W.heap.size W w4 := HB3.out.trans (hb4.mono HB3.out.size)
      have hZ4 := HZ.out.below hb4' HZ.out.lt
      obtain ⟨⟨z0, z1, z2, z3⟩, f0, f1, f2, f3⟩ := blk_zero hZ4
      have HZ4 := hidIn hZ4
      have HB4 := hidIn hb4'
      have HS3 := hidIn HB3.out.size
      clear ht4 hb4 hb4' hZ4
      go_wp2_with fail
      refine bodyPost_ret (results_slot_cell rfl _ _ (w.heap.size + 1) 30 (four (plain o) la lc) (0, 0) _ rfl ?blk Tryd.underlying30 rfl infoT) rfl ?post
      case blk => change Blk _ _ _ _; unfold four; (with_reducible exact blk_set4' HZ4.out _ _ _ _)
      case post =>
        have hWS := HWS.out
        have hs3 := HS3.out
        have hbw : Below w.heap.size w w4 := HB.out.trans (HB4.out.mono HB.out.size)
        refine ⟨o, la, lc, rfl, HOK.out, HON.out, ?_, ?_⟩
        · refine HT4.out.kept (by omega) (fun k x c hk hc => ?_)
          rw [set4_cell' (by omega)]
          exact hc
        · (repeat first | with_reducible exact hbw | with_reducible refine below_set ?_ (by omega) _ _)
    · have hodd' : (odd.tmod 9 == 8) = false := by rw [beq_eq_false_iff_ne]; exact hodd
      obtain ⟨o, ho⟩ : ∃ o, o = o0 := ⟨_, rfl⟩
      subst ho
      have HOK := HO0
      have HON : Hid (o.nodes ≤ 1000) := by have h1 := HN0.out; show _ ≤ _; omega
      go_wp2_with fail
      refine (plainO_any o HOK.out _).mono ?_
      rintro e w4 ⟨la, lc, rfl, ht4, hb4⟩
      have HT4 := hidIn ht4
      have hb4' : Below W.heap.size W w4 := HB3.out.trans (hb4.mono HB3.out.size)
      have hZ4 := HZ.out.below hb4' HZ.out.lt
      obtain ⟨⟨z0, z1, z2, z3⟩, f0, f1, f2, f3⟩ := blk_zero hZ4
      have HZ4 := hidIn hZ4
      have HB4 := hidIn hb4'
      have HS3 := hidIn HB3.out.size
      clear ht4 hb4 hb4' hZ4
      go_wp2_with fail
      refine bodyPost_ret (results_slot_cell rfl _ _ (w.heap.size + 1) 30 (four (plain o) la lc) (0, 0) _ rfl ?blk Tryd.underlying30 rfl infoT) rfl ?post
      case blk => change Blk _ _ _ _; unfold four; (with_reducible exact blk_set4' HZ4.out _ _ _ _)
      case post =>
        have hWS := HWS.out
        have hs3 := HS3.out
        have hbw : Below w.heap.size w w4 := HB.out.trans (HB4.out.mono HB.out.size)
        refine ⟨o, la, lc, rfl, HOK.out, HON.out, ?_, ?_⟩
        · refine HT4.out.kept (by omega) (fun k x c hk hc => ?_)
          rw [set4_cell' (by omega)]
          exact hc
        · (repeat first | with_reducible exact hbw | with_reducible refine below_set ?_ (by omega) _ _)
  · have hwt' : (what.tmod 4 == 0) = false := by rw [beq_eq_false_iff_ne]; exact hwt
    go_wp2_with fail
    have HSH2 := HSH
    have HCN2 := HCN
    have HTX : Hid (TIn (w1.alloc (.cells #[.int .i64 t.kind, .string t.s, .int .i64 t.n, .slice ka t.k.length kc] 30)) 0 t (.agg (four t ka kc))) := (HT1.out.below (below_alloc (Below.refl _ _) _)).low (Nat.zero_le _)
    have HBX : Hid (Below W.heap.size W (w1.alloc (.cells #[.int .i64 t.kind, .string t.s, .int .i64 t.n, .slice ka t.k.length kc] 30))) := below_alloc HB1.out _
    refine (obsT_any t HSH2.out _ _ HTX.out).mono ?_
    rintro e w3 ⟨rfl, hb3⟩
    have HB3 : Hid (Below W.heap.size W w3) := HBX.out.trans (hb3.mono HBX.out.size)
    have HO0 := hidIn (obsOf_ok t HSH2.out)
    have HN0 : Hid ((obsOf t).nodes ≤ 70) := by have h1 := obsOf_nodes t; have h2 := HCN2.out; show _ ≤ _; omega
    clear hb3
    generalize obsOf t = o0 at *
    by_cases hodd : odd.tmod 9 = 8
    · have hodd' : (odd.tmod 9 == 8) = true := by rw [hodd]; rfl
      have hdv : -9223372036854775808 ≤ odd.tdiv 9 ∧ odd.tdiv 9 ≤ 9223372036854775807 := tdiv_in odd 9 (by omega) ho1 ho2
      have hwr : IntKind.i64.wrap (odd.tdiv 9) = odd.tdiv 9 := wrap_small _ hdv.1 hdv.2
      have q0 := o0.one' HO0.out
      have cv0 := q0.cells
      have mv0 := q0.cells
      unfold Value.cells at mv0
      go_wp2_with fail
      refine (odd_any _ w3 hdv.1 hdv.2).mono ?_
      rintro e w5 ⟨o5, rfl, hok5, h51, hb5⟩
      obtain ⟨o, ho⟩ : ∃ o, o = O.add o0 o5 := ⟨_, rfl⟩
      have HOK : Hid o.Ok := by rw [ho]; exact ⟨HO0.out, hok5⟩
      have HON : Hid (o.nodes ≤ 1000) := by
        rw [ho]
        have h1 := HN0.out
        rcases h51 with rfl | ⟨v, rfl⟩
        · simp only [O.nodes]; show _ ≤ _; omega
        · simp only [O.nodes]; show _ ≤ _; omega
      have HOV : Hid (o.val = .iface 74 (.agg #[o0.val, o5.val])) := by rw [ho]; rfl
      have HB3' : Hid (Below W.heap.size W w5) := HB3.out.trans (hb5.mono HB3.out.size)
      clear HB3
      have HB3 := HB3'
      have q5 := o5.one' hok5
      have cv5 := q5.cells
      have mv5 := q5.cells
      unfold Value.cells at mv5
      clear hb5 hok5 h51 ho q5 q0
      go_wp2_with fail
      rw [← HOV.out]
      refine (plainO_any o HOK.out _).mono ?_
      rintro e w4 ⟨la, lc, rfl, ht4, hb4⟩
      have HT4 := hidIn ht4
      have hb4' : Below W.heap.size W w4 := HB3.out.trans (hb4.mono HB3.out.size)
      have hZ4 := HZ.out.below hb4' HZ.out.lt
      obtain ⟨⟨z0, z1, z2, z3⟩, f0, f1, f2, f3⟩ := blk_zero hZ4
      have HZ4 := hidIn hZ4
      have HB4 := hidIn hb4'
      have HS3 := hidIn HB3.out.size
      clear ht4 hb4 hb4' hZ4
      go_wp2_with fail
      refine bodyPost_ret (results_slot_cell rfl _ _ (w.heap.size + 1) 30 (four (plain o) la lc) (0, 0) _ rfl ?blk Tryd.underlying30 rfl infoT) rfl ?post
      case blk => change Blk _ _ _ _; unfold four; (with_reducible exact blk_set4' HZ4.out _ _ _ _)
      case post =>
        have hWS := HWS.out
        have hs3 := HS3.out
        have hbw : Below w.heap.size w w4 := HB.out.trans (HB4.out.mono HB.out.size)
        refine ⟨o, la, lc, rfl, HOK.out, HON.out, ?_, ?_⟩
        · refine HT4.out.kept (by omega) (fun k x c hk hc => ?_)
          rw [set4_cell' (by omega)]
          exact hc
        · (repeat first | with_reducible exact hbw | with_reducible refine below_set ?_ (by omega) _ _)
    · have hodd' : (odd.tmod 9 == 8) = false := by rw [beq_eq_false_iff_ne]; exact hodd
      obtain ⟨o, ho⟩ : ∃ o, o = o0 := ⟨_, rfl⟩
      subst ho
      have HOK := HO0
      have HON : Hid (o.nodes ≤ 1000) := by have h1 := HN0.out; show _ ≤ _; omega
      go_wp2_with fail
      refine (plainO_any o HOK.out _).mono ?_
      rintro e w4 ⟨la, lc, rfl, ht4, hb4⟩
      have HT4 := hidIn ht4
      have hb4' : Below W.heap.size W w4 := HB3.out.trans (hb4.mono HB3.out.size)
      have hZ4 := HZ.out.below hb4' HZ.out.lt
      obtain ⟨⟨z0, z1, z2, z3⟩, f0, f1, f2, f3⟩ := blk_zero hZ4
      have HZ4 := hidIn hZ4
      have HB4 := hidIn hb4'
      have HS3 := hidIn HB3.out.size
      clear ht4 hb4 hb4' hZ4
      go_wp2_with fail
      refine bodyPost_ret (results_slot_cell rfl _ _ (w.heap.size + 1) 30 (four (plain o) la lc) (0, 0) _ rfl ?blk Tryd.underlying30 rfl infoT) rfl ?post
      case blk => change Blk _ _ _ _; unfold four; (with_reducible exact blk_set4' HZ4.out _ _ _ _)
      case post =>
        have hWS := HWS.out
        have hs3 := HS3.out
        have hbw : Below w.heap.size w w4 := HB.out.trans (HB4.out.mono HB.out.size)
        refine ⟨o, la, lc, rfl, HOK.out, HON.out, ?_, ?_⟩
        · refine HT4.out.kept (by omega) (fun k x c hk hc => ?_)
          rw [set4_cell' (by omega)]
          exact hc
        · (repeat first | with_reducible exact hbw | with_reducible refine below_set ?_ (by omega) _ _)

end Go.Proofs.YtagjbbdpenbcoaaDoor
namespace Go.Proofs.YtagjbbdpenbcoaaDoor
open Go.RowKit
set_option linter.unusedVariables false

def SomePostC (w : World) (e : Ending) (w' : World) : Prop :=
  ∃ (c : C) (ka : Option Addr) (kc : Nat), e = .returned (.tuple #[c.val, .agg #[.int .i64 (plainC c).kind, .string (plainC c).s, .int .i64 (plainC c).n, .slice ka (plainC c).k.length kc]]) ∧ c.Ok ∧ c.weight ≤ 10000 ∧ TIn w' w.heap.size (plainC c) (.agg (four (plainC c) ka kc)) ∧ Below w.heap.size w w'

set_option maxHeartbeats 4000000 in
set_option maxRecDepth 100000 in
theorem some5_any (p : Pl) (at' what v : Int) (s : ByteArray) (odd : Int) (w : World) (hp : PlanIn w p) (ha1 : -9223372036854775808 ≤ at') (ha2 : at' ≤ 9223372036854775807) (hw1 : -9223372036854775808 ≤ what) (hw2 : what ≤ 9223372036854775807) (hv1 : -9223372036854775808 ≤ v) (hv2 : v ≤ 9223372036854775807) (hs : s.size ≤ maxLen) (ho1 : -9223372036854775808 ≤ odd) (ho2 : odd ≤ 9223372036854775807) :
    Calls Tryd.prog 18 #[planV p, .int .i64 at', .int .i64 what, .int .i64 v, .string s, .int .i64 odd] w (SomePostC w) := by
  unfold planV
  have HP := hidIn hp
  have HSS := hidIn hs
  clear hp hs
  go_enter Tryd.func18, Tryd.ntmps18
  go_wp2_with fail
  obtain ⟨W, hW⟩ : ∃ W, W = (w.alloc (.cells #[.slice p.na p.nl p.nc, .slice p.wa p.wl p.wc] 25)).alloc (.cells #[.int .i64 0, .string ⟨#[]⟩, .int .i64 0, .slice none 0 0] 30) := ⟨_, rfl⟩
  have HB : Hid (Below w.heap.size w W) := by rw [hW]; exact below_alloc (below_alloc (Below.refl _ _) _) _
  have HZ : Hid (Blk W (w.heap.size + 1) 30 zeroT) := by rw [hW]; exact blk_new (by simp)
  have HWS : Hid (W.heap.size = w.heap.size + 2) := by unfold Hid; rw [hW]; simp
  have HPW := hidIn (HP.out.below HB.out)
  rw [← hW]
  clear hW HP
  refine (contract_any p W HPW.out).mono ?_
  rintro e w1 ⟨v1, rfl, ht1, hb1⟩
  have ht1' := ht1
  obtain ⟨ka, kc, rfl, _, _, _⟩ := ht1'
  have HSH := hidIn (sc_plain _ (cwhole_ok _ (conP_whole p)))
  have HCN : Hid ((plainC (conP p)).cnt ≤ 2000) := by have h1 := plainC_cnt (conP p); have h2 := conP_weight p; show _ ≤ _; omega
  have HND : Hid (1 ≤ (plainC (conP p)).nodes ∧ (plainC (conP p)).nodes ≤ 2000) := by
    rw [plainC_nodes]
    have h2 := conP_weight p
    have h3 := weight_nodes (conP p)
    refine ⟨?_, by omega⟩
    have := conP_whole p
    cases h : conP p <;> simp [C.nodes]
    rw [h] at this
    exact this
  have HT1 := hidIn ht1
  have HB1 := hidIn hb1
  clear ht1 hb1
  generalize plainC (conP p) = t at *
  have hwi : ∀ w, Calls Tryd.prog 16 #[.int .i64 odd, .int .i64 30] w fun e w' => e = .returned (.int .i64 (odd % 30)) ∧ w' = w := fun w => within_any odd 30 w (by omega) (by omega) ho1 ho2
  have HWI := hidIn hwi
  clear hwi
  have hdv : -9223372036854775808 ≤ odd.tdiv 30 ∧ odd.tdiv 30 ≤ 9223372036854775807 := tdiv_in odd 30 (by omega) ho1 ho2
  have hwr : IntKind.i64.wrap (odd.tdiv 30) = odd.tdiv 30 := wrap_small _ hdv.1 hdv.2
  obtain ⟨q, hq⟩ : ∃ q : Nat, odd % 30 = q := ⟨(odd % 30).toNat, by omega⟩
  have hq30 : q < 30 := by omega
  have HQ := hidIn hq
  clear hq
  by_cases hwt : what.tmod 4 = 0
  · have hwt' : (what.tmod 4 == 0) = true := by rw [hwt]; rfl
    have hdq : -9223372036854775808 ≤ what.tdiv 4 ∧ what.tdiv 4 ≤ 9223372036854775807 := tdiv_in what 4 (by omega) hw1 hw2
    have hwq : IntKind.i64.wrap (what.tdiv 4) = what.tdiv 4 := wrap_small _ hdq.1 hdq.2
    go_wp2_with fail
    obtain ⟨Y, hY⟩ : ∃ Y, Y = w1.alloc (.cells #[.int .i64 t.kind, .string t.s, .int .i64 t.n, .slice ka t.k.length kc] 30) := ⟨_, rfl⟩
    have HBY1 : Hid (Below w1.heap.size w1 Y) := by rw [hY]; exact below_alloc (Below.refl _ _) _
    have HYS : Hid (Y.heap.size = w1.heap.size + 1) := by unfold Hid; rw [hY]; simp
    have HY14 : Hid (Blk Y w1.heap.size 30 #[.int .i64 t.kind, .string t.s, .int .i64 t.n, .slice ka t.k.length kc]) := by rw [hY]; exact blk_new rfl
    rw [← hY]
    clear hY
    refine (spoilt_any t at' _ v s ha1 ha2 hdq.1 hdq.2 HSS.out (by have := HCN.out; omega) HND.out.1 (by have := HND.out.2; omega) w1 Y _ (HT1.out.low (Nat.zero_le _)) HBY1.out).mono ?_
    rintro e w2 ⟨a, kb, kd, rfl, hsp, hb2⟩
    have HSH2 := hidIn (spoil_sc (what.tdiv 4 % 5).toNat v s ⟨hv1, hv2⟩ HSH.out a)
    have HCN2 : Hid ((spoilT (what.tdiv 4 % 5).toNat v s t a).1.cnt ≤ 2000) := Nat.le_trans (spoil_cnt _ v s t a) HCN.out
    generalize (spoilT (what.tdiv 4 % 5).toNat v s t a).1 = t2 at *
    have hk2 := HY14.out.below hb2 HY14.out.lt
    obtain ⟨c0, c1, c2, c3⟩ : w2.cell? ⟨w1.heap.size, 0, none⟩ = some (.int .i64 t.kind) ∧ w2.cell? ⟨w1.heap.size, 1, none⟩ = some (.string t.s) ∧ w2.cell? ⟨w1.heap.size, 2, none⟩ = some (.int .i64 t.n) ∧ w2.cell? ⟨w1.heap.size, 3, none⟩ = some (.slice ka t.k.length kc) := ⟨hk2.cell 0, hk2.cell 1, hk2.cell 2, hk2.cell 3⟩
    have f0 := hk2.frozen 0
    have f1 := hk2.frozen 1
    have f2 := hk2.frozen 2
    have f3 := hk2.frozen 3
    have HTX : Hid (TIn ((((w2.setCell ⟨w1.heap.size, 0, none⟩ (.int .i64 t2.kind)).setCell ⟨w1.heap.size, 1, none⟩ (.string t2.s)).setCell ⟨w1.heap.size, 2, none⟩ (.int .i64 t2.n)).setCell ⟨w1.heap.size, 3, none⟩ (.slice kb t2.k.length kd)) 0 t2 (.agg (four t2 kb kd))) := hsp _ (fun b o c hb hc => by have := HYS.out; rw [set4_cell' (by omega)]; exact hc)
    have HBX : Hid (Below W.heap.size W ((((w2.setCell ⟨w1.heap.size, 0, none⟩ (.int .i64 t2.kind)).setCell ⟨w1.heap.size, 1, none⟩ (.string t2.s)).setCell ⟨w1.heap.size, 2, none⟩ (.int .i64 t2.n)).setCell ⟨w1.heap.size, 3, none⟩ (.slice kb t2.k.length kd))) := by
      have h1 : Below W.heap.size W w2 := HB1.out.trans ((HBY1.out.trans (hb2.mono HBY1.out.size)).mono HB1.out.size)
      have hs := HB1.out.size
      exact (((h1.setCell hs _).setCell hs _).setCell hs _).setCell hs _
    clear hsp hb2 hk2
    unfold four
    go_wp2_with fail
    refine (termT_any HSH2.out _ _ HTX.out).mono ?_
    rintro e w3 ⟨rfl, hb3⟩
    have HB3 : Hid (Below W.heap.size W w3) := HBX.out.trans (hb3.mono HBX.out.size)
    have HO0 := hidIn (termOf_ok HSH2.out)
    have HN0 : Hid ((termOf t2).weight ≤ 4000) := by have h1 := termOf_weight t2 HSH2.out; have h2 := HCN2.out; show _ ≤ _; omega
    clear hb3
    generalize termOf t2 = c0 at *
    go_wp2_with fail
    refine calls_same (HWI.out _) ?_
    rw [HQ.out]
    have q0 := c0.one' HO0.out
    have cv0 := q0.cells
    have mv0 := q0.cells
    unfold Value.cells at mv0
    clear q0
    by_cases h27 : q = 27
    · subst h27
      go_wp2_with fail
      refine (oddC_any _ w3 hdv.1 hdv.2).mono ?_
      rintro e w5 ⟨c5, rfl, hok5, h5w, hb5⟩
      obtain ⟨c, ho⟩ : ∃ c, c = C.and c0 c5 := ⟨_, rfl⟩
      have HOK : Hid c.Ok := by rw [ho]; exact ⟨HO0.out, hok5⟩
      have HON : Hid (c.weight ≤ 10000) := by
        have h1 := HN0.out; rw [ho]; simp only [C.weight]; show _ ≤ _; omega
      have HOV : Hid (c.val = .iface 46 (.agg #[c0.val, c5.val])) := by rw [ho]; rfl
      have HB3' : Hid (Below W.heap.size W w5) := HB3.out.trans (hb5.mono HB3.out.size)
      clear HB3
      have HB3 := HB3'
      have q5 := c5.one' hok5
      have cv5 := q5.cells
      have mv5 := q5.cells
      unfold Value.cells at mv5
      clear hb5 hok5 ho q5 h5w
      go_wp2_with fail
      rw [← HOV.out]
      refine (plainCC_any c HOK.out _).mono ?_
      rintro e w4 ⟨la, lc, rfl, ht4, hb4⟩
      have HT4 := hidIn ht4
      have hb4' : Below W.heap.size W w4 := HB3.out.trans (hb4.mono HB3.out.size)
      have hZ4 := HZ.out.below hb4' HZ.out.lt
      obtain ⟨⟨z0, z1, z2, z3⟩, f0, f1, f2, f3⟩ := blk_zero hZ4
      have HZ4 := hidIn hZ4
      have HB4 := hidIn hb4'
      have HS3 := hidIn HB3.out.size
      clear ht4 hb4 hb4' hZ4
      go_wp2_with fail
      refine bodyPost_ret (results_slot_cell rfl _ _ (w.heap.size + 1) 30 (four (plainC c) la lc) (0, 0) _ rfl ?blk Tryd.underlying30 rfl infoT) rfl ?post
      case blk => change Blk _ _ _ _; unfold four; (with_reducible exact blk_set4' HZ4.out _ _ _ _)
      case post =>
        have hWS := HWS.out
        have hs3 := HS3.out
        have hbw : Below w.heap.size w w4 := HB.out.trans (HB4.out.mono HB.out.size)
        refine ⟨c, la, lc, rfl, HOK.out, HON.out, ?_, ?_⟩
        · refine HT4.out.kept (by omega) (fun k x c hk hc => ?_)
          rw [set4_cell' (by omega)]
          exact hc
        · (repeat first | with_reducible exact hbw | with_reducible refine below_set ?_ (by omega) _ _)
    by_cases h28 : q = 28
    · subst h28
      go_wp2_with fail
      refine (odd_any _ w3 hdv.1 hdv.2).mono ?_
      rintro e w5 ⟨c5, rfl, hok5, h51, hb5⟩
      obtain ⟨c, ho⟩ : ∃ c, c = C.scale c5 c0 := ⟨_, rfl⟩
      have HOK : Hid c.Ok := by rw [ho]; exact ⟨hok5, HO0.out⟩
      have HON : Hid (c.weight ≤ 10000) := by
        rw [ho]
        have h1 := HN0.out
        rcases h51 with rfl | ⟨v, rfl⟩
        · simp only [C.weight, O.nodes]; show _ ≤ _; omega
        · simp only [C.weight, O.nodes]; show _ ≤ _; omega
      have HOV : Hid (c.val = .iface 73 (.agg #[c5.val, c0.val])) := by rw [ho]; rfl
      have HB3' : Hid (Below W.heap.size W w5) := HB3.out.trans (hb5.mono HB3.out.size)
      clear HB3
      have HB3 := HB3'
      have q5 := c5.one' hok5
      have cv5 := q5.cells
      have mv5 := q5.cells
      unfold Value.cells at mv5
      clear hb5 hok5 ho q5 h51
      go_wp2_with fail
      rw [← HOV.out]
      refine (plainCC_any c HOK.out _).mono ?_
      rintro e w4 ⟨la, lc, rfl, ht4, hb4⟩
      have HT4 := hidIn ht4
      have hb4' : Below W.heap.size W w4 := HB3.out.trans (hb4.mono HB3.out.size)
      have hZ4 := HZ.out.below hb4' HZ.out.lt
      obtain ⟨⟨z0, z1, z2, z3⟩, f0, f1, f2, f3⟩ := blk_zero hZ4
      have HZ4 := hidIn hZ4
      have HB4 := hidIn hb4'
      have HS3 := hidIn HB3.out.size
      clear ht4 hb4 hb4' hZ4
      go_wp2_with fail
      refine bodyPost_ret (results_slot_cell rfl _ _ (w.heap.size + 1) 30 (four (plainC c) la lc) (0, 0) _ rfl ?blk Tryd.underlying30 rfl infoT) rfl ?post
      case blk => change Blk _ _ _ _; unfold four; (with_reducible exact blk_set4' HZ4.out _ _ _ _)
      case post =>
        have hWS := HWS.out
        have hs3 := HS3.out
        have hbw : Below w.heap.size w w4 := HB.out.trans (HB4.out.mono HB.out.size)
        refine ⟨c, la, lc, rfl, HOK.out, HON.out, ?_, ?_⟩
        · refine HT4.out.kept (by omega) (fun k x c hk hc => ?_)
          rw [set4_cell' (by omega)]
          exact hc
        · (repeat first | with_reducible exact hbw | with_reducible refine below_set ?_ (by omega) _ _)
    by_cases h29 : q = 29
    · subst h29
      go_wp2_with fail
      refine (oddC_any _ w3 hdv.1 hdv.2).mono ?_
      rintro e w5 ⟨c5, rfl, hok5, h5w, hb5⟩
      obtain ⟨c, ho⟩ : ∃ c, c = c5 := ⟨_, rfl⟩
      have HOK : Hid c.Ok := by rw [ho]; exact hok5
      have HON : Hid (c.weight ≤ 10000) := by
        rw [ho]; show _ ≤ _; omega
      have HOV : Hid (c.val = c5.val) := by rw [ho]; rfl
      have HB3' : Hid (Below W.heap.size W w5) := HB3.out.trans (hb5.mono HB3.out.size)
      clear HB3
      have HB3 := HB3'
      have q5 := c5.one' hok5
      have cv5 := q5.cells
      have mv5 := q5.cells
      unfold Value.cells at mv5
      clear hb5 hok5 ho q5 h5w
      go_wp2_with fail
      rw [← HOV.out]
      refine (plainCC_any c HOK.out _).mono ?_
      rintro e w4 ⟨la, lc, rfl, ht4, hb4⟩
      have HT4 := hidIn ht4
      have hb4' : Below W.heap.size W w4 := HB3.out.trans (hb4.mono HB3.out.size)
      have hZ4 := HZ.out.below hb4' HZ.out.lt
      obtain ⟨⟨z0, z1, z2, z3⟩, f0, f1, f2, f3⟩ := blk_zero hZ4
      have HZ4 := hidIn hZ4
      have HB4 := hidIn hb4'
      have HS3 := hidIn HB3.out.size
      clear ht4 hb4 hb4' hZ4
      go_wp2_with fail
      refine bodyPost_ret (results_slot_cell rfl _ _ (w.heap.size + 1) 30 (four (plainC c) la lc) (0, 0) _ rfl ?blk Tryd.underlying30 rfl infoT) rfl ?post
      case blk => change Blk _ _ _ _; unfold four; (with_reducible exact blk_set4' HZ4.out _ _ _ _)
      case post =>
        have hWS := HWS.out
        have hs3 := HS3.out
        have hbw : Below w.heap.size w w4 := HB.out.trans (HB4.out.mono HB.out.size)
        refine ⟨c, la, lc, rfl, HOK.out, HON.out, ?_, ?_⟩
        · refine HT4.out.kept (by omega) (fun k x c hk hc => ?_)
          rw [set4_cell' (by omega)]
          exact hc
        · (repeat first | with_reducible exact hbw | with_reducible refine below_set ?_ (by omega) _ _)
    have e27 : ((q : Int) == 27) = false := by rw [beq_eq_false_iff_ne]; omega
    have e28 : ((q : Int) == 28) = false := by rw [beq_eq_false_iff_ne]; omega
    have e29 : ((q : Int) == 29) = false := by rw [beq_eq_false_iff_ne]; omega
    obtain ⟨c, ho⟩ : ∃ c, c = c0 := ⟨_, rfl⟩
    subst ho
    have HOK := HO0
    have HON : Hid (c.weight ≤ 10000) := by have h1 := HN0.out; show _ ≤ _; omega
    go_wp2_with fail
    refine (plainCC_any c HOK.out _).mono ?_
    rintro e w4 ⟨la, lc, rfl, ht4, hb4⟩
    have HT4 := hidIn ht4
    have hb4' : Below W.heap.size W w4 := HB3.out.trans (hb4.mono HB3.out.size)
    have hZ4 := HZ.out.below hb4' HZ.out.lt
    obtain ⟨⟨z0, z1, z2, z3⟩, f0, f1, f2, f3⟩ := blk_zero hZ4
    have HZ4 := hidIn hZ4
    have HB4 := hidIn hb4'
    have HS3 := hidIn HB3.out.size
    clear ht4 hb4 hb4' hZ4
    go_wp2_with fail
    refine bodyPost_ret (results_slot_cell rfl _ _ (w.heap.size + 1) 30 (four (plainC c) la lc) (0, 0) _ rfl ?blk Tryd.underlying30 rfl infoT) rfl ?post
    case blk => change Blk _ _ _ _; unfold four; (with_reducible exact blk_set4' HZ4.out _ _ _ _)
    case post =>
      have hWS := HWS.out
      have hs3 := HS3.out
      have hbw : Below w.heap.size w w4 := HB.out.trans (HB4.out.mono HB.out.size)
      refine ⟨c, la, lc, rfl, HOK.out, HON.out, ?_, ?_⟩
      · refine HT4.out.kept (by omega) (fun k x c hk hc => ?_)
        rw [set4_cell' (by omega)]
        exact hc
      · (repeat first | with_reducible exact hbw | with_reducible refine below_set ?_ (by omega) _ _)
  · have hwt' : (what.tmod 4 == 0) = false := by rw [beq_eq_false_iff_ne]; exact hwt
    go_wp2_with fail
    have HSH2 := HSH
    have HCN2 := HCN
    have HTX : Hid (TIn (w1.alloc (.cells #[.int .i64 t.kind, .string t.s, .int .i64 t.n, .slice ka t.k.length kc] 30)) 0 t (.agg (four t ka kc))) := (HT1.out.below (below_alloc (Below.refl _ _) _)).low (Nat.zero_le _)
    have HBX : Hid (Below W.heap.size W (w1.alloc (.cells #[.int .i64 t.kind, .string t.s, .int .i64 t.n, .slice ka t.k.length kc] 30))) := below_alloc HB1.out _
    refine (termT_any HSH2.out _ _ HTX.out).mono ?_
    rintro e w3 ⟨rfl, hb3⟩
    have HB3 : Hid (Below W.heap.size W w3) := HBX.out.trans (hb3.mono HBX.out.size)
    have HO0 := hidIn (termOf_ok HSH2.out)
    have HN0 : Hid ((termOf t).weight ≤ 4000) := by have h1 := termOf_weight t HSH2.out; have h2 := HCN2.out; show _ ≤ _; omega
    clear hb3
    generalize termOf t = c0 at *
    go_wp2_with fail
    refine calls_same (HWI.out _) ?_
    rw [HQ.out]
    have q0 := c0.one' HO0.out
    have cv0 := q0.cells
    have mv0 := q0.cells
    unfold Value.cells at mv0
    clear q0
    by_cases h27 : q = 27
    · subst h27
      go_wp2_with fail
      refine (oddC_any _ w3 hdv.1 hdv.2).mono ?_
      rintro e w5 ⟨c5, rfl, hok5, h5w, hb5⟩
      obtain ⟨c, ho⟩ : ∃ c, c = C.and c0 c5 := ⟨_, rfl⟩
      have HOK : Hid c.Ok := by rw [ho]; exact ⟨HO0.out, hok5⟩
      have HON : Hid (c.weight ≤ 10000) := by
        have h1 := HN0.out; rw [ho]; simp only [C.weight]; show _ ≤ _; omega
      have HOV : Hid (c.val = .iface 46 (.agg #[c0.val, c5.val])) := by rw [ho]; rfl
      have HB3' : Hid (Below W.heap.size W w5) := HB3.out.trans (hb5.mono HB3.out.size)
      clear HB3
      have HB3 := HB3'
      have q5 := c5.one' hok5
      have cv5 := q5.cells
      have mv5 := q5.cells
      unfold Value.cells at mv5
      clear hb5 hok5 ho q5 h5w
      go_wp2_with fail
      rw [← HOV.out]
      refine (plainCC_any c HOK.out _).mono ?_
      rintro e w4 ⟨la, lc, rfl, ht4, hb4⟩
      have HT4 := hidIn ht4
      have hb4' : Below W.heap.size W w4 := HB3.out.trans (hb4.mono HB3.out.size)
      have hZ4 := HZ.out.below hb4' HZ.out.lt
      obtain ⟨⟨z0, z1, z2, z3⟩, f0, f1, f2, f3⟩ := blk_zero hZ4
      have HZ4 := hidIn hZ4
      have HB4 := hidIn hb4'
      have HS3 := hidIn HB3.out.size
      clear ht4 hb4 hb4' hZ4
      go_wp2_with fail
      refine bodyPost_ret (results_slot_cell rfl _ _ (w.heap.size + 1) 30 (four (plainC c) la lc) (0, 0) _ rfl ?blk Tryd.underlying30 rfl infoT) rfl ?post
      case blk => change Blk _ _ _ _; unfold four; (with_reducible exact blk_set4' HZ4.out _ _ _ _)
      case post =>
        have hWS := HWS.out
        have hs3 := HS3.out
        have hbw : Below w.heap.size w w4 := HB.out.trans (HB4.out.mono HB.out.size)
        refine ⟨c, la, lc, rfl, HOK.out, HON.out, ?_, ?_⟩
        · refine HT4.out.kept (by omega) (fun k x c hk hc => ?_)
          rw [set4_cell' (by omega)]
          exact hc
        · (repeat first | with_reducible exact hbw | with_reducible refine below_set ?_ (by omega) _ _)
    by_cases h28 : q = 28
    · subst h28
      go_wp2_with fail
      refine (odd_any _ w3 hdv.1 hdv.2).mono ?_
      rintro e w5 ⟨c5, rfl, hok5, h51, hb5⟩
      obtain ⟨c, ho⟩ : ∃ c, c = C.scale c5 c0 := ⟨_, rfl⟩
      have HOK : Hid c.Ok := by rw [ho]; exact ⟨hok5, HO0.out⟩
      have HON : Hid (c.weight ≤ 10000) := by
        rw [ho]
        have h1 := HN0.out
        rcases h51 with rfl | ⟨v, rfl⟩
        · simp only [C.weight, O.nodes]; show _ ≤ _; omega
        · simp only [C.weight, O.nodes]; show _ ≤ _; omega
      have HOV : Hid (c.val = .iface 73 (.agg #[c5.val, c0.val])) := by rw [ho]; rfl
      have HB3' : Hid (Below W.heap.size W w5) := HB3.out.trans (hb5.mono HB3.out.size)
      clear HB3
      have HB3 := HB3'
      have q5 := c5.one' hok5
      have cv5 := q5.cells
      have mv5 := q5.cells
      unfold Value.cells at mv5
      clear hb5 hok5 ho q5 h51
      go_wp2_with fail
      rw [← HOV.out]
      refine (plainCC_any c HOK.out _).mono ?_
      rintro e w4 ⟨la, lc, rfl, ht4, hb4⟩
      have HT4 := hidIn ht4
      have hb4' : Below W.heap.size W w4 := HB3.out.trans (hb4.mono HB3.out.size)
      have hZ4 := HZ.out.below hb4' HZ.out.lt
      obtain ⟨⟨z0, z1, z2, z3⟩, f0, f1, f2, f3⟩ := blk_zero hZ4
      have HZ4 := hidIn hZ4
      have HB4 := hidIn hb4'
      have HS3 := hidIn HB3.out.size
      clear ht4 hb4 hb4' hZ4
      go_wp2_with fail
      refine bodyPost_ret (results_slot_cell rfl _ _ (w.heap.size + 1) 30 (four (plainC c) la lc) (0, 0) _ rfl ?blk Tryd.underlying30 rfl infoT) rfl ?post
      case blk => change Blk _ _ _ _; unfold four; (with_reducible exact blk_set4' HZ4.out _ _ _ _)
      case post =>
        have hWS := HWS.out
        have hs3 := HS3.out
        have hbw : Below w.heap.size w w4 := HB.out.trans (HB4.out.mono HB.out.size)
        refine ⟨c, la, lc, rfl, HOK.out, HON.out, ?_, ?_⟩
        · refine HT4.out.kept (by omega) (fun k x c hk hc => ?_)
          rw [set4_cell' (by omega)]
          exact hc
        · (repeat first | with_reducible exact hbw | with_reducible refine below_set ?_ (by omega) _ _)
    by_cases h29 : q = 29
    · subst h29
      go_wp2_with fail
      refine (oddC_any _ w3 hdv.1 hdv.2).mono ?_
      rintro e w5 ⟨c5, rfl, hok5, h5w, hb5⟩
      obtain ⟨c, ho⟩ : ∃ c, c = c5 := ⟨_, rfl⟩
      have HOK : Hid c.Ok := by rw [ho]; exact hok5
      have HON : Hid (c.weight ≤ 10000) := by
        rw [ho]; show _ ≤ _; omega
      have HOV : Hid (c.val = c5.val) := by rw [ho]; rfl
      have HB3' : Hid (Below W.heap.size W w5) := HB3.out.trans (hb5.mono HB3.out.size)
      clear HB3
      have HB3 := HB3'
      have q5 := c5.one' hok5
      have cv5 := q5.cells
      have mv5 := q5.cells
      unfold Value.cells at mv5
      clear hb5 hok5 ho q5 h5w
      go_wp2_with fail
      rw [← HOV.out]
      refine (plainCC_any c HOK.out _).mono ?_
      rintro e w4 ⟨la, lc, rfl, ht4, hb4⟩
      have HT4 := hidIn ht4
      have hb4' : Below W.heap.size W w4 := HB3.out.trans (hb4.mono HB3.out.size)
      have hZ4 := HZ.out.below hb4' HZ.out.lt
      obtain ⟨⟨z0, z1, z2, z3⟩, f0, f1, f2, f3⟩ := blk_zero hZ4
      have HZ4 := hidIn hZ4
      have HB4 := hidIn hb4'
      have HS3 := hidIn HB3.out.size
      clear ht4 hb4 hb4' hZ4
      go_wp2_with fail
      refine bodyPost_ret (results_slot_cell rfl _ _ (w.heap.size + 1) 30 (four (plainC c) la lc) (0, 0) _ rfl ?blk Tryd.underlying30 rfl infoT) rfl ?post
      case blk => change Blk _ _ _ _; unfold four; (with_reducible exact blk_set4' HZ4.out _ _ _ _)
      case post =>
        have hWS := HWS.out
        have hs3 := HS3.out
        have hbw : Below w.heap.size w w4 := HB.out.trans (HB4.out.mono HB.out.size)
        refine ⟨c, la, lc, rfl, HOK.out, HON.out, ?_, ?_⟩
        · refine HT4.out.kept (by omega) (fun k x c hk hc => ?_)
          rw [set4_cell' (by omega)]
          exact hc
        · (repeat first | with_reducible exact hbw | with_reducible refine below_set ?_ (by omega) _ _)
    have e27 : ((q : Int) == 27) = false := by rw [beq_eq_false_iff_ne]; omega
    have e28 : ((q : Int) == 28) = false := by rw [beq_eq_false_iff_ne]; omega
    have e29 : ((q : Int) == 29) = false := by rw [beq_eq_false_iff_ne]; omega
    obtain ⟨c, ho⟩ : ∃ c, c = c0 := ⟨_, rfl⟩
    subst ho
    have HOK := HO0
    have HON : Hid (c.weight ≤ 10000) := by have h1 := HN0.out; show _ ≤ _; omega
    go_wp2_with fail
    refine (plainCC_any c HOK.out _).mono ?_
    rintro e w4 ⟨la, lc, rfl, ht4, hb4⟩
    have HT4 := hidIn ht4
    have hb4' : Below W.heap.size W w4 := HB3.out.trans (hb4.mono HB3.out.size)
    have hZ4 := HZ.out.below hb4' HZ.out.lt
    obtain ⟨⟨z0, z1, z2, z3⟩, f0, f1, f2, f3⟩ := blk_zero hZ4
    have HZ4 := hidIn hZ4
    have HB4 := hidIn hb4'
    have HS3 := hidIn HB3.out.size
    clear ht4 hb4 hb4' hZ4
    go_wp2_with fail
    refine bodyPost_ret (results_slot_cell rfl _ _ (w.heap.size + 1) 30 (four (plainC c) la lc) (0, 0) _ rfl ?blk Tryd.underlying30 rfl infoT) rfl ?post
    case blk => change Blk _ _ _ _; unfold four; (with_reducible exact blk_set4' HZ4.out _ _ _ _)
    case post =>
      have hWS := HWS.out
      have hs3 := HS3.out
      have hbw : Below w.heap.size w w4 := HB.out.trans (HB4.out.mono HB.out.size)
      refine ⟨c, la, lc, rfl, HOK.out, HON.out, ?_, ?_⟩
      · refine HT4.out.kept (by omega) (fun k x c hk hc => ?_)
        rw [set4_cell' (by omega)]
        exact hc
      · (repeat first | with_reducible exact hbw | with_reducible refine below_set ?_ (by omega) _ _)

end Go.Proofs.YtagjbbdpenbcoaaDoor
namespace Go.Proofs.YtagjbbdpenbcoaaDoor
open Go.RowKit
set_option linter.unusedVariables false

def waterB : ByteArray := ⟨#[230, 176, 180, 230, 176, 180, 230, 176, 180, 230, 176, 180, 230, 176, 180, 230, 176, 180, 230, 176, 180, 230, 176, 180, 230, 176, 180, 230, 176, 180, 230, 176, 180, 230, 176, 180]⟩
/-- The contract behind so many steps. -/
def longC : Nat → C
  | 0 => .one waterB
  | j + 1 => if (j + 1) % 6 = 0 then .and (longC j) (longC j) else .and (longC j) (.one waterB)
def longS : Nat → Nat
  | 0 => 41
  | j + 1 => if (j + 1) % 6 = 0 then 2 * longS j + 6 else longS j + 47
theorem longS_bd : ∀ j, j < 19 → longS j ≤ 4000 := by decide +kernel
theorem long_ok : ∀ j, (longC j).Ok
  | 0 => by show waterB.size ≤ _; decide
  | j + 1 => by
    unfold longC
    split
    · exact ⟨long_ok j, long_ok j⟩
    · exact ⟨long_ok j, by show waterB.size ≤ _; decide⟩
theorem long_weight : ∀ j, j < 19 → (longC j).weight ≤ 1000000 := by decide +kernel
theorem long_chk : ∀ j, j < 19 → chkC (longC j) = if 12 ≤ j then 5 else 0 := by decide +kernel
theorem long_size (j : Nat) : (textC (longC j)).size = longS j := by
  have e1 : (textC (.one waterB)).size = 41 := by simp only [textC]; rw [joinT_size, joinL1]; decide
  induction j with
  | zero => exact e1
  | succ j ih =>
    unfold longC longS
    have e : (ByteArray.mk #[97, 110, 100]).size = 3 := rfl
    split
    · simp only [textC]; rw [joinT_size, joinL2, ih, e]; omega
    · simp only [textC] at e1 ⊢; rw [joinT_size, joinL2, ih, e, e1]; omega
theorem long_bd : ∀ j, j < 12 → longS j ≤ 1000 := by decide +kernel
theorem long_err (j : Nat) (h : j < 19) : wErrC (longC j) = if 12 ≤ j then 5 else 0 := by
  have hc := long_chk j h
  unfold wErrC
  rw [hc, long_size]
  by_cases h2 : 12 ≤ j
  · rw [if_pos h2, if_neg (by decide)]
  · rw [if_neg h2, if_pos rfl, if_neg (by have := long_bd j (by omega); omega)]
theorem long_none (j : Nat) (h : j < 19) (h2 : 12 ≤ j) : wTextC (longC j) = ⟨#[]⟩ := by
  have hc := long_chk j h
  unfold wTextC
  rw [hc, if_pos h2, if_neg (by decide)]
theorem long_text (j : Nat) (h2 : j < 12) : (wTextC (longC j)).size = longS j := by
  have hc := long_chk j (by omega)
  unfold wTextC
  rw [hc, if_neg (show ¬ 12 ≤ j by omega), if_pos rfl, if_neg (by have := long_bd j (by omega); rw [long_size]; omega), long_size]

/-- The document's example. -/
def wakeC : C := .scale (.const 100) (.one ⟨#[117, 115, 100]⟩)
theorem wake_err : wErrC wakeC = 0 := by decide +kernel
theorem wake_text : wTextC wakeC = ⟨#[115, 99, 97, 108, 101, 40, 49, 48, 48, 44, 111, 110, 101, 40, 117, 115, 100, 41, 41]⟩ := by decide +kernel
theorem wake_ok : wakeC.Ok := ⟨⟨by decide, by decide⟩, by show (⟨#[117, 115, 100]⟩ : ByteArray).size ≤ _; decide⟩
set_option maxHeartbeats 1000000 in
set_option maxRecDepth 100000 in
theorem wakes6_any (w : World) (ht : TabW w) : Calls Tryd.prog 15 #[] w fun e w' => e = .returned (.bool true) ∧ Below w.heap.size w w' := by
  have HT := hidIn ht
  have HK := hidIn (writeC_any wakeC wake_ok (by decide))
  clear ht
  go_enter Tryd.func15, Tryd.ntmps15
  go_wp2_with fail
  refine (HK.out w HT.out).mono ?_
  rintro e w1 ⟨rfl, hb1⟩
  rw [wake_err, wake_text]
  go_wp2_with fail
  go_ret
  exact ⟨rfl, hb1⟩

set_option maxHeartbeats 4000000 in
set_option maxRecDepth 100000 in
theorem writeLong_walk (n : Int) (w : World) (h1 : -9223372036854775808 ≤ n) (h2 : n ≤ 9223372036854775807) (ht : TabW w) :
    Calls Tryd.prog 4 #[.int .i64 n] w fun e w' => e = .returned (.bool true) ∧ Below w.heap.size w w' := by
  obtain ⟨q, hq⟩ : ∃ q : Nat, n % 24 = q := ⟨(n % 24).toNat, by omega⟩
  have hq4 : q < 24 := by omega
  have HT := hidIn ht
  clear ht
  go_enter Tryd.func4, Tryd.ntmps4
  go_wp2_with fail
  refine calls_same (within_any _ 24 _ (by omega) (by omega) h1 h2) ?_
  rw [hq]
  clear h1 h2 hq
  go_wp2_with fail
  go_loop [6, 3, 4, 5] (fun s6 s3 s4 s5 => ∃ j : Nat, j < 19 ∧ j < 1 + q ∧ s6 = .int .i64 ((j : Int) + 1) ∧ s3 = (longC j).val ∧ s4 = .int .i64 (longS j : Int) ∧ s5 = .int .i64 ((j / 6 : Nat) : Int)) (fun s6 _ _ _ => 1 + q - (intOf s6).toNat)
  case atStart => exact ⟨0, by omega, by omega, rfl, rfl, rfl, rfl⟩
  case round =>
    obtain ⟨j, hj, hjq, rfl, rfl, rfl, rfl⟩ := hrel
    have qv := (longC j).one' (long_ok j)
    have hS := longS_bd j hj
    obtain ⟨S, hSe⟩ : ∃ S, longS j = S := ⟨_, rfl⟩
    obtain ⟨kk, hkk⟩ : ∃ kk, j / 6 = kk := ⟨_, rfl⟩
    obtain ⟨v, hv⟩ : ∃ v, (longC j).val = v := ⟨_, rfl⟩
    have HX := hidIn hv
    have HSE := hidIn hSe
    have HKK := hidIn hkk
    rw [hv] at qv
    rw [hSe] at hS
    rw [hv, hSe, hkk]
    have hk3 : kk ≤ 3 := by omega
    have sv := qv.store
    have cv := qv.cells
    have mv := qv.cells
    unfold Value.cells at mv
    have hmod : Int.tmod ((j : Int) + 1) 6 = (((j + 1) % 6 : Nat) : Int) := by rw [Int.tmod_eq_emod_of_nonneg (by omega)]; omega
    clear hv qv hSe hkk
    by_cases hlt : (j : Int) + 1 < 1 + (q : Int)
    · by_cases h18 : j ≤ 17
      · have hk2 : ¬ (2 : Int) < (kk : Int) := by have := HKK.out; omega
        have hk2' : (kk : Int) < 3 := by have := HKK.out; omega
        by_cases h6 : (j + 1) % 6 = 0
        · have h6' : Int.tmod ((j : Int) + 1) 6 = 0 := by omega
          have HN : Hid ((longC (j + 1)).val = .iface 46 (.agg #[v, v])) := by show (longC (j + 1)).val = _; unfold longC; rw [if_pos h6]; show Value.iface _ (.agg #[(longC j).val, (longC j).val]) = _; rw [HX.out]
          have HM : Hid (longS (j + 1) = 2 * S + 6) := by show longS (j + 1) = _; unfold longS; rw [if_pos h6, HSE.out]
          have HD : Hid ((j + 1) / 6 = kk + 1) := by show (j + 1) / 6 = _; have := HKK.out; omega
          clear hmod
          go_wp2_with fail
          go_round
          case rel => exact ⟨j + 1, by omega, by omega, by go_num, by rw [HN.out], by rw [HM.out]; go_num, by rw [HD.out]; go_num⟩
          case measure => simp [intOf]; omega
        · have h6' : ¬ Int.tmod ((j : Int) + 1) 6 = 0 := by omega
          have HN : Hid ((longC (j + 1)).val = .iface 46 (.agg #[v, .iface 44 (.agg #[.string waterB])])) := by show (longC (j + 1)).val = _; unfold longC; rw [if_neg h6]; show Value.iface _ (.agg #[(longC j).val, _]) = _; rw [HX.out]; rfl
          have HM : Hid (longS (j + 1) = S + 47) := by show longS (j + 1) = _; unfold longS; rw [if_neg h6, HSE.out]
          have HD : Hid ((j + 1) / 6 = kk) := by show (j + 1) / 6 = _; have := HKK.out; omega
          clear hmod
          go_wp2_with fail
          go_round
          case rel => exact ⟨j + 1, by omega, by omega, by go_num, by rw [HN.out]; rfl, by rw [HM.out]; go_num, by rw [HD.out]⟩
          case measure => simp [intOf]; omega
      · have hk2 : (2 : Int) < (kk : Int) := by have := HKK.out; omega
        have h6' : ¬ Int.tmod ((j : Int) + 1) 6 = 0 := by omega
        clear hmod
        have HC : Hid (∀ w, TabW w → Calls Tryd.prog 9 #[v] w fun e w' => e = .returned (.tuple #[.string (wTextC (longC j)), .int .i64 (wErrC (longC j))]) ∧ Below w.heap.size w w') := fun w h => by rw [← HX.out]; exact writeC_any _ (long_ok j) (long_weight j hj) w h
        have HF : Hid (∀ w, Calls Tryd.prog 17 #[v] w fun e w' => e = .returned (.int .i64 (chkC (longC j))) ∧ Below w.heap.size w w') := fun w => by rw [← HX.out]; exact checkT_any _ (long_ok j) (long_weight j hj) w
        have HE := hidIn (long_err j hj)
        have HG := hidIn (long_chk j hj)
        by_cases h12 : 12 ≤ j
        · rw [if_pos h12] at HE HG
          have HN := hidIn (long_none j hj h12)
          go_wp2_with fail
          refine (HC.out w HT.out).mono ?_
          rintro e w1 ⟨rfl, hb1⟩
          rw [HE.out, HN.out]
          have HT1 := hidIn (tabW_below HT.out hb1)
          have HB1 := hidIn hb1
          clear hb1
          go_wp2_with fail
          refine (HF.out w1).mono ?_
          rintro e w2 ⟨rfl, hb2⟩
          rw [HG.out]
          have HT2 := hidIn (tabW_below HT1.out hb2)
          have HB2 := hidIn (HB1.out.trans (hb2.mono HB1.out.size))
          clear hb2
          go_wp2_with fail
          refine (wakes6_any w2 HT2.out).mono ?_
          rintro e w3 ⟨rfl, hb3⟩
          go_wp2_with fail
          go_ret
          exact ⟨rfl, HB2.out.trans (hb3.mono HB2.out.size)⟩
        · exfalso; omega
    · clear hmod
      have HC : Hid (∀ w, TabW w → Calls Tryd.prog 9 #[v] w fun e w' => e = .returned (.tuple #[.string (wTextC (longC j)), .int .i64 (wErrC (longC j))]) ∧ Below w.heap.size w w') := fun w h => by rw [← HX.out]; exact writeC_any _ (long_ok j) (long_weight j hj) w h
      have HF : Hid (∀ w, Calls Tryd.prog 17 #[v] w fun e w' => e = .returned (.int .i64 (chkC (longC j))) ∧ Below w.heap.size w w') := fun w => by rw [← HX.out]; exact checkT_any _ (long_ok j) (long_weight j hj) w
      have HE := hidIn (long_err j hj)
      have HG := hidIn (long_chk j hj)
      by_cases h12 : 12 ≤ j
      · rw [if_pos h12] at HE HG
        have HN := hidIn (long_none j hj h12)
        go_wp2_with fail
        refine (HC.out w HT.out).mono ?_
        rintro e w1 ⟨rfl, hb1⟩
        rw [HE.out, HN.out]
        have HT1 := hidIn (tabW_below HT.out hb1)
        have HB1 := hidIn hb1
        clear hb1
        go_wp2_with fail
        refine (HF.out w1).mono ?_
        rintro e w2 ⟨rfl, hb2⟩
        rw [HG.out]
        have HT2 := hidIn (tabW_below HT1.out hb2)
        have HB2 := hidIn (HB1.out.trans (hb2.mono HB1.out.size))
        clear hb2
        go_wp2_with fail
        refine (wakes6_any w2 HT2.out).mono ?_
        rintro e w3 ⟨rfl, hb3⟩
        go_wp2_with fail
        go_ret
        exact ⟨rfl, HB2.out.trans (hb3.mono HB2.out.size)⟩
      · rw [if_neg h12] at HE HG
        have hN := long_text j (by omega)
        have hS1 := long_bd j (by omega)
        rw [HSE.out] at hN hS1
        have hs1 : ¬ (1000 : Int) < (S : Int) := by omega
        go_wp2_with fail
        refine (HC.out w HT.out).mono ?_
        rintro e w1 ⟨rfl, hb1⟩
        rw [HE.out]
        obtain ⟨tx, htx⟩ : ∃ tx, wTextC (longC j) = tx := ⟨_, rfl⟩
        rw [htx] at hN
        rw [htx]
        clear htx
        have hlen : (tx.size : Int) = (S : Int) := by omega
        have HT1 := hidIn (tabW_below HT.out hb1)
        have HB1 := hidIn hb1
        clear hb1
        go_wp2_with fail
        refine (HF.out w1).mono ?_
        rintro e w2 ⟨rfl, hb2⟩
        rw [HG.out]
        have HT2 := hidIn (tabW_below HT1.out hb2)
        have HB2 := hidIn (HB1.out.trans (hb2.mono HB1.out.size))
        clear hb2
        go_wp2_with fail
        refine (wakes6_any w2 HT2.out).mono ?_
        rintro e w3 ⟨rfl, hb3⟩
        go_wp2_with fail
        go_ret
        exact ⟨rfl, HB2.out.trans (hb3.mono HB2.out.size)⟩

end Go.Proofs.YtagjbbdpenbcoaaDoor
namespace Go.Proofs.YtagjbbdpenbcoaaDoor
open Go.RowKit
set_option linter.unusedVariables false

set_option maxHeartbeats 4000000 in
set_option maxRecDepth 100000 in
theorem writeTells_walk (p : Pl) (at' what v : Int) (s : ByteArray) (odd : Int) (w : World) (hp : PlanIn w p) (ha1 : -9223372036854775808 ≤ at') (ha2 : at' ≤ 9223372036854775807) (hw1 : -9223372036854775808 ≤ what) (hw2 : what ≤ 9223372036854775807) (hv1 : -9223372036854775808 ≤ v) (hv2 : v ≤ 9223372036854775807) (hs : s.size ≤ 140737488351232) (ho1 : -9223372036854775808 ≤ odd) (ho2 : odd ≤ 9223372036854775807) (ht : TabW w) :
    Calls Tryd.prog 5 #[planV p, .int .i64 at', .int .i64 what, .int .i64 v, .string s, .int .i64 odd] w fun e w' => e = .returned (.bool true) ∧ Below w.heap.size w w' := by
  have HP := hidIn hp
  have HTB := hidIn ht
  have HSS : Hid (s.size ≤ maxLen) := by unfold Hid maxLen; omega
  clear hp hs ht
  have HC1 : Hid (∀ W, PlanIn W p → Calls Tryd.prog 18 #[.agg #[.slice p.na p.nl p.nc, .slice p.wa p.wl p.wc], .int .i64 at', .int .i64 what, .int .i64 v, .string s, .int .i64 odd] W (SomePostC W)) := fun W hW => some5_any p at' what v s odd W hW ha1 ha2 hw1 hw2 hv1 hv2 HSS.out ho1 ho2
  have HC2 : Hid (∀ W, PlanIn W p → Calls Tryd.prog 19 #[.agg #[.slice p.na p.nl p.nc, .slice p.wa p.wl p.wc], .int .i64 at', .int .i64 what, .int .i64 v, .string s, .int .i64 odd] W (SomePost W)) := fun W hW => some4_any p at' what v s odd W hW ha1 ha2 hw1 hw2 hv1 hv2 HSS.out ho1 ho2
  clear ha1 ha2 hw1 hw2 hv1 hv2 ho1 ho2 HSS
  unfold planV
  go_enter Tryd.func5, Tryd.ntmps5
  go_upto_region 1 with fail
  obtain ⟨W, hW⟩ : ∃ W, W = w.alloc (.cells #[.slice p.na p.nl p.nc, .slice p.wa p.wl p.wc] 25) := ⟨_, rfl⟩
  have HB : Hid (Below w.heap.size w W) := by rw [hW]; exact below_alloc (Below.refl _ _) _
  have HBP : Hid (Blk W w.heap.size 25 #[.slice p.na p.nl p.nc, .slice p.wa p.wl p.wc]) := by rw [hW]; exact blk_new rfl
  have c0 : W.cell? ⟨w.heap.size, 0, none⟩ = some (.slice p.na p.nl p.nc) := HBP.out.cell 0
  have c1 : W.cell? ⟨w.heap.size, 1, none⟩ = some (.slice p.wa p.wl p.wc) := HBP.out.cell 1
  have HPW := hidIn (HP.out.below HB.out)
  rw [← hW]
  clear hW HP
  go_upto_region 2 with fail
  refine (HC1.out W HPW.out).mono ?_
  rintro e w1 ⟨c, ka, kc, rfl, hok1, hn1, ht1, hb1⟩
  have HOK1 := hidIn hok1
  have HN1 := hidIn hn1
  have HT1 := hidIn ht1
  have HB1 := hidIn hb1
  have hbq := HBP.out.below hb1 HBP.out.lt
  have HQ1 := hidIn (HPW.out.below hb1)
  clear hok1 hn1 ht1 hb1 c0 c1
  go_upto_region 2 with fail
  obtain ⟨W2, hW2⟩ : ∃ W2, W2 = w1.alloc (.cells #[.int .i64 (plainC c).kind, .string (plainC c).s, .int .i64 (plainC c).n, .slice ka (plainC c).k.length kc] 30) := ⟨_, rfl⟩
  have HBW2 : Hid (Below w1.heap.size w1 W2) := by rw [hW2]; exact below_alloc (Below.refl _ _) _
  have HP18 : Hid (Blk W2 w1.heap.size 30 #[.int .i64 (plainC c).kind, .string (plainC c).s, .int .i64 (plainC c).n, .slice ka (plainC c).k.length kc]) := by rw [hW2]; exact blk_new rfl
  have hb2 := hbq.below HBW2.out hbq.lt
  have e0 : W2.cell? ⟨w.heap.size, 0, none⟩ = some (.slice p.na p.nl p.nc) := hb2.cell 0
  have e1 : W2.cell? ⟨w.heap.size, 1, none⟩ = some (.slice p.wa p.wl p.wc) := hb2.cell 1
  have HQ2 := hidIn (HQ1.out.below HBW2.out)
  rw [← hW2]
  clear hW2 hbq hb2
  go_upto_region 3 with fail
  refine (HC2.out W2 HQ2.out).mono ?_
  rintro e w3 ⟨o, la, lc, rfl, hok3, hn3, ht3, hb3⟩
  have HOK3 := hidIn hok3
  have HN3 := hidIn hn3
  have HT3 := hidIn ht3
  have HB3 := hidIn hb3
  clear hok3 hn3 ht3 hb3 e0 e1
  go_upto_region 3 with fail
  obtain ⟨W4, hW4⟩ : ∃ W4, W4 = w3.alloc (.cells #[.int .i64 (plain o).kind, .string (plain o).s, .int .i64 (plain o).n, .slice la (plain o).k.length lc] 30) := ⟨_, rfl⟩
  have HBW4 : Hid (Below w3.heap.size w3 W4) := by rw [hW4]; exact below_alloc (Below.refl _ _) _
  have HP20 : Hid (Blk W4 w3.heap.size 30 #[.int .i64 (plain o).kind, .string (plain o).s, .int .i64 (plain o).n, .slice la (plain o).k.length lc]) := by rw [hW4]; exact blk_new rfl
  have HP18W : Hid (Blk W4 w1.heap.size 30 #[.int .i64 (plainC c).kind, .string (plainC c).s, .int .i64 (plainC c).n, .slice ka (plainC c).k.length kc]) := by
    have h3 := HP18.out.below HB3.out HP18.out.lt
    exact h3.below HBW4.out h3.lt
  have HW4 : Hid (Below w1.heap.size w1 W4) := HBW2.out.trans ((HB3.out.trans (HBW4.out.mono HB3.out.size)).mono HBW2.out.size)
  have HW : Hid (Below w.heap.size w W4) := HB.out.trans ((HB1.out.trans (HW4.out.mono HB1.out.size)).mono HB.out.size)
  have HTW : Hid (∀ X, Below W4.heap.size W4 X → TabW X) := fun X hX => tabW_below HTB.out (HW.out.trans (hX.mono HW.out.size))
  have HCX : Hid (∀ X, Below W4.heap.size W4 X → TIn X 0 (plainC c) (.agg #[.int .i64 (plainC c).kind, .string (plainC c).s, .int .i64 (plainC c).n, .slice ka (plainC c).k.length kc])) := fun X hX => (HT1.out.below (HW4.out.trans (hX.mono HW4.out.size))).low (Nat.zero_le _)
  have HOX : Hid (∀ X, Below W4.heap.size W4 X → TIn X 0 (plain o) (.agg #[.int .i64 (plain o).kind, .string (plain o).s, .int .i64 (plain o).n, .slice la (plain o).k.length lc])) := fun X hX => (HT3.out.below (HBW4.out.trans (hX.mono HBW4.out.size))).low (Nat.zero_le _)
  have HGC : Hid (∀ X, Below W4.heap.size W4 X → ∀ i, X.cell? ⟨w1.heap.size, i, none⟩ = (#[.int .i64 (plainC c).kind, .string (plainC c).s, .int .i64 (plainC c).n, .slice ka (plainC c).k.length kc] : Array Value)[i]?) := fun X hX i => (HP18W.out.below hX HP18W.out.lt).cell i
  have HGO : Hid (∀ X, Below W4.heap.size W4 X → ∀ i, X.cell? ⟨w3.heap.size, i, none⟩ = (#[.int .i64 (plain o).kind, .string (plain o).s, .int .i64 (plain o).n, .slice la (plain o).k.length lc] : Array Value)[i]?) := fun X hX i => (HP20.out.below hX HP20.out.lt).cell i
  rw [← hW4]
  clear hW4 HC1 HC2 HT1 HT3 HBW2 HBW4 HB3 HB1 HB HP18 HP18W HP20 HQ2 HQ1 HPW HBP HW4 HTB
  have HB0 : Hid (Below W4.heap.size W4 W4) := Below.refl _ _
  go_upto_region 4 with fail
  refine (writeC_any c HOK1.out (by have := HN1.out; omega) W4 (HTW.out _ HB0.out)).mono ?_
  rintro e x1 ⟨rfl, hb1⟩
  have HX1 := hidIn hb1
  have k0 := HGC.out x1 hb1 0
  have k1 := HGC.out x1 hb1 1
  have k2 := HGC.out x1 hb1 2
  have k3 := HGC.out x1 hb1 3
  simp at k0 k1 k2 k3
  clear hb1
  go_upto_region 5 with fail
  refine (refWriteC_any c HOK1.out (by have := HN1.out; omega) x1 _ (HCX.out x1 HX1.out)).mono ?_
  rintro e x2 ⟨rfl, hb2⟩
  have HX2 := hidIn (HX1.out.trans (hb2.mono HX1.out.size))
  clear hb2 k0 k1 k2 k3
  go_upto_region 6 with fail
  refine (writeO_any o HOK3.out (by have := HN3.out; omega) x2 (HTW.out _ HX2.out)).mono ?_
  rintro e x3 ⟨rfl, hb3⟩
  have HX3 := hidIn (HX2.out.trans (hb3.mono HX2.out.size))
  have k0 := HGO.out x3 HX3.out 0
  have k1 := HGO.out x3 HX3.out 1
  have k2 := HGO.out x3 HX3.out 2
  have k3 := HGO.out x3 HX3.out 3
  simp at k0 k1 k2 k3
  clear hb3
  go_upto_region 7 with fail
  refine (refWriteO_any o HOK3.out (by have := HN3.out; omega) x3 _ (HOX.out x3 HX3.out)).mono ?_
  rintro e x4 ⟨rfl, hb4⟩
  have HX4 := hidIn (HX3.out.trans (hb4.mono HX3.out.size))
  have HT4 := hidIn (HTW.out _ HX4.out)
  clear hb4 k0 k1 k2 k3
  generalize wTextC c = t1 at *
  generalize wErrC c = n1 at *
  generalize wText o = t2 at *
  generalize wErr o = n2 at *
  go_wp2_with fail
  refine (wakes6_any x4 HT4.out).mono ?_
  rintro e x5 ⟨rfl, hb5⟩
  go_wp2_with fail
  go_ret
  have h5 := HX4.out.trans (hb5.mono HX4.out.size)
  exact ⟨rfl, HW.out.trans (h5.mono HW.out.size)⟩

end Go.Proofs.YtagjbbdpenbcoaaDoor
