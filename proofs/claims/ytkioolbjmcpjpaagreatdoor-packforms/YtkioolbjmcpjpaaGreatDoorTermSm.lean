/- Whether two contracts are made alike: what package term answers. -/
import Derived.Test.YtkioolbjmcpjpaaGreatDoorTermSize
import Derived.Test.YtkioolbjmcpjpaaGreatDoorTermWalk
namespace Go.Proofs.YtkioolbjmcpjpaaGreatDoor
open Go.RowKit
set_option linter.unusedVariables false

def sameC : C → C → Bool
  | .zero, .zero => true
  | .one s, .one t => decide (s = t)
  | .give a, .give b => sameC a b
  | .and l r, .and x y => sameC l x && sameC r y
  | .or s l r, .or t x y => decide (s = t) && (sameC l x && sameC r y)
  | .scale o a, .scale p b => sameO o p && sameC a b
  | .when d a, .when e b => decide (d = e) && sameC a b
  | .iff o l r, .iff p x y => sameO o p && (sameC l x && sameC r y)
  | _, _ => false
def sameCL : List C → List C → Bool
  | a :: l, b :: m => sameC a b && sameCL l m
  | _, _ => true
theorem sameC_head (a b : C) (h : ¬ (a.kind = b.kind ∧ a.text = b.text ∧ a.day = b.day)) : sameC a b = false := by
  cases a <;> cases b <;> simp [sameC, C.kind, C.text, C.day] at h ⊢ <;> simp [h]
theorem sameC_none (a b : C) (h : a.kind = 0) : sameC a b = false := by
  cases a <;> simp [C.kind] at h
  cases b <;> rfl
theorem sameC_kids (a b : C) (h0 : a.kind ≠ 0) (h : a.kind = b.kind ∧ a.text = b.text ∧ a.day = b.day) : a.nums.length = b.nums.length ∧ a.kids.length = b.kids.length ∧ sameC a b = (sameL a.nums b.nums && sameCL a.kids b.kids) := by
  cases a <;> cases b <;> simp [sameC, sameL, sameCL, C.kids, C.nums, C.kind, C.text, C.day] at h h0 ⊢ <;> simp [h]
theorem sameCL_take (l m : List C) (i : Nat) (a b : C) (h1 : l[i]? = some a) (h2 : m[i]? = some b) : sameCL (l.take (i + 1)) (m.take (i + 1)) = (sameCL (l.take i) (m.take i) && sameC a b) := by
  induction l generalizing m i with
  | nil => simp at h1
  | cons x l ih =>
    cases m with
    | nil => simp at h2
    | cons y m =>
      cases i with
      | zero => simp at h1 h2; subst h1 h2; simp [sameCL]
      | succ i =>
        simp at h1 h2
        simp only [List.take_succ_cons, sameCL]
        rw [ih m i h1 h2, Bool.and_assoc]
theorem sameCL_no (l m : List C) (i : Nat) (a b : C) (h1 : l[i]? = some a) (h2 : m[i]? = some b) (h : sameC a b = false) : sameCL l m = false := by
  induction l generalizing m i with
  | nil => simp at h1
  | cons x l ih =>
    cases m with
    | nil => simp at h2
    | cons y m =>
      cases i with
      | zero => simp at h1 h2; subst h1 h2; simp [sameCL, h]
      | succ i =>
        simp at h1 h2
        simp [sameCL, ih m i h1 h2]
set_option maxHeartbeats 4000000 in
set_option maxRecDepth 100000 in
theorem sameT_any (a : C) : a.Ok → ∀ b : C, b.Ok → ∀ w : World, Calls Tryz.prog 72 #[a.val, b.val] w fun e w' => e = .returned (.bool (sameC a b)) ∧ Below w.heap.size w w' := by
  induction a using C.ind with
  | _ a ih =>
  intro hok b hokb w
  have HIH : Hid (∀ k ∈ a.kids, ∀ b : C, b.Ok → ∀ w : World, Calls Tryz.prog 72 #[k.val, b.val] w fun e w' => e = .returned (.bool (sameC k b)) ∧ Below w.heap.size w w') :=
    fun k hk => ih k hk (hok.kid hk)
  clear ih
  have h2 := a.kids_two
  have h1n := a.nums_one
  have HOB : Hid b.Ok := hokb
  have HOA : Hid a.Ok := hok
  go_enter Tryz.func72, Tryz.ntmps72
  go_wp2_with fail
  refine (openT_any a w hok).mono ?_
  rintro e w1 ⟨xa, xb, rfl, hn, hk, hna, hnb, hb1⟩
  have HN : Hid (HasObs w1 xa a.nums) := hn
  have HK : Hid (HasTerm w1 xb a.kids) := hk
  have HB1 : Hid (Below w.heap.size w w1) := hb1
  clear hn hk hok hb1 hna hnb
  unfold headT
  go_wp2_with fail
  refine (openT_any b _ hokb).mono ?_
  rintro e w2 ⟨ya, yb, rfl, hn, hk, hna, hnb, hb2⟩
  have HB2 : Hid (Below w1.heap.size w1 w2) := (below_alloc (Below.refl w1.heap.size w1) _).trans (hb2.mono (by simp))
  have HN2 : Hid (HasObs w2 ya b.nums) := hn
  have HK2 : Hid (HasTerm w2 yb b.kids) := hk
  have hbk : w2.heap[w1.heap.size]? = some (.cells #[.int .i64 a.kind, .string a.text, .int .i64 a.day] 209 (0, 0)) := (hb2.block _ (by simp)).trans (heap_alloc_new _ _)
  have hbk2 : (w2.alloc (.cells #[.int .i64 b.kind, .string b.text, .int .i64 b.day] 209)).heap[w1.heap.size]? = some (.cells #[.int .i64 a.kind, .string a.text, .int .i64 a.day] 209 (0, 0)) := heap_keeps hbk _
  have g0 := cell_of_row _ _ 0 _ _ _ hbk2
  have g1 := cell_of_row _ _ 1 _ _ _ hbk2
  have g2 := cell_of_row _ _ 2 _ _ _ hbk2
  rw [show (#[.int .i64 a.kind, .string a.text, .int .i64 a.day] : Array Value)[0]? = some (.int .i64 a.kind) from rfl] at g0
  rw [show (#[.int .i64 a.kind, .string a.text, .int .i64 a.day] : Array Value)[1]? = some (.string a.text) from rfl] at g1
  rw [show (#[.int .i64 a.kind, .string a.text, .int .i64 a.day] : Array Value)[2]? = some (.int .i64 a.day) from rfl] at g2
  clear hn hk hokb hb2 hbk hbk2 hna hnb
  unfold headT
  have HBW : Hid (∀ o, Below w.heap.size w (w2.alloc o)) := fun o => by
    have h := HB1.out.trans (HB2.out.mono HB1.out.size)
    exact h.alloc h.size o
  by_cases h0 : a.kind = 0
  · have HS : Hid (sameC a b = false) := sameC_none a b h0
    go_wp2_with fail
    go_ret
    exact ⟨by rw [HS.out]; rfl, HBW.out _⟩
  · have h0' : (a.kind == 0) = false := by simpa using h0
    by_cases hh : a.kind = b.kind ∧ a.text = b.text ∧ a.day = b.day
    · obtain ⟨hlen1, hlen, hsame⟩ := sameC_kids a b h0 hh
      have HS : Hid (sameC a b = (sameL a.nums b.nums && sameCL a.kids b.kids)) := hsame
      have HL : Hid (a.kids.length = b.kids.length) := hlen
      have HL1 : Hid (a.nums.length = b.nums.length) := hlen1
      obtain ⟨e1, e2, e3⟩ := hh
      have hlb : b.kids.length ≤ 2 := by omega
      have hlb1 : b.nums.length ≤ 1 := by omega
      have h0b : (b.kind == 0) = false := by rw [← e1]; exact h0'
      clear hsame hlen hlen1
      go_wp2_with fail
      go_loopw [37] (fun s37 wr => ∃ i : Nat, i ≤ a.nums.length ∧ s37 = .int .i64 i ∧ Hid (sameL (a.nums.take i) (b.nums.take i) = true) ∧ Below w2.heap.size w2 wr) (fun s37 _ => a.nums.length - (intOf s37).toNat)
      case atStart => exact ⟨0, by omega, rfl, rfl, below_alloc (Below.refl _ _) _⟩
      case round =>
        clear g0 g1 g2
        obtain ⟨i, hi, rfl, HA, hbr⟩ := hrel
        have HB3 : Hid (Below w.heap.size w wr) := by
          have h := HB1.out.trans (HB2.out.mono HB1.out.size)
          exact h.trans (hbr.mono h.size)
        by_cases hlt : i < a.nums.length
        · have hlt' : (i : Int) < (a.nums.length : Int) := by omega
          have hltb : i < b.nums.length := by have := HL1.out; omega
          have hltb' : (i : Int) < (b.nums.length : Int) := by omega
          obtain ⟨k, hki⟩ : ∃ k, a.nums[i]? = some k := ⟨_, List.getElem?_eq_getElem hlt⟩
          obtain ⟨m, hmi⟩ : ∃ m, b.nums[i]? = some m := ⟨_, List.getElem?_eq_getElem hltb⟩
          obtain ⟨p, rfl, hc⟩ := ((HN.out.below HB2.out).below hbr) i k hki
          obtain ⟨q, rfl, hcm⟩ := (HN2.out.below hbr) i m hmi
          have HOK : Hid k.Ok := HOA.out.num (List.mem_of_getElem? hki)
          have HOM : Hid m.Ok := HOB.out.num (List.mem_of_getElem? hmi)
          have HT : Hid (sameL (a.nums.take (i + 1)) (b.nums.take (i + 1)) = (sameL (a.nums.take i) (b.nums.take i) && sameO k m)) := sameL_take _ _ _ _ _ hki hmi
          have HNO : Hid (sameO k m = false → sameL a.nums b.nums = false) := sameL_no _ _ _ _ _ hki hmi
          clear hki hmi
          go_wp2_with fail
          refine (same_any k HOK.out m HOM.out wr).mono ?_
          rintro e w3 ⟨rfl, hb3⟩
          have HB4 : Hid (Below w2.heap.size w2 w3) := hbr.trans (hb3.mono hbr.size)
          have HB5 : Hid (Below w.heap.size w w3) := HB3.out.trans (hb3.mono HB3.out.size)
          clear hb3 hbr hc hcm
          cases hf : sameO k m
          · go_wp2_with fail
            go_ret
            exact ⟨ret_bool (by rw [HS.out, HNO.out hf, Bool.false_and]), HB5.out⟩
          · go_wp2_with fail
            go_roundw
            case rel => exact ⟨i + 1, by omega, by go_num, by unfold Hid; rw [HT.out, HA.out, hf]; rfl, HB4.out⟩
            case measure => simp [intOf]; omega
        · have hle : i = a.nums.length := by omega
          subst hle
          have HA1 : Hid (sameL a.nums b.nums = true) := by
            have h := HA.out
            rw [List.take_length, HL1.out, List.take_length] at h
            exact h
          clear HA hlt
          obtain ⟨wA, hwA⟩ : ∃ y, y = wr := ⟨_, rfl⟩
          subst hwA
          have HBA : Hid (Below w2.heap.size w2 wA) := hbr
          clear hbr HB3
          go_wp2_with fail
          go_loopw [52] (fun s52 wr => ∃ i : Nat, i ≤ a.kids.length ∧ s52 = .int .i64 i ∧ Hid (sameCL (a.kids.take i) (b.kids.take i) = true) ∧ Below w2.heap.size w2 wr) (fun s52 _ => a.kids.length - (intOf s52).toNat)
          case atStart => exact ⟨0, by omega, rfl, rfl, HBA.out⟩
          case round =>
            obtain ⟨i, hi, rfl, HA, hbr⟩ := hrel
            have HB3 : Hid (Below w.heap.size w wr) := by
              have h := HB1.out.trans (HB2.out.mono HB1.out.size)
              exact h.trans (hbr.mono h.size)
            by_cases hlt : i < a.kids.length
            · have hlt' : (i : Int) < (a.kids.length : Int) := by omega
              have hltb : i < b.kids.length := by have := HL.out; omega
              have hltb' : (i : Int) < (b.kids.length : Int) := by omega
              obtain ⟨k, hki⟩ : ∃ k, a.kids[i]? = some k := ⟨_, List.getElem?_eq_getElem hlt⟩
              obtain ⟨m, hmi⟩ : ∃ m, b.kids[i]? = some m := ⟨_, List.getElem?_eq_getElem hltb⟩
              obtain ⟨p, rfl, hc⟩ := ((HK.out.below HB2.out).below hbr) i k hki
              obtain ⟨q, rfl, hcm⟩ := (HK2.out.below hbr) i m hmi
              have HM : Hid (k ∈ a.kids) := List.mem_of_getElem? hki
              have HOM : Hid m.Ok := HOB.out.kid (List.mem_of_getElem? hmi)
              have HT : Hid (sameCL (a.kids.take (i + 1)) (b.kids.take (i + 1)) = (sameCL (a.kids.take i) (b.kids.take i) && sameC k m)) := sameCL_take _ _ _ _ _ hki hmi
              have HNO : Hid (sameC k m = false → sameCL a.kids b.kids = false) := sameCL_no _ _ _ _ _ hki hmi
              clear hki hmi
              go_wp2_with fail
              refine (HIH.out k HM.out m HOM.out wr).mono ?_
              rintro e w3 ⟨rfl, hb3⟩
              have HB4 : Hid (Below w2.heap.size w2 w3) := hbr.trans (hb3.mono hbr.size)
              have HB5 : Hid (Below w.heap.size w w3) := HB3.out.trans (hb3.mono HB3.out.size)
              clear hb3 hbr hc hcm
              cases hf : sameC k m
              · go_wp2_with fail
                go_ret
                exact ⟨ret_bool (by rw [HS.out, HNO.out hf, Bool.and_false]), HB5.out⟩
              · go_wp2_with fail
                go_roundw
                case rel => exact ⟨i + 1, by omega, by go_num, by unfold Hid; rw [HT.out, HA.out, hf]; rfl, HB4.out⟩
                case measure => simp [intOf]; omega
            · have hle : i = a.kids.length := by omega
              subst hle
              have HA2 : Hid (sameCL a.kids b.kids = true) := by
                have h := HA.out
                rw [List.take_length, HL.out, List.take_length] at h
                exact h
              clear HA
              go_wp2_with fail
              go_ret
              exact ⟨ret_bool (by rw [HS.out, HA1.out, HA2.out]; rfl), HB3.out⟩
    · have HS : Hid (sameC a b = false) := sameC_head a b hh
      by_cases e1 : a.kind = b.kind
      · have h0b : (b.kind == 0) = false := by rw [← e1]; exact h0'
        by_cases e2 : a.text = b.text
        · have e3 : ¬ a.day = b.day := fun e3 => hh ⟨e1, e2, e3⟩
          clear hh
          go_wp2_with fail
          go_ret
          exact ⟨ret_bool (by rw [HS.out]), HBW.out _⟩
        · have e2' : ¬ a.text.toList = b.text.toList := fun e => e2 (toList_inj e)
          clear hh
          go_wp2_with fail
          go_ret
          exact ⟨ret_bool (by rw [HS.out]), HBW.out _⟩
      · clear hh
        go_wp2_with fail
        go_ret
        exact ⟨ret_bool (by rw [HS.out]), HBW.out _⟩

end Go.Proofs.YtkioolbjmcpjpaaGreatDoor
