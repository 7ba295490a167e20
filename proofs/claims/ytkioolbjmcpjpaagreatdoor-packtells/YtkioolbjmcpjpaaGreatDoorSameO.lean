/- Whether two numbers are made alike: what package obs answers. -/
import Derived.Test.YtkioolbjmcpjpaaGreatDoorSize
namespace Go.Proofs.YtkioolbjmcpjpaaGreatDoor
open Go.RowKit
set_option linter.unusedVariables false

theorem toList_loop (b : ByteArray) : ∀ n i r, b.size - i = n → ByteArray.toList.loop b i r = r.reverse ++ b.data.toList.drop i := by
  have hs : b.data.toList.length = b.size := by simp
  intro n
  induction n with
  | zero =>
    intro i r h
    rw [ByteArray.toList.loop, if_neg (by omega), List.drop_eq_nil_of_le (by omega)]
    simp
  | succ n ih =>
    intro i r h
    have hi : i < b.size := by omega
    rw [ByteArray.toList.loop, if_pos hi, ih (i + 1) _ (by omega), List.drop_eq_getElem_cons (by omega : i < b.data.toList.length)]
    have hg : b.get! i = b.data.toList[i]'(by omega) := by
      cases b with
      | mk d => simp [ByteArray.get!]; exact getElem!_pos d i hi
    simp [hg]
theorem toList_inj {a b : ByteArray} (h : a.toList = b.toList) : a = b := by
  unfold ByteArray.toList at h
  rw [toList_loop a _ 0 [] rfl, toList_loop b _ 0 [] rfl] at h
  simp at h
  cases a; cases b
  simp at h
  rw [h]

def sameO : O → O → Bool
  | .const n, .const m => decide (n = m)
  | .fix s, .fix t => decide (s = t)
  | .add l r, .add x y => sameO l x && sameO r y
  | .neg o, .neg p => sameO o p
  | .mul l r, .mul x y => sameO l x && sameO r y
  | .max l r, .max x y => sameO l x && sameO r y
  | _, _ => false
def sameL : List O → List O → Bool
  | a :: l, b :: m => sameO a b && sameL l m
  | _, _ => true
theorem same_head (a b : O) (h : ¬ (a.kind = b.kind ∧ a.num = b.num ∧ a.name = b.name)) : sameO a b = false := by
  cases a <;> cases b <;> simp [sameO, O.kind, O.num, O.name] at h ⊢ <;> exact h
theorem same_none (a b : O) (h : a.kind = 0) : sameO a b = false := by
  cases a <;> simp [O.kind] at h
  cases b <;> rfl
theorem same_kids (a b : O) (h0 : a.kind ≠ 0) (h : a.kind = b.kind ∧ a.num = b.num ∧ a.name = b.name) : a.kids.length = b.kids.length ∧ sameO a b = sameL a.kids b.kids := by
  cases a <;> cases b <;> simp [sameO, sameL, O.kids, O.kind, O.num, O.name] at h h0 ⊢ <;> exact h
theorem sameL_take (l m : List O) (i : Nat) (a b : O) (h1 : l[i]? = some a) (h2 : m[i]? = some b) : sameL (l.take (i + 1)) (m.take (i + 1)) = (sameL (l.take i) (m.take i) && sameO a b) := by
  induction l generalizing m i with
  | nil => simp at h1
  | cons x l ih =>
    cases m with
    | nil => simp at h2
    | cons y m =>
      cases i with
      | zero => simp at h1 h2; subst h1 h2; simp [sameL]
      | succ i =>
        simp at h1 h2
        simp only [List.take_succ_cons, sameL]
        rw [ih m i h1 h2, Bool.and_assoc]
theorem sameL_no (l m : List O) (i : Nat) (a b : O) (h1 : l[i]? = some a) (h2 : m[i]? = some b) (h : sameO a b = false) : sameL l m = false := by
  induction l generalizing m i with
  | nil => simp at h1
  | cons x l ih =>
    cases m with
    | nil => simp at h2
    | cons y m =>
      cases i with
      | zero => simp at h1 h2; subst h1 h2; simp [sameL, h]
      | succ i =>
        simp at h1 h2
        simp [sameL, ih m i h1 h2]
set_option maxHeartbeats 2000000 in
set_option maxRecDepth 100000 in
theorem same_any (a : O) : a.Ok → ∀ b : O, b.Ok → ∀ w : World, Calls Tryz.prog 112 #[a.val, b.val] w fun e w' => e = .returned (.bool (sameO a b)) ∧ Below w.heap.size w w' := by
  induction a using O.ind with
  | _ a ih =>
  intro hok b hokb w
  have HIH : Hid (∀ k ∈ a.kids, ∀ b : O, b.Ok → ∀ w : World, Calls Tryz.prog 112 #[k.val, b.val] w fun e w' => e = .returned (.bool (sameO k b)) ∧ Below w.heap.size w w') :=
    fun k hk => ih k hk (hok.kid hk)
  clear ih
  have h2 := kids_two a
  have HOB : Hid b.Ok := hokb
  go_enter Tryz.func112, Tryz.ntmps112
  go_wp2_with fail
  refine (open_any a w hok).mono ?_
  rintro e w1 ⟨x, rfl, hk, hn, hb1⟩
  have HK : Hid (HasObs w1 x a.kids) := hk
  have HB1 : Hid (Below w.heap.size w w1) := hb1
  clear hn hk hok hb1
  unfold headV
  go_wp2_with fail
  refine (open_any b _ hokb).mono ?_
  rintro e w2 ⟨y, rfl, hk, hn, hb2⟩
  have HB2 : Hid (Below w1.heap.size w1 w2) := (below_alloc (Below.refl w1.heap.size w1) _).trans (hb2.mono (by simp))
  have HK2 : Hid (HasObs w2 y b.kids) := hk
  have hbk : w2.heap[w1.heap.size]? = some (.cells #[.int .i64 a.kind, .int .i64 a.num, .string a.name] 262 (0, 0)) := (hb2.block _ (by simp)).trans (heap_alloc_new _ _)
  have hbk2 : (w2.alloc (.cells #[.int .i64 b.kind, .int .i64 b.num, .string b.name] 262)).heap[w1.heap.size]? = some (.cells #[.int .i64 a.kind, .int .i64 a.num, .string a.name] 262 (0, 0)) := heap_keeps hbk _
  have g0 := cell_of_row _ _ 0 _ _ _ hbk2
  have g1 := cell_of_row _ _ 1 _ _ _ hbk2
  have g2 := cell_of_row _ _ 2 _ _ _ hbk2
  rw [show (#[.int .i64 a.kind, .int .i64 a.num, .string a.name] : Array Value)[0]? = some (.int .i64 a.kind) from rfl] at g0
  rw [show (#[.int .i64 a.kind, .int .i64 a.num, .string a.name] : Array Value)[1]? = some (.int .i64 a.num) from rfl] at g1
  rw [show (#[.int .i64 a.kind, .int .i64 a.num, .string a.name] : Array Value)[2]? = some (.string a.name) from rfl] at g2
  clear hn hk hokb hb2 hbk hbk2
  unfold headV
  have HBW : Hid (∀ o, Below w.heap.size w (w2.alloc o)) := fun o => by
    have h := HB1.out.trans (HB2.out.mono HB1.out.size)
    exact h.alloc h.size o
  by_cases h0 : a.kind = 0
  · have HS : Hid (sameO a b = false) := same_none a b h0
    go_wp2_with fail
    go_ret
    exact ⟨by rw [HS.out]; rfl, HBW.out _⟩
  · have h0' : (a.kind == 0) = false := by simpa using h0
    by_cases hh : a.kind = b.kind ∧ a.num = b.num ∧ a.name = b.name
    · obtain ⟨hlen, hsame⟩ := same_kids a b h0 hh
      have HS : Hid (sameO a b = sameL a.kids b.kids) := hsame
      have HL : Hid (a.kids.length = b.kids.length) := hlen
      obtain ⟨e1, e2, e3⟩ := hh
      have hlb : b.kids.length ≤ 2 := by omega
      have h0b : (b.kind == 0) = false := by rw [← e1]; exact h0'
      clear hsame hlen
      go_wp2_with fail
      go_loopw [31] (fun s31 wr => ∃ i : Nat, i ≤ a.kids.length ∧ s31 = .int .i64 i ∧ Hid (sameL (a.kids.take i) (b.kids.take i) = true) ∧ Below w2.heap.size w2 wr) (fun s31 _ => a.kids.length - (intOf s31).toNat)
      case atStart => exact ⟨0, by omega, rfl, rfl, below_alloc (Below.refl _ _) _⟩
      case round =>
        clear g0 g1 g2
        obtain ⟨i, hi, rfl, HA, hbr⟩ := hrel
        have HB3 : Hid (Below w.heap.size w wr) := by
          have h := HB1.out.trans (HB2.out.mono HB1.out.size)
          exact h.trans (hbr.mono h.size)
        by_cases hlt : i < a.kids.length
        · have hlt' : (i : Int) < (a.kids.length : Int) := by omega
          have hltb : i < b.kids.length := by have := HL.out; omega
          have hltb' : (i : Int) < (b.kids.length : Int) := by omega
          obtain ⟨k, hki⟩ : ∃ k, a.kids[i]? = some k := ⟨_, List.getElem?_eq_getElem hlt⟩
          obtain ⟨m, hmi⟩ : ∃ m, b.kids[i]? = some m := ⟨_, List.getElem?_eq_getElem hltb⟩
          obtain ⟨p, rfl, hc⟩ := ((HK.out.below HB2.out).below hbr) i k hki
          obtain ⟨q, rfl, hcm⟩ := (HK2.out.below hbr) i m hmi
          have HM : Hid (k ∈ a.kids) := List.mem_of_getElem? hki
          have HOM : Hid m.Ok := HOB.out.kid (List.mem_of_getElem? hmi)
          have HT : Hid (sameL (a.kids.take (i + 1)) (b.kids.take (i + 1)) = (sameL (a.kids.take i) (b.kids.take i) && sameO k m)) := sameL_take _ _ _ _ _ hki hmi
          have HNO : Hid (sameO k m = false → sameL a.kids b.kids = false) := sameL_no _ _ _ _ _ hki hmi
          clear hki hmi
          go_wp2_with fail
          refine (HIH.out k HM.out m HOM.out wr).mono ?_
          rintro e w3 ⟨rfl, hb3⟩
          have HB4 : Hid (Below w2.heap.size w2 w3) := hbr.trans (hb3.mono hbr.size)
          have HB5 : Hid (Below w.heap.size w w3) := HB3.out.trans (hb3.mono HB3.out.size)
          clear hb3 hbr hc hcm
          cases hf : sameO k m
          · go_wp2_with fail
            go_ret
            exact ⟨ret_bool (by rw [HS.out, HNO.out hf]), HB5.out⟩
          · go_wp2_with fail
            go_roundw
            case rel => exact ⟨i + 1, by omega, by go_num, by unfold Hid; rw [HT.out, HA.out, hf]; rfl, HB4.out⟩
            case measure => simp [intOf]; omega
        · have hle : i = a.kids.length := by omega
          subst hle
          have HA2 : Hid (sameL a.kids b.kids = true) := by
            have h := HA.out
            rw [List.take_length, HL.out, List.take_length] at h
            exact h
          clear HA
          go_wp2_with fail
          go_ret
          exact ⟨ret_bool (by rw [HS.out, HA2.out]), HB3.out⟩
    · have HS : Hid (sameO a b = false) := same_head a b hh
      by_cases e1 : a.kind = b.kind
      · by_cases e2 : a.num = b.num
        · have e3 : ¬ a.name = b.name := fun e3 => hh ⟨e1, e2, e3⟩
          have e3' : ¬ a.name.toList = b.name.toList := fun e => e3 (toList_inj e)
          have h0b : (b.kind == 0) = false := by rw [← e1]; exact h0'
          clear hh
          go_wp2_with fail
          go_ret
          exact ⟨ret_bool (by rw [HS.out]), HBW.out _⟩
        · clear hh
          go_wp2_with fail
          go_ret
          exact ⟨ret_bool (by rw [HS.out]), HBW.out _⟩
      · clear hh
        go_wp2_with fail
        go_ret
        exact ⟨ret_bool (by rw [HS.out]), HBW.out _⟩

end Go.Proofs.YtkioolbjmcpjpaaGreatDoor
