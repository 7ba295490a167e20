/- What is written as bytes is read as that rune. -/
import Derived.Test.YtfmjjfpajohihaaGreatDoorRun2
import Derived.Test.YtfmjjfpajohihaaGreatDoorNames
import Derived.Test.YtfmjjfpajohihaaGreatDoorTermForm
import Derived.Test.YtfmjjfpajohihaaGreatDoorMakerObs
import Derived.Lib.ItoaLen
import Derived.Test.YtfmjjfpajohihaaGreatDoorObs
import Derived.Test.YtfmjjfpajohihaaGreatDoorShelf
namespace Go.Proofs.YtfmjjfpajohihaaGreatDoor.Rn
open Go.RowKit
set_option linter.unusedVariables false

theorem get_mk (l : List UInt8) (k : Nat) : (ByteArray.mk l.toArray).get! k = l.getD k 0 := by
  simp [ByteArray.get!, getElem!_def, List.getD]
  rfl
theorem mk_toList (s : ByteArray) : s = ByteArray.mk s.data.toList.toArray := by simp
theorem append_mk (l : List UInt8) (t : ByteArray) : ByteArray.mk l.toArray ++ t = ByteArray.mk (l ++ t.data.toList).toArray := by
  conv => lhs; rw [mk_toList t]
  rw [ByteArray.mk_append_mk]
theorem size_mk (l : List UInt8) : (ByteArray.mk l.toArray).size = l.length := by
  show l.toArray.size = l.length
  simp
theorem get_append (a t : ByteArray) (j : Nat) : (a ++ t).get! (a.size + j) = t.get! j := by
  have h1 : a ++ t = ByteArray.mk (a.data.toList ++ t.data.toList).toArray := by
    conv => lhs; rw [mk_toList a]
    rw [append_mk]
  have h2 : t = ByteArray.mk t.data.toList.toArray := mk_toList t
  rw [h1, get_mk]
  conv => rhs; rw [h2, get_mk]
  have hs : a.size = a.data.toList.length := by simp
  rw [hs]
  simp [List.getD, List.getElem?_append_right]
theorem decode_append (a t : ByteArray) (i : Nat) : Utf8.decode (a ++ t) (a.size + i) = Utf8.decode t i := by
  have hs : ∀ k, (a.size + i + k < (a ++ t).size) = (i + k < t.size) := by
    intro k; rw [ByteArray.size_append]; apply propext; omega
  simp only [Utf8.decode, Nat.add_assoc, get_append]
  simp only [← Nat.add_assoc, hs]
theorem rest_append (a t : ByteArray) (i : Nat) : rest (a ++ t) (a.size + i) = rest t i := by
  have key : ∀ f i, decs (a ++ t) f (a.size + i) = decs t f i := by
    intro f
    induction f with
    | zero => intro i; rfl
    | succ f ih =>
      intro i
      simp only [decs, decode_append]
      rw [Nat.add_assoc, ih]
      by_cases h : i < t.size
      · rw [if_pos h, if_pos (by rw [ByteArray.size_append]; omega)]
      · rw [if_neg h, if_neg (by rw [ByteArray.size_append]; omega)]
  unfold rest
  rw [key, ByteArray.size_append, show a.size + t.size - (a.size + i) = t.size - i by omega]
theorem decode_encode (r : Int) (t : ByteArray) (hv : Utf8.valid r = true) : Utf8.decode (Utf8.encode r ++ t) 0 = (r.toNat, (Utf8.encode r).size) := by
  have hb : (0 ≤ r ∧ r < 55296) ∨ (57344 ≤ r ∧ r ≤ 1114111) := by
    simpa [Utf8.valid] using hv
  have hc : ∀ n : Nat, n < 256 → (UInt8.ofNat n).toNat = n := by intro n h; simp; omega
  unfold Utf8.encode
  simp only [hv, if_true]
  by_cases h1 : r.toNat < 128
  · simp only [h1, if_true]
    rw [show (#[UInt8.ofNat r.toNat] : Array UInt8) = [UInt8.ofNat r.toNat].toArray from rfl, append_mk]
    simp only [Utf8.decode, get_mk]
    simp only [Nat.add_zero, List.cons_append, List.getD_cons_zero]
    rw [hc _ (by omega), if_pos h1]
    rfl
  simp only [h1, if_false]
  by_cases h2 : r.toNat < 2048
  · simp only [h2, if_true]
    rw [show (#[UInt8.ofNat (192 + r.toNat / 64), UInt8.ofNat (128 + r.toNat % 64)] : Array UInt8) = [UInt8.ofNat (192 + r.toNat / 64), UInt8.ofNat (128 + r.toNat % 64)].toArray from rfl, append_mk]
    simp only [Utf8.decode, get_mk]
    simp only [Nat.add_zero, List.cons_append, List.getD_cons_zero, Nat.zero_add, List.getD_cons_succ, List.nil_append]
    rw [hc _ (by omega), hc _ (by omega)]
    rw [if_neg (by omega)]
    rw [if_pos (by simp [size_mk]; omega)]
    rw [if_pos (by omega)]
    refine Prod.ext ?_ rfl
    show (192 + r.toNat / 64) % 32 * 64 + (128 + r.toNat % 64) % 64 = r.toNat
    omega
  simp only [h2, if_false]
  by_cases h3 : r.toNat < 65536
  · simp only [h3, if_true]
    rw [show (#[UInt8.ofNat (224 + r.toNat / 4096), UInt8.ofNat (128 + r.toNat / 64 % 64), UInt8.ofNat (128 + r.toNat % 64)] : Array UInt8) = [UInt8.ofNat (224 + r.toNat / 4096), UInt8.ofNat (128 + r.toNat / 64 % 64), UInt8.ofNat (128 + r.toNat % 64)].toArray from rfl, append_mk]
    simp only [Utf8.decode, get_mk]
    simp only [Nat.add_zero, List.cons_append, List.getD_cons_zero, Nat.zero_add, List.getD_cons_succ, List.nil_append]
    rw [hc _ (by omega), hc _ (by omega), hc _ (by omega)]
    have hval : (224 + r.toNat / 4096) % 16 * 4096 + (128 + r.toNat / 64 % 64) % 64 * 64 + (128 + r.toNat % 64) % 64 = r.toNat := by omega
    rw [hval]
    rw [if_neg (by omega)]
    rw [if_neg (by simp; omega)]
    rw [if_pos (by simp [size_mk]; omega)]
    rw [if_pos (by rw [Int.toNat_of_nonneg (by omega), hv]; simp; omega)]
    rfl
  · simp only [h3, if_false]
    rw [show (#[UInt8.ofNat (240 + r.toNat / 262144), UInt8.ofNat (128 + r.toNat / 4096 % 64), UInt8.ofNat (128 + r.toNat / 64 % 64), UInt8.ofNat (128 + r.toNat % 64)] : Array UInt8) = [UInt8.ofNat (240 + r.toNat / 262144), UInt8.ofNat (128 + r.toNat / 4096 % 64), UInt8.ofNat (128 + r.toNat / 64 % 64), UInt8.ofNat (128 + r.toNat % 64)].toArray from rfl, append_mk]
    simp only [Utf8.decode, get_mk]
    simp only [Nat.add_zero, List.cons_append, List.getD_cons_zero, Nat.zero_add, List.getD_cons_succ, List.nil_append]
    rw [hc _ (by omega), hc _ (by omega), hc _ (by omega), hc _ (by omega)]
    have hval : (240 + r.toNat / 262144) % 8 * 262144 + (128 + r.toNat / 4096 % 64) % 64 * 4096 + (128 + r.toNat / 64 % 64) % 64 * 64 + (128 + r.toNat % 64) % 64 = r.toNat := by omega
    rw [hval]
    rw [if_neg (by omega)]
    rw [if_neg (by simp; omega)]
    rw [if_neg (by simp; omega)]
    rw [if_pos (by simp [size_mk]; omega)]
    rw [if_pos (by rw [Int.toNat_of_nonneg (by omega), hv]; simp; omega)]
    rfl
theorem encode_size (r : Int) : 1 ≤ (Utf8.encode r).size ∧ (Utf8.encode r).size ≤ 4 := by
  unfold Utf8.encode
  generalize (if Utf8.valid r = true then r.toNat else Utf8.runeError) = c
  simp only []
  repeat' split
  all_goals exact ⟨Nat.le_of_ble_eq_true rfl, Nat.le_of_ble_eq_true rfl⟩
theorem runesOf_encode (r : Int) (t : ByteArray) (hv : Utf8.valid r = true) : runesOf (Utf8.encode r ++ t) = r :: runesOf t := by
  have hsz := encode_size r
  have h0 : (0 : Int) ≤ r := by
    have : (0 ≤ r ∧ r < 55296) ∨ (57344 ≤ r ∧ r ≤ 1114111) := by simpa [Utf8.valid] using hv
    omega
  unfold runesOf
  rw [rest_step _ 0 (by rw [ByteArray.size_append]; omega), decode_encode r t hv]
  simp only [Nat.zero_add]
  rw [show (Utf8.encode r).size = (Utf8.encode r).size + 0 from rfl, rest_append, Int.toNat_of_nonneg h0]
theorem runesBytes_cons (r : Int) (rs : List Int) : runesBytes (r :: rs) = Utf8.encode r ++ runesBytes rs := by
  have key : ∀ (l : List Int) (a : ByteArray), l.foldl (fun r n => r ++ Utf8.encode n) a = a ++ l.foldl (fun r n => r ++ Utf8.encode n) ByteArray.empty := by
    intro l
    induction l with
    | nil => intro a; simp
    | cons b l ih =>
      intro a
      simp only [List.foldl_cons]
      rw [ih, ih (ByteArray.empty ++ Utf8.encode b)]
      simp [ByteArray.append_assoc]
  unfold runesBytes
  rw [List.foldl_cons, key]
  simp
theorem runesBytes_append (a b : List Int) : runesBytes (a ++ b) = runesBytes a ++ runesBytes b := by
  induction a with
  | nil => simp [runesBytes]
  | cons r a ih => rw [List.cons_append, runesBytes_cons, runesBytes_cons, ih, ByteArray.append_assoc]
theorem runesBytes_one (r : Int) : runesBytes [r] = Utf8.encode r := by simp [runesBytes]
theorem runesOf_bytes (rs : List Int) (t : ByteArray) (hv : ∀ r ∈ rs, Utf8.valid r = true) : runesOf (runesBytes rs ++ t) = rs ++ runesOf t := by
  induction rs with
  | nil => simp [runesBytes]
  | cons r rs ih =>
    rw [runesBytes_cons, ByteArray.append_assoc, runesOf_encode r _ (hv r (by simp)), ih (fun x hx => hv x (by simp [hx]))]
    rfl
theorem runesOf_all (rs : List Int) (hv : ∀ r ∈ rs, Utf8.valid r = true) : runesOf (runesBytes rs) = rs := by
  have := runesOf_bytes rs ByteArray.empty hv
  simpa [runesOf, rest, decs] using this
def okPair (x : Nat × Nat) : Prop := Utf8.valid (x.1 : Int) = true
theorem okPair_ite {c : Prop} [Decidable c] {a b : Nat × Nat} (h1 : c → okPair a) (h2 : ¬ c → okPair b) : okPair (if c then a else b) := by
  by_cases h : c
  · rw [if_pos h]; exact h1 h
  · rw [if_neg h]; exact h2 h
theorem okPair_err (n : Nat) : okPair (Utf8.runeError, n) := by
  show Utf8.valid ((Utf8.runeError : Nat) : Int) = true
  decide
theorem okPair_small (n m : Nat) (h : n < 55296) : okPair (n, m) := by
  show Utf8.valid (n : Int) = true
  simp only [Utf8.valid, Bool.or_eq_true, Bool.and_eq_true, decide_eq_true_eq]
  left; omega
theorem okPair_valid (n m : Nat) (k : Nat) (h : (decide (n ≥ k) && Utf8.valid (n : Int)) = true) : okPair (n, m) := by
  rw [Bool.and_eq_true] at h; exact h.2
theorem decode_valid (s : ByteArray) (pos : Nat) : Utf8.valid ((Utf8.decode s pos).1 : Int) = true := by
  show okPair (Utf8.decode s pos)
  unfold Utf8.decode
  refine okPair_ite (fun h => okPair_small _ _ (by omega)) (fun _ => ?_)
  refine okPair_ite (fun _ => okPair_ite (fun _ => okPair_small _ _ ?_) (fun _ => okPair_err _)) (fun _ => ?_)
  · have h1 := Nat.mod_lt (s.get! (pos + 0)).toNat (show 32 > 0 by decide)
    have h2 := Nat.mod_lt (s.get! (pos + 1)).toNat (show 64 > 0 by decide)
    omega
  refine okPair_ite (fun _ => okPair_ite (fun h => okPair_valid _ _ _ h) (fun _ => okPair_err _)) (fun _ => ?_)
  exact okPair_ite (fun _ => okPair_ite (fun h => okPair_valid _ _ _ h) (fun _ => okPair_err _)) (fun _ => okPair_err _)
theorem rest_valid (s : ByteArray) (pos : Nat) : ∀ r ∈ rest s pos, Utf8.valid r = true := by
  have key : ∀ f p, ∀ r ∈ decs s f p, Utf8.valid r = true := by
    intro f
    induction f with
    | zero => intro p r hr; simp [decs] at hr
    | succ f ih =>
      intro p r hr
      unfold decs at hr
      split at hr
      · rcases List.mem_cons.1 hr with rfl | h
        · exact decode_valid s p
        · exact ih _ r h
      · simp at hr
  exact key _ _

end Go.Proofs.YtfmjjfpajohihaaGreatDoor.Rn
namespace Go.Proofs.YtfmjjfpajohihaaGreatDoor
open Go.RowKit
set_option linter.unusedVariables false

theorem get_list (s : ByteArray) (i : Nat) (h : i < s.size) : s.data.toList[i]? = some (s.get! i) := by
  have h' : i < s.data.toList.length := by simpa using h
  rw [List.getElem?_eq_getElem h']
  simp [ByteArray.get!, getElem!_def]
  rw [Array.getElem?_eq_getElem (by simpa using h)]
theorem dt_cons (s : ByteArray) (i : Nat) (h : i < s.size) : s.data.toList.drop i = s.get! i :: s.data.toList.drop (i + 1) := by
  have h' : i < s.data.toList.length := by simpa using h
  have hg := get_list s i h
  rw [List.getElem?_eq_getElem h'] at hg
  rw [List.drop_eq_getElem_cons h', Option.some.inj hg]
theorem of_toNat {n : Nat} {x : UInt8} (h : n = x.toNat) : UInt8.ofNat n = x := by rw [h]; simp
theorem enc_dec (s : ByteArray) (i : Nat) (h : i < s.size) (hv : (Utf8.decode s i).1 ≠ 65533) : (Utf8.encode ((Utf8.decode s i).1 : Int)).data.toList = (s.data.toList.drop i).take (Utf8.decode s i).2 := by
  have k0 := (s.get! i).toNat_lt
  have k1 := (s.get! (i + 1)).toNat_lt
  have k2 := (s.get! (i + 2)).toNat_lt
  have k3 := (s.get! (i + 3)).toNat_lt
  rw [dt_cons s i h]
  unfold Utf8.decode at hv ⊢
  simp only [Nat.add_zero] at hv ⊢
  split
  · rename_i h0
    have hval : Utf8.valid ((s.get! i).toNat : Int) = true := by simp [Utf8.valid]; omega
    simp only [Utf8.encode, hval, if_true, Int.toNat_natCast]
    rw [if_pos h0, of_toNat rfl]
    simp
  · rename_i h0
    rw [if_neg h0] at hv
    split
    · rename_i hc
      rw [if_pos hc] at hv
      simp only [Bool.and_eq_true, decide_eq_true_eq, beq_iff_eq] at hc
      split
      · rename_i h2
        have hc2 : (s.get! i).toNat % 32 * 64 + (s.get! (i + 1)).toNat % 64 < 2048 := by omega
        have hval : Utf8.valid (((s.get! i).toNat % 32 * 64 + (s.get! (i + 1)).toNat % 64 : Nat) : Int) = true := by simp [Utf8.valid]; omega
        simp only [Utf8.encode, hval, if_true, Int.toNat_natCast]
        rw [if_neg (by omega), if_pos hc2, of_toNat (x := s.get! i) (by omega), of_toNat (x := s.get! (i + 1)) (by omega), dt_cons s (i + 1) (by omega)]
        simp
      · rename_i h2
        rw [if_neg h2] at hv
        exact absurd rfl hv
    · rename_i hc1
      rw [if_neg hc1] at hv
      split
      · rename_i hc
        rw [if_pos hc] at hv
        simp only [Bool.and_eq_true, decide_eq_true_eq, beq_iff_eq] at hc
        split
        · rename_i h2
          simp only [Bool.and_eq_true, decide_eq_true_eq] at h2
          have hval := h2.2
          have hc3 : (s.get! i).toNat % 16 * 4096 + (s.get! (i + 1)).toNat % 64 * 64 + (s.get! (i + 2)).toNat % 64 < 65536 := by omega
          simp only [Utf8.encode, hval, if_true, Int.toNat_natCast]
          rw [if_neg (by omega), if_neg (by omega), if_pos hc3, of_toNat (x := s.get! i) (by omega), of_toNat (x := s.get! (i + 1)) (by omega), of_toNat (x := s.get! (i + 2)) (by omega), dt_cons s (i + 1) (by omega), dt_cons s (i + 2) (by omega)]
          simp
        · rename_i h2
          rw [if_neg h2] at hv
          exact absurd rfl hv
      · rename_i hc2
        rw [if_neg hc2] at hv
        split
        · rename_i hc
          rw [if_pos hc] at hv
          simp only [Bool.and_eq_true, decide_eq_true_eq, beq_iff_eq] at hc
          split
          · rename_i h2
            simp only [Bool.and_eq_true, decide_eq_true_eq] at h2
            have hval := h2.2
            simp only [Utf8.encode, hval, if_true, Int.toNat_natCast]
            rw [if_neg (by omega), if_neg (by omega), if_neg (by omega), of_toNat (x := s.get! i) (by omega), of_toNat (x := s.get! (i + 1)) (by omega), of_toNat (x := s.get! (i + 2)) (by omega), of_toNat (x := s.get! (i + 3)) (by omega), dt_cons s (i + 1) (by omega), dt_cons s (i + 2) (by omega), dt_cons s (i + 3) (by omega)]
            simp
          · rename_i h2
            rw [if_neg h2] at hv
            exact absurd rfl hv
        · rename_i hc3
          rw [if_neg hc3] at hv
          exact absurd rfl hv
/-- A text without a rune that is none is the bytes of its runes. -/
theorem round_at (s : ByteArray) : ∀ d pos, s.size = pos + d → (∀ r ∈ rest s pos, r ≠ 65533) → (runesBytes (rest s pos)).data.toList = s.data.toList.drop pos := by
  intro d
  induction d using Nat.strongRecOn with
  | _ d ih =>
    intro pos hd hv
    by_cases h : pos < s.size
    · rw [rest_step s pos h] at hv ⊢
      have h1 := enc_dec s pos h (by have := hv _ List.mem_cons_self; omega)
      have h2 := width_pos s pos h
      rw [Rn.runesBytes_cons]
      simp only [ByteArray.data_append, Array.toList_append]
      rw [h1]
      by_cases hw : pos + (Utf8.decode s pos).2 ≤ s.size
      · rw [ih (d - (Utf8.decode s pos).2) (by omega) (pos + (Utf8.decode s pos).2) (by omega) (fun r hr => hv r (List.mem_cons_of_mem _ hr))]
        rw [← List.drop_drop, List.take_append_drop]
      · rw [rest_end s _ (by omega)]
        have hle : (s.data.toList.drop pos).length ≤ (Utf8.decode s pos).2 := by simp; omega
        rw [List.take_of_length_le hle]
        simp [runesBytes]
    · rw [rest_end s pos h]
      have hle : s.data.toList.length ≤ pos := by simp; omega
      rw [List.drop_eq_nil_of_le hle]
      simp [runesBytes]
theorem let_ne (r : Int) (h : letB r = true) : r ≠ 65533 := by
  intro e
  subst e
  exact absurd h (by decide)

end Go.Proofs.YtfmjjfpajohihaaGreatDoor
namespace Go.Proofs.YtfmjjfpajohihaaGreatDoor
open Go.RowKit
set_option linter.unusedVariables false

theorem below_drewN {B : Nat} {w w' : World} (h : Below B w w') (n : Nat) : Below B w (w'.drewN n) := ⟨h.os, h.tape, h.output, h.size, h.block⟩
theorem own_str {w : World} {B : Nat} {v : Value} {l : List ByteArray} (h : w.ownsRow B 9 1 v l.length (strCells l)) : ∃ ao cap, v = .slice ao l.length cap ∧ (∀ k (hk : k < l.length), ∃ g, ao = some ⟨g, 0, none⟩ ∧ g < w.heap.size ∧ w.cell? ⟨g, k, none⟩ = some (.string l[k])) ∧ l.length ≤ 9223372036854775807 := by
  rcases h.2 with ⟨rfl, h0⟩ | ⟨g, cap, cur, rfl, hb, hg, hnc, hcm, _⟩
  · exact ⟨none, 0, by rw [h0], fun k hk => by omega, by omega⟩
  · refine ⟨some ⟨g, 0, none⟩, cap, rfl, fun k hk => ⟨g, rfl, (Array.getElem?_eq_some_iff.1 hg).1, ?_⟩, by unfold maxLen at hcm; omega⟩
    rw [h.cellAt k (by omega)]
    simp [strCells, hk]

end Go.Proofs.YtfmjjfpajohihaaGreatDoor
namespace Go.Proofs.YtfmjjfpajohihaaGreatDoor
open Go.RowKit Go.Maps
set_option linter.unusedVariables false

def labStep (st : List ByteArray) (c : C) : List ByteArray := if c.kind = 5 then st ++ [c.text] else st
/-- The labels of a contract's Ors, in the order of a walk. -/
def C.labels : C → List ByteArray
  | .give c => c.labels
  | .and l r => l.labels ++ r.labels
  | .or s l r => s :: (l.labels ++ r.labels)
  | .scale _ c => c.labels
  | .when _ c => c.labels
  | .iff _ l r => l.labels ++ r.labels
  | _ => []
theorem labels_fold (c : C) : ∀ st, c.pre.foldl labStep st = st ++ c.labels := by
  induction c <;> intro st <;> simp_all [C.pre, labStep, C.kind, C.text, C.labels]
theorem labels_ok (c : C) (h : c.Ok) : ∀ s ∈ c.labels, s.size ≤ 2147483648 := by
  induction c with
  | give c ih => exact ih h
  | and l r h1 h2 => intro s hs; simp only [C.labels, List.mem_append] at hs; rcases hs with hs | hs; exact h1 h.1 s hs; exact h2 h.2 s hs
  | or t l r h1 h2 =>
    intro s hs
    simp only [C.labels, List.mem_cons, List.mem_append] at hs
    rcases hs with rfl | hs | hs
    · exact h.1
    · exact h1 h.2.1 s hs
    · exact h2 h.2.2 s hs
  | scale o c ih => exact ih h.2
  | when d c ih => exact ih h.2
  | iff o l r h1 h2 => intro s hs; simp only [C.labels, List.mem_append] at hs; rcases hs with hs | hs; exact h1 h.2.1 s hs; exact h2 h.2.2 s hs
  | _ => intro s hs; simp [C.labels] at hs
theorem labels_weight (c : C) : c.labels.length ≤ c.weight := by
  induction c <;> simp [C.labels, C.weight] <;> omega

/-- What is kept while labels are gathered. -/
def LabInv (V : Nat) (own : Nat → Prop) (st : List ByteArray) (w : World) : Prop :=
  ∃ v, own = (fun k => k = V ∨ v.ownBlock = some k) ∧ w.heap[V]? = some (.cells #[v] 23 (0, 0)) ∧ w.ownsRow (V + 1) 9 1 v st.length (strCells st)
theorem cell_one_in {w : World} {b : Nat} (hb : b = w.heap.size) (x : Value) (t : TypeId) : ∀ j u, [x][j]? = some u → (w.alloc (.cells #[x] t)).cell? ((⟨b, 0, none⟩ : Addr).add j) = some u := by
  subst hb
  exact cell_one_at w x t
theorem own_shape {w : World} {B e size n : Nat} {v : Value} {xs : List Value} (h : w.ownsRow B e size v n xs) : ∃ ao cap, v = .slice ao n cap := by
  rcases h.2 with ⟨rfl, h0⟩ | ⟨g, cap, cur, rfl, _⟩
  · exact ⟨none, 0, by rw [h0]⟩
  · exact ⟨_, _, rfl⟩
theorem own_slice {w : World} {B : Nat} {v : Value} {l : List ByteArray} (h : w.ownsRow B 9 1 v l.length (strCells l)) : ∃ ao cap, v = .slice ao l.length cap := by
  obtain ⟨ao, cap, e, _⟩ := own_str h
  exact ⟨ao, cap, e⟩

set_option maxHeartbeats 1000000 in
set_option maxRecDepth 100000 in
theorem labels1_any (V : Nat) : Shows 73 #[.pointer (some ⟨V, 0, none⟩)] (LabInv V) labStep List.length := by
  refine ⟨enters_of Tryz.func73 (by kernel_rfl) rfl, ?_, ?_, ?_, ?_⟩
  · rintro own st w w' ⟨v, h1, h2, h3⟩ hb
    exact ⟨v, h1, (hb.block V (Array.getElem?_eq_some_iff.1 h2).1).trans h2, h3.kept (grown_of_below hb none) (by cases hv : v.ownBlock <;> simp)⟩
  · rintro own st w ⟨v, h1, h2, h3⟩ b hb
    subst h1
    rcases hb with rfl | hb
    · exact (Array.getElem?_eq_some_iff.1 h2).1
    · exact (h3.lt b hb).2
  · intro st c
    unfold labStep
    split <;> simp [C.own]
  · rintro own st w c a ⟨v, rfl, h2, h3⟩ hok hn hna hsz
    obtain ⟨i0, gi, gz0, gz1, gz2⟩ := info_parts infoStr
    have HLT := hidIn (Array.getElem?_eq_some_iff.1 h2).1
    have HV := hidIn h2
    show Calls Tryz.prog 73 #[headT c, .slice a c.nums.length c.nums.length, .pointer (some ⟨V, 0, none⟩)] w _
    clear hn hna
    unfold headT
    by_cases hk : c.kind = 5
    · have HST : Hid (labStep st c = st ++ [c.text]) := by unfold Hid labStep; rw [if_pos hk]
      have hsl : st.length ≤ 1000000 := by omega
      obtain ⟨ao, cap, rfl⟩ := own_slice h3
      have c0 : ∀ o, (w.alloc o).cell? ⟨V, 0, none⟩ = some (.slice ao st.length cap) := fun o => (cell_of_row _ _ _ _ _ _ (heap_keeps h2 o)).trans rfl
      rw [hk]
      obtain ⟨W, hW⟩ : ∃ W, W = (w.alloc (.cells #[.int .i64 5, .string c.text, .int .i64 c.day] 61)) := ⟨_, rfl⟩
      have hVW : W.heap.size = w.heap.size + 1 := by rw [hW]; simp
      have hrow : W.ownsRow (V + 1) 9 1 (.slice ao st.length cap) st.length (strCells st) := by rw [hW]; exact h3.alloc _
      have HBW : Hid (Below w.heap.size w W) := by rw [hW]; exact below_alloc (Below.refl _ _) _
      have HVW : Hid (W.heap[V]? = some (.cells #[.slice ao st.length cap] 23 (0, 0))) := by rw [hW]; exact heap_keeps h2 _
      have HFIN : Hid (∀ v2 w2, w2.ownsRow (V + 1) 9 1 v2 (st.length + 1) (strCells st ++ [.string c.text]) → (W.alloc (.cells #[.string c.text] 9)).grownBy w2 (Value.slice ao st.length cap).ownBlock → (v2.ownBlock = (Value.slice ao st.length cap).ownBlock ∨ v2.ownBlock = some (W.alloc (.cells #[.string c.text] 9)).heap.size) → w2.heap[V]? = some (.cells #[.slice ao st.length cap] 23 (0, 0)) ∧ ∃ own', LabInv V own' (labStep st c) (w2.setCell ⟨V, 0, none⟩ v2) ∧ Dyn (fun k => k = V ∨ (Value.slice ao st.length cap).ownBlock = some k) w own' (w2.setCell ⟨V, 0, none⟩ v2)) := by
        intro v2 w2 hown2 hgrow2 hloc
        have hVne : some V ≠ (Value.slice ao st.length cap).ownBlock := fun e => by have := (hrow.lt V e.symm).1; omega
        have hs2 := hgrow2.size
        rw [World.size_alloc] at hs2
        have hVlt : V < (W.alloc (.cells #[.string c.text] 9)).heap.size := by rw [World.size_alloc]; have := HLT.out; omega
        have hV2 : w2.heap[V]? = some (.cells #[.slice ao st.length cap] 23 (0, 0)) := (hgrow2.block V hVlt hVne).trans (heap_keeps HVW.out _)
        refine ⟨hV2, fun k => k = V ∨ v2.ownBlock = some k, ⟨v2, rfl, heap_setCell_same w2 V 0 _ _ _ hV2, ?_⟩, ?_⟩
        · rw [HST.out]
          have := ownsRow_setCell_below hown2 (a := ⟨V, 0, none⟩) (by show V < V + 1; omega) v2
          simpa [strCells] using this
        · refine ⟨hgrow2.os.trans HBW.out.os, hgrow2.tape.trans HBW.out.tape, hgrow2.output.trans HBW.out.output, by rw [World.size_setCell]; omega, fun k hk hno => ?_, fun k hk => ?_⟩
          · have hkV : k ≠ V := fun e => hno (.inl e)
            have hkb : some k ≠ (Value.slice ao st.length cap).ownBlock := fun e => hno (.inr e.symm)
            rw [heap_setCell_other w2 ⟨V, 0, none⟩ k _ hkV, hgrow2.block k (by rw [World.size_alloc]; omega) hkb, Below.heap_alloc _ _ _ (by omega)]
            exact HBW.out.block k hk
          · rcases hk with hk | hk
            · exact .inl (.inl hk)
            · rcases hloc with h | h
              · rw [h] at hk; exact .inl (.inr hk)
              · rw [h] at hk
                injection hk with hk
                rw [World.size_alloc] at hk
                exact .inr (by omega)
      have hVs : V + 1 ≤ w.heap.size := HLT.out
      have HVs := hidIn hVs
      subst hW
      have HROW := hidIn hrow
      clear hVs h2 h3 hk hrow hVW HVW HBW HV
      go_enter Tryz.func73, Tryz.ntmps73
      go_wp2_with (first
        | (at_builtin; refine wpList_append_own_at _ rfl _ _ 23 rfl (V + 1) 9 i0 (.string ByteArray.empty) 1 16 Tryz.underlying23 gi gz0 gz1 gz2 rfl (by decide) _ _ _ rfl (HROW.out.alloc _) ⟨w.heap.size + 1, 0, none⟩ 1 1 [.string c.text] rfl rfl (cell_one_in (by simp) _ _) (by intro u hu; simp at hu; subst hu; rfl) (by unfold maxLen; omega) (by omega) (by have := HVs.out; simp; omega) ?_; intro v2 w2 hown2 hgrow2 _ hloc; have hF := hidIn (HFIN.out v2 w2 hown2 hgrow2 hloc); obtain ⟨ao2, cap2, rfl⟩ := own_shape hown2; have k0 := cell_of_row _ _ 0 _ _ _ hF.out.1; have k1 := frozen_of_row _ _ 0 _ _ hF.out.1; clear hown2 hgrow2 hloc HFIN HROW c0)
        | go_in)
      go_end0
      exact ⟨rfl, hF.out.2⟩
    · have HST : Hid (labStep st c = st) := by unfold Hid labStep; rw [if_neg hk]
      have hk' : (c.kind == 5) = false := by simpa using hk
      have HIN : Hid (LabInv V (fun k => k = V ∨ v.ownBlock = some k) st w) := ⟨v, rfl, h2, h3⟩
      clear h2 h3
      go_enter Tryz.func73, Tryz.ntmps73
      go_wp2_with fail
      go_end0
      have hb : Below w.heap.size w (w.alloc (.cells #[.int .i64 c.kind, .string c.text, .int .i64 c.day] 61)) := below_alloc (Below.refl _ _) _
      obtain ⟨v, h1, h2, h3⟩ := HIN.out
      refine ⟨rfl, _, ?_, Dyn.of_below hb⟩
      rw [HST.out]
      exact ⟨v, h1, heap_keeps h2 _, h3.alloc _⟩

end Go.Proofs.YtfmjjfpajohihaaGreatDoor
namespace Go.Proofs.YtfmjjfpajohihaaGreatDoor
open Go.RowKit Go.Maps
set_option linter.unusedVariables false

theorem ownsRow_base {w : World} {B B' e size n : Nat} {v : Value} {xs : List Value} (h : w.ownsRow B e size v n xs) (hB : B' ≤ B) : w.ownsRow B' e size v n xs := by
  refine ⟨h.1, ?_⟩
  rcases h.2 with h | ⟨g, cap, cur, h1, h2, h3⟩
  · exact .inl h
  · exact .inr ⟨g, cap, cur, h1, by omega, h3⟩

set_option maxHeartbeats 1000000 in
set_option maxRecDepth 100000 in
theorem labelsT_any (c : C) (hok : c.Ok) (hsz : c.weight ≤ 1000000) (w : World) : Calls Tryz.prog 48 #[c.val] w fun e w' => ∃ v, e = .returned v ∧ w'.ownsRow w.heap.size 9 1 v c.labels.length (strCells c.labels) ∧ Below w.heap.size w w' := by
  have hmf : ∀ (fn : Fn) (first cap : Array Value) (w : World), (Instr.makeFunc fn first cap).run Tryz.prog w = .ok (.func fn first cap) w := fun _ _ _ _ => rfl
  go_enter Tryz.func48, Tryz.ntmps48
  go_wp2_with fail
  refine (walk_any (labels1_any w.heap.size) c hok (fun k => k = w.heap.size ∨ (Value.slice none 0 0).ownBlock = some k) [] _ ⟨.slice none 0 0, rfl, heap_alloc_new _ _, World.ownsRow_nil _ _ _ _⟩ (by simpa using hsz)).mono ?_
  rintro e w1 ⟨rfl, own1, ⟨v, rfl, hv, hrow⟩, hd⟩
  rw [labels_fold, List.nil_append] at hrow
  have hc : w1.cell? ⟨w.heap.size, 0, none⟩ = some v := (cell_of_row _ _ _ _ _ _ hv).trans rfl
  have HROW := hidIn hrow
  obtain ⟨ao, cap, rfl⟩ := own_shape hrow
  clear hrow hv
  go_wp2_with fail
  go_ret
  have hb : Below w.heap.size w (w.alloc (.cells #[.slice none 0 0] 23)) := below_alloc (Below.refl _ _) _
  refine ⟨_, rfl, ownsRow_base HROW.out (by omega), hb.trans (hd.below (by simp) (fun k hk => ?_))⟩
  rcases hk with rfl | hk
  · exact Nat.le_refl _
  · cases hk

/-- What is known of a list of texts in memory. -/
def HasTxt (w : World) (a : Option Addr) (l : List ByteArray) : Prop := ∀ (i : Nat) (s : ByteArray), l[i]? = some s → ∃ g, a = some ⟨g, 0, none⟩ ∧ w.cell? ⟨g, i, none⟩ = some (.string s)
theorem HasTxt.below {w w' : World} {a : Option Addr} {l : List ByteArray} (h : HasTxt w a l) (hb : Below w.heap.size w w') : HasTxt w' a l := by
  intro i o hi
  obtain ⟨b, e, hc⟩ := h i o hi
  exact ⟨b, e, (hb.cell (World.block_lt_of_cell? w _ hc)).trans hc⟩
theorem own_txt {w : World} {B : Nat} {v : Value} {l : List ByteArray} (h : w.ownsRow B 9 1 v l.length (strCells l)) : ∃ ao cap, v = .slice ao l.length cap ∧ HasTxt w ao l ∧ l.length ≤ 9223372036854775807 ∧ (∀ g, ao = some ⟨g, 0, none⟩ → v.ownBlock = some g) := by
  have h' := own_str h
  obtain ⟨ao, cap, rfl, hc, hl⟩ := h'
  refine ⟨ao, cap, rfl, fun i s hi => ?_, hl, fun g e => by subst e; rfl⟩
  obtain ⟨hlt, rfl⟩ := List.getElem?_eq_some_iff.1 hi
  obtain ⟨g, e, _, hcc⟩ := hc i hlt
  exact ⟨g, e, hcc⟩
theorem HasTxt.grew {w w' : World} {a : Option Addr} {l : List ByteArray} {M : Nat} {row : Option Nat} (h : HasTxt w a l) (hg : Grew M row w w') (hM : ∀ b, a = some ⟨b, 0, none⟩ → b ≠ M ∧ row ≠ some b) : HasTxt w' a l := by
  intro i o hi
  obtain ⟨b, e, hc⟩ := h i o hi
  obtain ⟨h1, h2⟩ := hM b e
  refine ⟨b, e, ?_⟩
  have hb := hg.block b (World.block_lt_of_cell? w _ hc) h1 h2
  simp only [World.cell?, hb] at hc ⊢
  exact hc
theorem addAll_snoc (acc l : List ByteArray) (s : ByteArray) : addAll acc (l ++ [s]) = addN (addAll acc l) s := by simp [addAll]

set_option maxHeartbeats 2000000 in
set_option maxRecDepth 100000 in
theorem addNew_any (more : List ByteArray) (hok : ∀ s ∈ more, s.size ≤ 2147483648) (M : Nat) (v : Value) (acc : List ByteArray) (w : World) (h : NIn w M v acc) (hl : acc.length + more.length ≤ 1000000) (ao : Option Addr) (cap : Nat) (hm : HasTxt w ao more) (hne : ∀ g, ao = some ⟨g, 0, none⟩ → g ≠ M ∧ v.ownBlock ≠ some g) :
    Calls Tryz.prog 72 #[v, .map (some M), .slice ao more.length cap] w (NPost w M v (addAll acc more)) := by
  obtain ⟨i0, gi, gz0, gz1, gz2⟩ := info_parts infoStr
  have HIN : Hid (NIn w M v acc) := h
  have HM := hidIn hm
  have HNE := hidIn hne
  have HOK := hidIn hok
  have hml : more.length ≤ 1000000 := by omega
  have HL := hidIn hl
  clear h hm hne hok hl
  go_enter Tryz.func72, Tryz.ntmps72
  go_wp2_with fail
  go_loopw [13, 0] (fun s13 s0 wr => ∃ i : Nat, i ≤ more.length ∧ s13 = .int .i64 i ∧ NIn wr M s0 (addAll acc (more.take i)) ∧ Grew M v.ownBlock w wr ∧ (s0.ownBlock = v.ownBlock ∨ ∀ k, s0.ownBlock = some k → w.heap.size ≤ k)) (fun s13 _ _ => more.length - (intOf s13).toNat)
  case atStart => exact ⟨0, by omega, rfl, HIN.out, Grew.refl _ _ _, .inl rfl⟩
  case round =>
    obtain ⟨i, hi, rfl, hinr, hgr, hlocr⟩ := hrel
    have HGR : Hid (Grew M v.ownBlock w wr) := hgr
    have HLOC := hidIn hlocr
    have HINR := hidIn hinr
    clear hgr hlocr
    by_cases hlt : i < more.length
    · have hlt' : (i : Int) < (more.length : Int) := by omega
      obtain ⟨s, hsi⟩ : ∃ s, more[i]? = some s := ⟨_, List.getElem?_eq_getElem hlt⟩
      have hs := HOK.out s (List.mem_of_getElem? hsi)
      have hkey : keyOf Tryz.prog 9 (.string s) = some (.string s.data.toList) := Go.WideMaps.keyOf_string_mk Tryz.underlying9 (by unfold maxLen; omega)
      obtain ⟨g, rfl, hc⟩ := (HM.out.grew HGR.out HNE.out) i s hsi
      have ht := take_more _ _ _ hsi
      have HT : Hid (addAll acc (more.take (i + 1)) = addN (addAll acc (more.take i)) s) := by unfold Hid; rw [ht, addAll_snoc]
      have hal : (addAll acc (more.take i)).length ≤ 1000000 := by
        have h1 := addAll_length (more.take i) acc
        have h3 : (more.take i).length ≤ more.length := by rw [List.length_take]; omega
        have := HL.out
        omega
      clear hsi ht
      generalize addAll acc (more.take i) = ac at *
      obtain ⟨hrow, hmap, hsz⟩ := hinr
      by_cases hm : inN ac s = true
      · have hhas : Maps.has (setN ac) (.string s.data.toList) = true := by rw [has_setN]; simpa using hm
        have HA : Hid (addN ac s = ac) := by unfold Hid addN; rw [if_pos hm]
        clear hm
        go_wp2_with (at_lookup; refine wpList_lookup_own_unit _ rfl _ _ 156 rfl 9 76 lawS Tryz.underlying156 (zeroUnit _) M ac.length _ rfl hmap _ _ rfl hkey ?_)
        go_roundw
        case rel =>
          refine ⟨i + 1, by omega, by go_num, ?_, HGR.out.trans (Grew.of_below (below_alloc (Below.refl _ _) _)) (.inl rfl), HLOC.out⟩
          rw [HT.out, HA.out]
          exact HINR.out.below (below_alloc (Below.refl _ _) _)
        case measure => simp [intOf]; omega
      · have hhas : Maps.has (setN ac) (.string s.data.toList) = false := by rw [has_setN]; simpa using hm
        have HA : Hid (addN ac s = ac ++ [s]) := by unfold Hid addN; rw [if_neg hm]
        have HNEB : Hid (u0.ownBlock = none ∨ u0.ownBlock ≠ some M) := .inr (fun e => by have := hrow.lt M e; omega)
        clear hm
        go_wp2_with (first
          | (at_lookup; refine wpList_lookup_own_unit _ rfl _ _ 156 rfl 9 76 lawS Tryz.underlying156 (zeroUnit _) M ac.length _ rfl hmap _ _ rfl hkey ?_)
          | (at_mapUpdate; refine wpList_mapUpdate_own _ rfl _ _ _ 156 rfl 9 76 lawS Tryz.underlying156 (unitElem (H := Unit)) M ac.length _ rfl (hmap.alloc _) (by unfold maxLen; omega) _ _ _ rfl rfl hkey _ [] unitElem_mk ?_; intro w1 hmap1 hgrow1)
          | (at_builtin; refine wpList_append_own_at _ rfl _ _ 23 rfl (M + 1) 9 i0 (.string ByteArray.empty) 1 16 Tryz.underlying23 gi gz0 gz1 gz2 rfl (by decide) _ _ _ rfl (((hrow.alloc _).kept hgrow1 HNEB.out).alloc _) ⟨w1.heap.size, 0, none⟩ 1 1 [.string s] rfl rfl (cell_one_at w1 _ _) (by intro u hu; simp at hu; subst hu; rfl) (by unfold maxLen; omega) (by omega) (by have := hgrow1.size; simp at this ⊢; omega) ?_; intro v2 w2 hown2 hgrow2 _ hloc)
          | go_in)
        have s1 := hgrow1.size
        have s2 := hgrow2.size
        simp at s1 s2
        have HR : Hid (NIn w2 M v2 (ac ++ [s]) ∧ Grew M v.ownBlock w w2 ∧ (v2.ownBlock = v.ownBlock ∨ ∀ k, v2.ownBlock = some k → w.heap.size ≤ k)) := by
          have g0 : Grew M u0.ownBlock wr w2 := by
            have a1 : Grew M u0.ownBlock wr (wr.alloc (.cells #[] 76)) := Grew.of_below (below_alloc (Below.refl _ _) _)
            have a2 : Grew M u0.ownBlock (wr.alloc (.cells #[] 76)) w1 := Grew.of_map hgrow1
            have a3 : Grew M u0.ownBlock w1 (w1.alloc (.cells #[.string s] 9)) := Grew.of_below (below_alloc (Below.refl _ _) _)
            exact ((a1.trans a2 (.inl rfl)).trans a3 (.inl rfl)).trans (Grew.of_grown hgrow2) (.inl rfl)
          refine ⟨⟨?_, ?_, by omega⟩, HGR.out.trans g0 HLOC.out, ?_⟩
          · simpa [strCells] using hown2
          · rw [setN_snoc]
            have := (hmap1.alloc (.cells #[.string s] 9)).kept hgrow2 (fun e => by have := hrow.lt M e.symm; omega)
            simpa using this
          · rcases hloc with h | h
            · rw [h]; exact HLOC.out
            · refine .inr (fun k hk => ?_)
              rw [h] at hk
              injection hk with hk
              simp at hk
              have := HGR.out.size
              omega
        clear hown2 hgrow2 hloc hmap1 hgrow1 hmap hrow
        go_wp2_with fail
        go_roundw
        case rel => exact ⟨i + 1, by omega, by go_num, by rw [HT.out, HA.out]; exact HR.out.1, HR.out.2.1, HR.out.2.2⟩
        case measure => simp [intOf]; omega
    · have hle : i = more.length := by omega
      subst hle
      have HE : Hid (NIn wr M u0 (addAll acc more)) := by have h := HINR.out; rw [List.take_length] at h; exact h
      clear HINR hinr
      go_wp2_with fail
      go_ret
      exact ⟨_, rfl, HE.out, HGR.out, HLOC.out⟩

/-- Whether one is there twice. -/
def twice (l : List ByteArray) : Bool := decide ((addAll [] l).length < l.length)

set_option maxHeartbeats 1000000 in
set_option maxRecDepth 100000 in
theorem anyTwice_any (l : List ByteArray) (hok : ∀ s ∈ l, s.size ≤ 2147483648) (hl : l.length ≤ 1000000) (ao : Option Addr) (cap : Nat) (w : World) (hm : HasTxt w ao l) (hao : ∀ g, ao = some ⟨g, 0, none⟩ → g < w.heap.size) :
    Calls Tryz.prog 47 #[.slice ao l.length cap] w fun e w' => e = .returned (.bool (twice l)) ∧ Below w.heap.size w w' := by
  have hmm := @run_makeMap Tryz.prog
  have hal := addAll_length l []
  simp only [List.length_nil, Nat.zero_add] at hal
  have HM := hidIn hm
  have HAO := hidIn hao
  have HOK := hidIn hok
  clear hm hao hok
  have HC := hidIn (addNew_any l HOK.out w.heap.size (.slice none 0 0) [] (w.alloc (.map #[] 0)) ⟨World.ownsRow_nil _ _ _ _, World.ownsMap_made _ _ _ _, by simp⟩ (by simpa using hl) ao cap (HM.out.below (below_alloc (Below.refl _ _) _)) (fun g e => ⟨by have := HAO.out g e; omega, by simp [Value.ownBlock]⟩))
  go_enter Tryz.func47, Tryz.ntmps47
  go_wp2_with fail
  refine HC.out.mono ?_
  rintro e w2 ⟨v2, rfl, hin2, hg2, hloc2⟩
  have hb2 : Below w.heap.size w w2 := by
    have h1 : Below w.heap.size w (w.alloc (.map #[] 0)) := below_alloc (Below.refl _ _) _
    exact h1.trans (hg2.below (by simp) (Nat.le_refl _) (fun k hk => by cases hk))
  obtain ⟨ao2, cap2, rfl⟩ := own_shape hin2.1
  have HB2 := hidIn hb2
  by_cases hlt : (addAll [] l).length < l.length
  · have HT : Hid (twice l = true) := decide_eq_true hlt
    have hlt' : ((addAll [] l).length : Int) < (l.length : Int) := by omega
    clear hin2 hg2 hloc2 HC hb2
    generalize addAll [] l = X at *
    go_wp2_with fail
    go_ret
    exact ⟨by rw [HT.out]; rfl, HB2.out⟩
  · have HT : Hid (twice l = false) := decide_eq_false hlt
    have hlt' : ¬ ((addAll [] l).length : Int) < (l.length : Int) := by omega
    clear hin2 hg2 hloc2 HC hb2
    generalize addAll [] l = X at *
    go_wp2_with fail
    go_ret
    exact ⟨by rw [HT.out]; rfl, HB2.out⟩

/-- What Check answers. -/
def chkC (c : C) : Int := if formC c = true then (if 60 < c.nodes ∨ 12 < c.depth then 5 else if twice c.labels = true then 4 else 0) else 2
theorem weight_nodes (c : C) : c.nodes ≤ c.weight := by
  induction c <;> simp [C.nodes, C.weight] <;> omega

set_option maxHeartbeats 1000000 in
set_option maxRecDepth 100000 in
theorem checkT_any (c : C) (hok : c.Ok) (hsz : c.weight ≤ 1000000) (w : World) : Calls Tryz.prog 23 #[c.val] w fun e w' => e = .returned (.int .i64 (chkC c)) ∧ Below w.heap.size w w' := by
  have hwn := weight_nodes c
  have HOK := hidIn hok
  have HSZ := hidIn hsz
  have HLO := hidIn (labels_ok c hok)
  have hlw := labels_weight c
  go_enter Tryz.func23, Tryz.ntmps23
  go_wp2_with fail
  refine (formedT_any c hok hsz w).mono ?_
  rintro e w1 ⟨rfl, hb1⟩
  have hd := cdepth_nodes c
  cases hf : formC c
  · go_wp2_with fail
    go_ret
    exact ⟨by unfold chkC; rw [if_neg (by rw [hf]; simp)]; rfl, hb1⟩
  · go_wp2_with fail
    refine (sizeT_any c hok (by omega) w1).mono ?_
    rintro e w2 ⟨rfl, hb2⟩
    have HC : Hid (chkC c = if 60 < c.nodes ∨ 12 < c.depth then 5 else if twice c.labels = true then 4 else 0) := by unfold Hid chkC; rw [if_pos hf]
    have HB2 := hidIn (hb1.trans (hb2.mono hb1.size))
    clear hb1 hb2
    by_cases h1 : 60 < c.nodes
    · have h1' : (60 : Int) < (c.nodes : Int) := by omega
      go_wp2_with fail
      go_ret
      exact ⟨by rw [HC.out, if_pos (.inl h1)]; rfl, HB2.out⟩
    · have h1' : ¬ (60 : Int) < (c.nodes : Int) := by omega
      have h1d : decide ((60 : Int) < (c.nodes : Int)) = false := by simpa using h1'
      by_cases h2 : 12 < c.depth
      · have h2' : (12 : Int) < (c.depth : Int) := by omega
        go_wp2_with fail
        go_ret
        exact ⟨by rw [HC.out, if_pos (.inr h2)]; rfl, HB2.out⟩
      · have h2' : ¬ (12 : Int) < (c.depth : Int) := by omega
        have HC2 : Hid (chkC c = if twice c.labels = true then 4 else 0) := by unfold Hid; rw [HC.out, if_neg (by omega)]
        go_wp2_with fail
        refine (labelsT_any c HOK.out HSZ.out w2).mono ?_
        rintro e w3 ⟨v3, rfl, hrow3, hb3⟩
        have hlt3 := hrow3.lt
        obtain ⟨ao, cap, rfl, htx, _, hob⟩ := own_txt hrow3
        have HTX := hidIn htx
        have HAO : Hid (∀ g, ao = some ⟨g, 0, none⟩ → g < w3.heap.size) := fun g e => (hlt3 g (hob g e)).2
        have HB3 := hidIn (HB2.out.trans (hb3.mono HB2.out.size))
        clear hrow3 hlt3 htx hob hb3
        go_wp2_with fail
        refine (anyTwice_any c.labels HLO.out (by omega) ao cap w3 HTX.out HAO.out).mono ?_
        rintro e w4 ⟨rfl, hb4⟩
        have HB4 := hidIn (HB3.out.trans (hb4.mono HB3.out.size))
        clear hb4
        cases ht : twice c.labels
        · go_wp2_with fail
          go_ret
          exact ⟨by rw [HC2.out, ht]; rfl, HB4.out⟩
        · go_wp2_with fail
          go_ret
          exact ⟨by rw [HC2.out, ht]; rfl, HB4.out⟩

theorem chkC_nil : chkC (.odd .nilIface) = 2 := rfl
end Go.Proofs.YtfmjjfpajohihaaGreatDoor
namespace Go.Proofs.YtfmjjfpajohihaaGreatDoor
open Go.RowKit
set_option linter.unusedVariables false

/-- A reader: the signs that are left, the place behind the last, the first fault's place and kind. -/
structure RS where
  left : List Rn.Sg
  past : Int
  pl : Int
  e : Int
/-- No sign. -/
def noS (r : RS) : Rn.Sg := (⟨#[]⟩, r.past)
def takeS (r : RS) : Rn.Sg := if r.e = 0 then r.left.headD (noS r) else noS r
def takeR (r : RS) : RS := if r.e = 0 then { r with left := r.left.tail } else r
def refuseR (r : RS) (p e : Int) : RS := if r.e = 0 then { r with pl := p, e := e } else r
def fitR (r : RS) (s : Rn.Sg) (ok : Bool) : RS := if ok = true then r else refuseR r s.2 2
def markR (r : RS) (t : ByteArray) : RS := fitR (takeR r) (takeS r) (decide ((takeS r).1 = t))
def nameR (r : RS) : RS := fitR (takeR r) (takeS r) (nameGo 0 (runesOf (takeS r).1))
def dayV (r : RS) : Int := (Rn.numOf (takeS r).1.data.toList).1
def dayOkR (r : RS) : Bool := (Rn.numOf (takeS r).1.data.toList).2 && (decide (0 ≤ dayV r) && decide (dayV r ≤ 10000))
def dayR (r : RS) : RS := fitR (takeR r) (takeS r) (dayOkR r)
def firstR (r : RS) (d : Nat) : RS := if 12 < d then refuseR (takeR r) (takeS r).2 5 else takeR r

/-- The signs that are left, in memory. -/
def SgAt (w : World) (R : Nat) (a : Option Addr) (l : List Rn.Sg) : Prop :=
  ∀ (j : Nat) x, l[j]? = some x → ∃ b o, a = some ⟨b, o, none⟩ ∧ b < R ∧ b < w.heap.size ∧ w.cell? ⟨b, o + j * 2, none⟩ = some (.string x.1) ∧ w.cell? ⟨b, o + j * 2 + 1, none⟩ = some (.int .i64 x.2) ∧ x.1.size ≤ 2147483648
def rCells (r : RS) (a : Option Addr) (c : Nat) : Array Value := #[.slice a r.left.length c, .int .i64 r.past, .int .i64 r.pl, .int .i64 r.e]
structure RIn (w : World) (R : Nat) (r : RS) : Prop where
  has : ∃ a c, Blk w R 56 (rCells r a c) ∧ r.left.length ≤ c ∧ c ≤ 9223372036854775807 ∧ SgAt w R a r.left
theorem SgAt.grew {w w' : World} {R : Nat} {a : Option Addr} {l : List Rn.Sg} (h : SgAt w R a l) (hg : Grew R none w w') : SgAt w' R a l := by
  intro j x hj
  obtain ⟨b, o, rfl, hb, hlt, h1, h2, h3⟩ := h j x hj
  have hk := hg.block b hlt (by omega) (by simp)
  refine ⟨b, o, rfl, hb, Nat.lt_of_lt_of_le hlt hg.size, ?_, ?_, h3⟩
  · rw [← h1]; simp only [World.cell?, hk]
  · rw [← h2]; simp only [World.cell?, hk]
theorem RIn.below {w w' : World} {R : Nat} {r : RS} (h : RIn w R r) (hb : Below w.heap.size w w') : RIn w' R r := by
  obtain ⟨a, c, h1, h2, h3, h4⟩ := h.has
  exact ⟨a, c, h1.below hb h1.lt, h2, h3, h4.grew (Grew.of_below hb)⟩
theorem RIn.lt {w : World} {R : Nat} {r : RS} (h : RIn w R r) : R < w.heap.size := by
  obtain ⟨a, c, h1, _⟩ := h.has
  exact h1.lt
theorem RIn.set {w : World} {R b : Nat} {r : RS} (h : RIn w R r) (hb : R < b) (i : Nat) (x : Value) : RIn (w.setCell ⟨b, i, none⟩ x) R r := by
  obtain ⟨a, c, h1, h2, h3, h4⟩ := h.has
  refine ⟨a, c, h1.other (by omega) i x, h2, h3, ?_⟩
  intro j y hj
  obtain ⟨b', o, rfl, hb', hlt, q1, q2, q3⟩ := h4 j y hj
  have hk : (w.setCell ⟨b, i, none⟩ x).heap[b']? = w.heap[b']? := heap_setCell_other w ⟨b, i, none⟩ b' x (by show b' ≠ b; omega)
  refine ⟨b', o, rfl, hb', by rw [World.size_setCell]; exact hlt, ?_, ?_, q3⟩
  · rw [← q1]; simp only [World.cell?, hk]
  · rw [← q2]; simp only [World.cell?, hk]
theorem infoS : (Tryz.prog.info? 110).map (·.size) = some 2 := by kernel_rfl
def sgV (s : Rn.Sg) : Value := .agg #[.string s.1, .int .i64 s.2]

theorem blk_k {W : World} {b t : Nat} {cs : Array Value} (h : Blk W b t cs) (o : Obj) : Blk (W.alloc o) b t cs := (Below.heap_alloc _ _ _ h.lt).trans h
theorem SgAt.tail {w : World} {R b o : Nat} {s : Rn.Sg} {l : List Rn.Sg} (h : SgAt w R (some ⟨b, o, none⟩) (s :: l)) : SgAt w R (some ⟨b, o + 2, none⟩) l := by
  intro j x hj
  obtain ⟨b', o', e, h1, h2, h3, h4, h5⟩ := h (j + 1) x (by simpa using hj)
  cases e
  refine ⟨b, o + 2, rfl, h1, h2, ?_, ?_, h5⟩
  · rw [show o + 2 + j * 2 = o + (j + 1) * 2 by omega]; exact h3
  · rw [show o + 2 + j * 2 + 1 = o + (j + 1) * 2 + 1 by omega]; exact h4

set_option maxHeartbeats 2000000 in
set_option maxRecDepth 100000 in
theorem take_any (w : World) (R : Nat) (r : RS) (h : RIn w R r) :
    Calls Tryz.prog 44 #[.pointer (some ⟨R, 0, none⟩)] w fun e w' => e = .returned (sgV (takeS r)) ∧ RIn w' R (takeR r) ∧ Grew R none w w' := by
  have HH := hidIn h
  obtain ⟨a, c, hb, hc1, hc2, hs⟩ := h.has
  have HB := hidIn hb
  have HS := hidIn hs
  have hlt := hb.lt
  have g0 : w.cell? ⟨R, 0, none⟩ = some (.slice a r.left.length c) := hb.cell 0
  have g1 : w.cell? ⟨R, 1, none⟩ = some (.int .i64 r.past) := hb.cell 1
  have g3 : w.cell? ⟨R, 3, none⟩ = some (.int .i64 r.e) := hb.cell 3
  have gf : w.frozen? ⟨R, 0, none⟩ = false := hb.frozen 0
  clear hb hs h
  obtain ⟨l, past, pl, en⟩ := r
  simp only at g0 g1 g3 hc1
  go_enter Tryz.func44, Tryz.ntmps44
  by_cases he : en = 0
  · subst he
    cases l with
    | nil =>
      simp only [List.length_nil] at g0
      go_wp2_with fail
      have hbl : Below w.heap.size w (w.alloc (.cells #[.string ⟨#[]⟩, .int .i64 past] 110)) := below_alloc (Below.refl _ _) _
      refine bodyPost_ret (results_cell_row rfl _ _ w.heap.size 110 #[.string ⟨#[]⟩, .int .i64 past] (0, 0) _ rfl (heap_alloc_new _ _) Tryz.underlying110 rfl infoS) rfl ?_
      exact ⟨rfl, HH.out.below hbl, Grew.of_below hbl⟩
    | cons s l =>
      obtain ⟨b, o, rfl, hbR, hblt, q0, q1, _⟩ := HS.out 0 s rfl
      simp only [Nat.zero_mul, Nat.add_zero] at q0 q1
      simp only [List.length_cons] at g0 hc1
      go_wp2_with fail
      case inl =>
        obtain rfl : l = [] := by
          cases l with
          | nil => rfl
          | cons _ _ => exfalso; simp only [List.length_cons] at hc1; omega
        refine bodyPost_ret (results_cell_row rfl _ _ w.heap.size 110 #[.string s.1, .int .i64 s.2] (0, 0) _ rfl (blk_k (blk_new (by simp)) _) Tryz.underlying110 rfl infoS) rfl ?_
        refine ⟨rfl, ⟨some ⟨b, o, none⟩, 0, blk_k (blk_k (HB.out.set 0 _) _) _, Nat.le_refl 0, by omega, ?_⟩, (((Grew.refl _ _ _).set 0 _).alloc _).alloc _⟩
        intro j x hj
        simp [takeR] at hj
      case inr =>
        refine bodyPost_ret (results_cell_row rfl _ _ w.heap.size 110 #[.string s.1, .int .i64 s.2] (0, 0) _ rfl (blk_k (blk_new (by simp)) _) Tryz.underlying110 rfl infoS) rfl ?_
        have hg : Grew R none w (((w.setCell ⟨R, 0, none⟩ (.slice (some ⟨b, o + 2, none⟩) l.length (c - 1))).alloc (.cells #[.string s.1, .int .i64 s.2] 110)).alloc (.cells #[.string s.1, .int .i64 s.2] 110)) := (((Grew.refl _ _ _).set 0 _).alloc _).alloc _
        exact ⟨rfl, ⟨some ⟨b, o + 2, none⟩, c - 1, blk_k (blk_k (HB.out.set 0 _) _) _, by show l.length ≤ c - 1; omega, by omega, HS.out.tail.grew hg⟩, hg⟩
  · have HT : Hid (takeS ⟨l, past, pl, en⟩ = (⟨#[]⟩, past) ∧ takeR ⟨l, past, pl, en⟩ = ⟨l, past, pl, en⟩) := by
      unfold takeS takeR noS
      exact ⟨if_neg he, if_neg he⟩
    go_wp2_with fail
    have hbl : Below w.heap.size w (w.alloc (.cells #[.string ⟨#[]⟩, .int .i64 past] 110)) := below_alloc (Below.refl _ _) _
    refine bodyPost_ret (results_cell_row rfl _ _ w.heap.size 110 #[.string ⟨#[]⟩, .int .i64 past] (0, 0) _ rfl (heap_alloc_new _ _) Tryz.underlying110 rfl infoS) rfl ?_
    rw [HT.out.1, HT.out.2]
    exact ⟨rfl, HH.out.below hbl, Grew.of_below hbl⟩

set_option maxHeartbeats 1000000 in
set_option maxRecDepth 100000 in
theorem refuse_any (w : World) (R : Nat) (r : RS) (p en : Int) (h : RIn w R r) :
    Calls Tryz.prog 65 #[.pointer (some ⟨R, 0, none⟩), .int .i64 p, .int .i64 en] w fun e w' => e = .returned (.tuple #[]) ∧ RIn w' R (refuseR r p en) ∧ Grew R none w w' := by
  have HH := hidIn h
  obtain ⟨a, c, hb, hc1, hc2, hs⟩ := h.has
  have HB := hidIn hb
  have HS := hidIn hs
  have HC : Hid (r.left.length ≤ c ∧ c ≤ 9223372036854775807) := ⟨hc1, hc2⟩
  have g3 : w.cell? ⟨R, 3, none⟩ = some (.int .i64 r.e) := hb.cell 3
  have f2 : w.frozen? ⟨R, 2, none⟩ = false := hb.frozen 2
  have f3 : w.frozen? ⟨R, 3, none⟩ = false := hb.frozen 3
  have g2 : w.cell? ⟨R, 2, none⟩ = some (.int .i64 r.pl) := hb.cell 2
  clear hb hs h hc1 hc2
  obtain ⟨l, past, pl, e0⟩ := r
  simp only at g2 g3
  go_enter Tryz.func65, Tryz.ntmps65
  by_cases he : e0 = 0
  · subst he
    go_wp2_with fail
    go_end0
    have hg : Grew R none w ((w.setCell ⟨R, 2, none⟩ (.int .i64 p)).setCell ⟨R, 3, none⟩ (.int .i64 en)) := ((Grew.refl _ _ _).set 2 _).set 3 _
    exact ⟨rfl, ⟨a, c, (HB.out.set 2 _).set 3 _, HC.out.1, HC.out.2, HS.out.grew hg⟩, hg⟩
  · have HT : Hid (refuseR ⟨l, past, pl, e0⟩ p en = ⟨l, past, pl, e0⟩) := if_neg he
    go_wp2_with fail
    go_end0
    rw [HT.out]
    exact ⟨rfl, HH.out, Grew.refl _ _ _⟩
set_option maxHeartbeats 1000000 in
set_option maxRecDepth 100000 in
theorem fit_any (w : World) (R : Nat) (r : RS) (s : Rn.Sg) (ok : Bool) (h : RIn w R r) :
    Calls Tryz.prog 43 #[.pointer (some ⟨R, 0, none⟩), .agg #[.string s.1, .int .i64 s.2], .bool ok] w fun e w' => e = .returned (.tuple #[]) ∧ RIn w' R (fitR r s ok) ∧ Grew R none w w' := by
  have HH := hidIn h
  clear h
  go_enter Tryz.func43, Tryz.ntmps43
  cases ok with
  | true =>
    go_wp2_with fail
    go_end0
    have hbl : Below w.heap.size w (w.alloc (.cells #[.string s.1, .int .i64 s.2] 110)) := below_alloc (Below.refl _ _) _
    exact ⟨rfl, HH.out.below hbl, Grew.of_below hbl⟩
  | false =>
    go_wp2_with fail
    have HBL : Hid (Below w.heap.size w (w.alloc (.cells #[.string s.1, .int .i64 s.2] 110))) := below_alloc (Below.refl _ _) _
    refine (refuse_any _ R r s.2 2 (HH.out.below HBL.out)).mono ?_
    rintro e w1 ⟨rfl, h1, hg1⟩
    go_wp2_with fail
    go_end0
    exact ⟨rfl, h1, (Grew.of_below HBL.out).trans hg1 (.inl rfl)⟩
theorem Grew.tr {M : Nat} {u v w : World} (h : Grew M none u v) (g : Grew M none v w) : Grew M none u w := h.trans g (.inl rfl)
/-- A new block of a sign, kept. -/
theorem sg_blk {w w1 : World} {R : Nat} {s : Rn.Sg} (hR : R < w.heap.size) (hg : Grew R none (w.alloc (.cells #[.string s.1, .int .i64 s.2] 110)) w1) : Blk w1 w.heap.size 110 #[.string s.1, .int .i64 s.2] :=
  (blk_new rfl).grew hg (by omega)

set_option maxHeartbeats 1000000 in
set_option maxRecDepth 100000 in
theorem mark_any (w : World) (R : Nat) (r : RS) (t : ByteArray) (h : RIn w R r) :
    Calls Tryz.prog 38 #[.pointer (some ⟨R, 0, none⟩), .string t] w fun e w' => e = .returned (.tuple #[]) ∧ RIn w' R (markR r t) ∧ Grew R none w w' := by
  have HH := hidIn h
  clear h
  go_enter Tryz.func38, Tryz.ntmps38
  go_wp2_with fail
  refine (take_any w R r HH.out).mono ?_
  rintro e w1 ⟨rfl, h1, hg1⟩
  have HM : Hid (markR r t = fitR (takeR r) (takeS r) (decide ((takeS r).1 = t))) := rfl
  generalize takeR r = r1 at *
  generalize takeS r = s at *
  have HR1 := hidIn h1
  have HG1 := hidIn hg1
  clear h1 hg1
  unfold sgV
  by_cases hst : s.1.toList = t.toList
  · have hd : decide (s.1 = t) = true := by rw [toList_inj hst]; simp
    rw [hd] at HM
    clear hd
    go_wp2_with fail
    have HBL : Hid (Below w1.heap.size w1 (w1.alloc (.cells #[.string s.1, .int .i64 s.2] 110))) := below_alloc (Below.refl _ _) _
    refine (fit_any _ R r1 s true (HR1.out.below HBL.out)).mono ?_
    rintro e w2 ⟨rfl, h2, hg2⟩
    go_wp2_with fail
    go_end0
    rw [HM.out]
    exact ⟨rfl, h2, HG1.out.tr ((Grew.of_below HBL.out).tr hg2)⟩
  · have hd : decide (s.1 = t) = false := by simp; intro e; exact hst (by rw [e])
    have hst2 : (s.1.toList == t.toList) = false := by simpa using hst
    rw [hd] at HM
    clear hd
    go_wp2_with fail
    have HBL : Hid (Below w1.heap.size w1 (w1.alloc (.cells #[.string s.1, .int .i64 s.2] 110))) := below_alloc (Below.refl _ _) _
    refine (fit_any _ R r1 s false (HR1.out.below HBL.out)).mono ?_
    rintro e w2 ⟨rfl, h2, hg2⟩
    go_wp2_with fail
    go_end0
    rw [HM.out]
    exact ⟨rfl, h2, HG1.out.tr ((Grew.of_below HBL.out).tr hg2)⟩
theorem emp_dec (s : ByteArray) : s.toList.isEmpty = decide (s = ⟨#[]⟩) := by
  have he : (⟨#[]⟩ : ByteArray).toList = [] := by decide +kernel
  by_cases h : s = ⟨#[]⟩
  · subst h; rw [he]; rfl
  · rw [decide_eq_false h]
    cases hl : s.toList with
    | nil => exact absurd (toList_inj (hl.trans he.symm)) h
    | cons a l => rfl
def endRd (r : RS) : RS := fitR (takeR r) (takeS r) (decide ((takeS r).1 = ⟨#[]⟩))
set_option maxHeartbeats 1000000 in
set_option maxRecDepth 100000 in
theorem end_any (w : World) (R : Nat) (r : RS) (h : RIn w R r) :
    Calls Tryz.prog 22 #[.pointer (some ⟨R, 0, none⟩)] w fun e w' => e = .returned (.tuple #[]) ∧ RIn w' R (endRd r) ∧ Grew R none w w' := by
  have HH := hidIn h
  clear h
  go_enter Tryz.func22, Tryz.ntmps22
  go_wp2_with fail
  refine (take_any w R r HH.out).mono ?_
  rintro e w1 ⟨rfl, h1, hg1⟩
  have HM : Hid (endRd r = fitR (takeR r) (takeS r) (decide ((takeS r).1 = ⟨#[]⟩))) := rfl
  generalize takeR r = r1 at *
  generalize takeS r = s at *
  have HR1 := hidIn h1
  have HG1 := hidIn hg1
  clear h1 hg1
  unfold sgV
  go_wp2_with fail
  rw [emp_dec]
  have HBL : Hid (Below w1.heap.size w1 (w1.alloc (.cells #[.string s.1, .int .i64 s.2] 110))) := below_alloc (Below.refl _ _) _
  refine (fit_any _ R r1 s (decide (s.1 = ⟨#[]⟩)) (HR1.out.below HBL.out)).mono ?_
  rintro e w2 ⟨rfl, h2, hg2⟩
  go_wp2_with fail
  go_end0
  rw [HM.out]
  exact ⟨rfl, h2, HG1.out.tr ((Grew.of_below HBL.out).tr hg2)⟩

set_option maxHeartbeats 2000000 in
set_option maxRecDepth 100000 in
theorem rname_any (w : World) (R : Nat) (r : RS) (h : RIn w R r) :
    Calls Tryz.prog 39 #[.pointer (some ⟨R, 0, none⟩)] w fun e w' => e = .returned (.string (takeS r).1) ∧ RIn w' R (nameR r) ∧ Grew R none w w' := by
  have HH := hidIn h
  clear h
  go_enter Tryz.func39, Tryz.ntmps39
  go_wp2_with fail
  refine (take_any w R r HH.out).mono ?_
  rintro e w1 ⟨rfl, h1, hg1⟩
  have HM : Hid (nameR r = fitR (takeR r) (takeS r) (nameGo 0 (runesOf (takeS r).1))) := rfl
  have HSE0 : Hid (∃ s, takeS r = s) := ⟨_, rfl⟩
  generalize takeR r = r1 at *
  obtain ⟨s, hse⟩ := HSE0.out
  have HSE := hidIn hse
  rw [hse] at HM
  rw [hse]
  clear hse HSE0
  have HR1 := hidIn h1
  have HG1 := hidIn hg1
  have HLT := hidIn h1.lt
  clear h1 hg1
  unfold sgV
  go_wp2_with fail
  obtain ⟨W, hW⟩ : ∃ W, W = w1.alloc (.cells #[.string s.1, .int .i64 s.2] 110) := ⟨_, rfl⟩
  have HBL : Hid (Below w1.heap.size w1 W) := by rw [hW]; exact below_alloc (Below.refl _ _) _
  have HBK : Hid (Blk W w1.heap.size 110 #[.string s.1, .int .i64 s.2]) := by rw [hW]; exact blk_new rfl
  have HNE : Hid (w1.heap.size ≠ R) := by have := HLT.out; show _ ≠ _; omega
  have HF : Hid (∀ X, Grew R none W X → X.cell? ⟨w1.heap.size, 0, none⟩ = some (.string s.1) ∧ X.cell? ⟨w1.heap.size, 1, none⟩ = some (.int .i64 s.2)) := fun X hX => by
    have h := HBK.out.grew hX HNE.out
    exact ⟨h.cell 0, h.cell 1⟩
  have HRW := hidIn (HR1.out.below HBL.out)
  rw [← hW]
  clear hW
  obtain ⟨c0, c1⟩ := HF.out W (Grew.refl _ _ _)
  go_region_with (first
    | (go_at_call 66; refine (name_any _ _).mono ?_; rintro e wA ⟨rfl, posA, rfl⟩; have hA := Grew.of_below (M := R) (row := none) (below_iter W.drew s.1 posA); obtain ⟨d0, d1⟩ := HF.out _ ((Grew.refl R none W).drew.tr hA))
    | (go_at_call 43; refine (fit_any _ R r1 s _ (HRW.out.below ((below_drew (Below.refl _ _)).trans (below_iter W.drew s.1 posA)))).mono ?_; rintro e wB ⟨rfl, hB, hgB⟩))
  all_goals
    have hgx := (Grew.refl R none W).drew.tr (hA.tr hgB)
    obtain ⟨d2, d3⟩ := HF.out _ hgx
    have HRX := hidIn hB
    have HGX := hidIn hgx
    clear hB hgx hgB hA d0 d1 c0 c1
    go_wp2_with fail
    go_ret
    exact ⟨by rw [HSE.out]; rfl, by rw [HM.out]; exact HRX.out, HG1.out.tr ((Grew.of_below HBL.out).tr HGX.out)⟩
theorem takeS_size {w : World} {R : Nat} {r : RS} (h : RIn w R r) : (takeS r).1.size ≤ 2147483648 := by
  obtain ⟨a, c, _, _, _, hs⟩ := h.has
  unfold takeS noS
  split
  · cases hl : r.left with
    | nil => show (⟨#[]⟩ : ByteArray).size ≤ _; decide
    | cons x l =>
      obtain ⟨_, _, _, _, _, _, _, h6⟩ := hs 0 x (by rw [hl]; rfl)
      exact h6
  · show (⟨#[]⟩ : ByteArray).size ≤ _; decide

set_option maxHeartbeats 2000000 in
set_option maxRecDepth 100000 in
theorem rday_any (w : World) (R : Nat) (r : RS) (h : RIn w R r) :
    Calls Tryz.prog 42 #[.pointer (some ⟨R, 0, none⟩)] w fun e w' => e = .returned (.int .i64 (dayV r)) ∧ RIn w' R (dayR r) ∧ Grew R none w w' := by
  have HH := hidIn h
  have HSZ := hidIn (takeS_size h)
  clear h
  go_enter Tryz.func42, Tryz.ntmps42
  go_wp2_with fail
  refine (take_any w R r HH.out).mono ?_
  rintro e w1 ⟨rfl, h1, hg1⟩
  have HM : Hid (dayR r = fitR (takeR r) (takeS r) ((Rn.numOf (takeS r).1.data.toList).2 && (decide (0 ≤ (Rn.numOf (takeS r).1.data.toList).1) && decide ((Rn.numOf (takeS r).1.data.toList).1 ≤ 10000)))) := rfl
  have HV : Hid (dayV r = (Rn.numOf (takeS r).1.data.toList).1) := rfl
  generalize takeR r = r1 at *
  generalize takeS r = s at *
  have HR1 := hidIn h1
  have HG1 := hidIn hg1
  have HLT := hidIn h1.lt
  clear h1 hg1
  unfold sgV
  go_wp2_with fail
  obtain ⟨W, hW⟩ : ∃ W, W = w1.alloc (.cells #[.string s.1, .int .i64 s.2] 110) := ⟨_, rfl⟩
  have HBL : Hid (Below w1.heap.size w1 W) := by rw [hW]; exact below_alloc (Below.refl _ _) _
  have HBK : Hid (Blk W w1.heap.size 110 #[.string s.1, .int .i64 s.2]) := by rw [hW]; exact blk_new rfl
  have HRW := hidIn (HR1.out.below HBL.out)
  rw [← hW]
  clear hW
  refine (Rn.number_any s.1 W (by have := HSZ.out; unfold maxLen; omega)).mono ?_
  rintro e w2 ⟨rfl, hb2⟩
  have hk := HBK.out.below hb2 HBK.out.lt
  have c0 : w2.cell? ⟨w1.heap.size, 0, none⟩ = some (.string s.1) := hk.cell 0
  have c1 : w2.cell? ⟨w1.heap.size, 1, none⟩ = some (.int .i64 s.2) := hk.cell 1
  have HB2 := hidIn hb2
  clear hb2 hk
  generalize (Rn.numOf s.1.data.toList).1 = n at *
  generalize (Rn.numOf s.1.data.toList).2 = ok at *
  have hcase : (ok = false) ∨ (ok = true ∧ ¬ 0 ≤ n) ∨ (ok = true ∧ 0 ≤ n ∧ ¬ n ≤ 10000) ∨ (ok = true ∧ 0 ≤ n ∧ n ≤ 10000) := by
    cases ok <;> by_cases a : 0 ≤ n <;> by_cases b : n ≤ 10000 <;> simp [a, b]
  have HRX := hidIn (HRW.out.below HB2.out)
  have HGX : Hid (Grew R none w w2) := HG1.out.tr ((Grew.of_below HBL.out).tr (Grew.of_below HB2.out))
  rcases hcase with rfl | ⟨rfl, q1⟩ | ⟨rfl, q1, q2⟩ | ⟨rfl, q1, q2⟩
  · go_wp2_with fail
    refine (fit_any _ R r1 s _ HRX.out).mono ?_
    rintro e w3 ⟨rfl, h3, hg3⟩
    go_wp2_with fail
    go_ret
    exact ⟨by rw [HV.out]; rfl, by rw [HM.out]; exact h3, HGX.out.tr hg3⟩
  · have HD : Hid ((true && (decide (0 ≤ n) && decide (n ≤ 10000))) = false) := by show _ = _; rw [decide_eq_false q1]; rfl
    go_wp2_with fail
    refine (fit_any _ R r1 s _ HRX.out).mono ?_
    rintro e w3 ⟨rfl, h3, hg3⟩
    go_wp2_with fail
    go_ret
    exact ⟨by rw [HV.out]; rfl, by rw [HM.out, HD.out]; first | exact h3 | (rw [decide_eq_false q1] at h3; exact h3) | (rw [HQ.out] at h3; exact h3) | (rw [decide_eq_true q2] at h3; exact h3), HGX.out.tr hg3⟩
  · have HD : Hid ((true && (decide (0 ≤ n) && decide (n ≤ 10000))) = false) := by show _ = _; rw [decide_eq_true q1, decide_eq_false q2]; rfl
    have HQ : Hid (decide (n ≤ 10000) = false) := decide_eq_false q2
    go_wp2_with fail
    refine (fit_any _ R r1 s _ HRX.out).mono ?_
    rintro e w3 ⟨rfl, h3, hg3⟩
    go_wp2_with fail
    go_ret
    exact ⟨by rw [HV.out]; rfl, by rw [HM.out, HD.out]; first | exact h3 | (rw [decide_eq_false q1] at h3; exact h3) | (rw [HQ.out] at h3; exact h3) | (rw [decide_eq_true q2] at h3; exact h3), HGX.out.tr hg3⟩
  · have HD : Hid ((true && (decide (0 ≤ n) && decide (n ≤ 10000))) = true) := by show _ = _; rw [decide_eq_true q1, decide_eq_true q2]; rfl
    go_wp2_with fail
    refine (fit_any _ R r1 s _ HRX.out).mono ?_
    rintro e w3 ⟨rfl, h3, hg3⟩
    go_wp2_with fail
    go_ret
    exact ⟨by rw [HV.out]; rfl, by rw [HM.out, HD.out]; first | exact h3 | (rw [decide_eq_false q1] at h3; exact h3) | (rw [HQ.out] at h3; exact h3) | (rw [decide_eq_true q2] at h3; exact h3), HGX.out.tr hg3⟩

set_option maxHeartbeats 2000000 in
set_option maxRecDepth 100000 in
theorem first_any (w : World) (R : Nat) (r : RS) (d : Nat) (hd : d ≤ 1000) (h : RIn w R r) :
    Calls Tryz.prog 37 #[.pointer (some ⟨R, 0, none⟩), .int .i64 (d : Int)] w fun e w' => e = .returned (sgV (takeS r)) ∧ RIn w' R (firstR r d) ∧ Grew R none w w' := by
  have HH := hidIn h
  have HLT0 := hidIn h.lt
  clear h
  go_enter Tryz.func37, Tryz.ntmps37
  go_wp2_with fail
  obtain ⟨W0, hW0⟩ : ∃ W, W = w.alloc (.cells #[.string ⟨#[]⟩, .int .i64 0] 110) := ⟨_, rfl⟩
  have HB0 : Hid (Below w.heap.size w W0) := by rw [hW0]; exact below_alloc (Below.refl _ _) _
  have HK0 : Hid (Blk W0 w.heap.size 110 #[.string ⟨#[]⟩, .int .i64 0]) := by rw [hW0]; exact blk_new rfl
  rw [← hW0]
  clear hW0
  refine (take_any W0 R r (HH.out.below HB0.out)).mono ?_
  rintro e w1 ⟨rfl, h1, hg1⟩
  have HM : Hid (firstR r d = if 12 < d then refuseR (takeR r) (takeS r).2 5 else takeR r) := rfl
  have HSE0 : Hid (∃ s, takeS r = s) := ⟨_, rfl⟩
  generalize takeR r = r1 at *
  obtain ⟨s, hse⟩ := HSE0.out
  have HSE := hidIn hse
  rw [hse] at HM
  rw [hse]
  clear hse HSE0
  have HR1 := hidIn h1
  have HK1 := hidIn (HK0.out.grew hg1 (by have := HLT0.out; omega))
  have HG1 : Hid (Grew R none w w1) := (Grew.of_below HB0.out).tr hg1
  have HLT : Hid (w.heap.size < w1.heap.size) := HK1.out.lt
  clear h1 hg1
  have HRN : Hid (w.heap.size ≠ R) := by have := HLT0.out; show _ ≠ _; omega
  unfold sgV
  have z0 : w1.cell? ⟨w.heap.size, 0, none⟩ = some (.string ⟨#[]⟩) := HK1.out.cell 0
  have z1 : w1.cell? ⟨w.heap.size, 1, none⟩ = some (.int .i64 0) := HK1.out.cell 1
  have f0 : w1.frozen? ⟨w.heap.size, 0, none⟩ = false := HK1.out.frozen 0
  have f1 : w1.frozen? ⟨w.heap.size, 1, none⟩ = false := HK1.out.frozen 1
  by_cases hd12 : 12 < d
  · have hd' : (12 : Int) < (d : Int) := by omega
    rw [if_pos hd12] at HM
    go_wp2_with fail
    obtain ⟨W, hW⟩ : ∃ W, W = w1.alloc (.cells #[.string s.1, .int .i64 s.2] 110) := ⟨_, rfl⟩
    have HBL : Hid (Below w1.heap.size w1 W) := by rw [hW]; exact below_alloc (Below.refl _ _) _
    have HBK : Hid (Blk W w1.heap.size 110 #[.string s.1, .int .i64 s.2]) := by rw [hW]; exact blk_new rfl
    rw [← hW]
    clear hW z0 z1 f0 f1
    refine (refuse_any W R r1 s.2 5 (HR1.out.below HBL.out)).mono ?_
    rintro e w2 ⟨rfl, h2, hg2⟩
    have HK2 := hidIn ((HK1.out.below HBL.out HK1.out.lt).grew hg2 HRN.out)
    have HS2 := hidIn (HBK.out.grew hg2 (by have := HR1.out.lt; omega))
    have HG2 : Hid (Grew R none w w2) := HG1.out.tr ((Grew.of_below HBL.out).tr hg2)
    have HR2 := hidIn h2
    have c0 : w2.cell? ⟨w1.heap.size, 0, none⟩ = some (.string s.1) := HS2.out.cell 0
    have c1 : w2.cell? ⟨w1.heap.size, 1, none⟩ = some (.int .i64 s.2) := HS2.out.cell 1
    have z0 : w2.cell? ⟨w.heap.size, 0, none⟩ = some (.string ⟨#[]⟩) := HK2.out.cell 0
    have z1 : w2.cell? ⟨w.heap.size, 1, none⟩ = some (.int .i64 0) := HK2.out.cell 1
    have f0 : w2.frozen? ⟨w.heap.size, 0, none⟩ = false := HK2.out.frozen 0
    have f1 : w2.frozen? ⟨w.heap.size, 1, none⟩ = false := HK2.out.frozen 1
    clear h2 hg2
    go_wp2_with fail
    refine bodyPost_ret (results_cell_row rfl _ _ w.heap.size 110 #[.string s.1, .int .i64 s.2] (0, 0) _ rfl ((HK2.out.set 0 _).set 1 _) Tryz.underlying110 rfl infoS) rfl ?_
    refine ⟨by rw [HSE.out]; rfl, ?_, (HG2.out.setNew (Nat.le_refl _) 0 _).setNew (Nat.le_refl _) 1 _⟩
    rw [HM.out]
    exact (HR2.out.set HLT0.out 0 _).set HLT0.out 1 _
  · have hd' : ¬ (12 : Int) < (d : Int) := by omega
    rw [if_neg hd12] at HM
    go_upto_region 4 with fail
    obtain ⟨W, hW⟩ : ∃ W, W = w1.alloc (.cells #[.string s.1, .int .i64 s.2] 110) := ⟨_, rfl⟩
    have HBL : Hid (Below w1.heap.size w1 W) := by rw [hW]; exact below_alloc (Below.refl _ _) _
    have HBK : Hid (Blk W w1.heap.size 110 #[.string s.1, .int .i64 s.2]) := by rw [hW]; exact blk_new rfl
    rw [← hW]
    clear hW z0 z1 f0 f1
    have HK2 := hidIn (HK1.out.below HBL.out HK1.out.lt)
    have HG2 : Hid (Grew R none w W) := HG1.out.tr (Grew.of_below HBL.out)
    have HR2 := hidIn (HR1.out.below HBL.out)
    have c0 : W.cell? ⟨w1.heap.size, 0, none⟩ = some (.string s.1) := HBK.out.cell 0
    have c1 : W.cell? ⟨w1.heap.size, 1, none⟩ = some (.int .i64 s.2) := HBK.out.cell 1
    have z0 : W.cell? ⟨w.heap.size, 0, none⟩ = some (.string ⟨#[]⟩) := HK2.out.cell 0
    have z1 : W.cell? ⟨w.heap.size, 1, none⟩ = some (.int .i64 0) := HK2.out.cell 1
    have f0 : W.frozen? ⟨w.heap.size, 0, none⟩ = false := HK2.out.frozen 0
    have f1 : W.frozen? ⟨w.heap.size, 1, none⟩ = false := HK2.out.frozen 1
    go_wp2_with fail
    refine bodyPost_ret (results_cell_row rfl _ _ w.heap.size 110 #[.string s.1, .int .i64 s.2] (0, 0) _ rfl ((HK2.out.set 0 _).set 1 _) Tryz.underlying110 rfl infoS) rfl ?_
    refine ⟨by rw [HSE.out]; rfl, ?_, (HG2.out.setNew (Nat.le_refl _) 0 _).setNew (Nat.le_refl _) 1 _⟩
    rw [HM.out]
    exact (HR2.out.set HLT0.out 0 _).set HLT0.out 1 _

end Go.Proofs.YtfmjjfpajohihaaGreatDoor
namespace Go.Proofs.YtfmjjfpajohihaaGreatDoor
open Go.RowKit
set_option linter.unusedVariables false

def lpB : ByteArray := ⟨#[40]⟩
def rpB : ByteArray := ⟨#[41]⟩
def cmB : ByteArray := ⟨#[44]⟩
def wFix : ByteArray := ⟨#[102, 105, 120]⟩
def wAdd : ByteArray := ⟨#[97, 100, 100]⟩
def wNeg : ByteArray := ⟨#[110, 101, 103]⟩
def wMul : ByteArray := ⟨#[109, 117, 108]⟩
def wMax : ByteArray := ⟨#[109, 97, 120]⟩
def wZero : ByteArray := ⟨#[122, 101, 114, 111]⟩
def wOne : ByteArray := ⟨#[111, 110, 101]⟩
def wGive : ByteArray := ⟨#[103, 105, 118, 101]⟩
def wAnd : ByteArray := ⟨#[97, 110, 100]⟩
def wOr : ByteArray := ⟨#[111, 114]⟩
def wScale : ByteArray := ⟨#[115, 99, 97, 108, 101]⟩
def wWhen : ByteArray := ⟨#[119, 104, 101, 110]⟩
def wIf : ByteArray := ⟨#[105, 102]⟩
/-- Two numbers between brackets. -/
def pairF (rec : RS → O × RS) (r : RS) : O × O × RS :=
  ((rec (markR r lpB)).1, (rec (markR (rec (markR r lpB)).2 cmB)).1, markR (rec (markR (rec (markR r lpB)).2 cmB)).2 rpB)
/-- What is read as a number, and the reader behind it. -/
def obsR : Nat → RS → Nat → O × RS
  | 0, r, _ => (.const 0, r)
  | f + 1, r, d =>
    if (takeS r).1 = wFix then (.fix (takeS (markR (firstR r d) lpB)).1, markR (nameR (markR (firstR r d) lpB)) rpB)
    else if (takeS r).1 = wAdd then (.add (pairF (fun q => obsR f q (d + 1)) (firstR r d)).1 (pairF (fun q => obsR f q (d + 1)) (firstR r d)).2.1, (pairF (fun q => obsR f q (d + 1)) (firstR r d)).2.2)
    else if (takeS r).1 = wNeg then (.neg (obsR f (markR (firstR r d) lpB) (d + 1)).1, markR (obsR f (markR (firstR r d) lpB) (d + 1)).2 rpB)
    else if (takeS r).1 = wMul then (.mul (pairF (fun q => obsR f q (d + 1)) (firstR r d)).1 (pairF (fun q => obsR f q (d + 1)) (firstR r d)).2.1, (pairF (fun q => obsR f q (d + 1)) (firstR r d)).2.2)
    else if (takeS r).1 = wMax then (.max (pairF (fun q => obsR f q (d + 1)) (firstR r d)).1 (pairF (fun q => obsR f q (d + 1)) (firstR r d)).2.1, (pairF (fun q => obsR f q (d + 1)) (firstR r d)).2.2)
    else (.const (Rn.numOf (takeS r).1.data.toList).1, fitR (firstR r d) (takeS r) (Rn.numOf (takeS r).1.data.toList).2)
def lastF (rec : RS → C × RS) (r : RS) : C × RS := ((rec r).1, markR (rec r).2 rpB)
def lastsF (rec : RS → C × RS) (r : RS) : C × C × RS := ((rec r).1, (lastF rec (markR (rec r).2 cmB)).1, (lastF rec (markR (rec r).2 cmB)).2)
/-- What is read as a contract, and the reader behind it. -/
def termR : Nat → RS → Nat → C × RS
  | 0, r, _ => (.odd .nilIface, r)
  | f + 1, r, d =>
    if (takeS r).1 = wZero then (.zero, firstR r d)
    else if (takeS r).1 = wOne then (.one (takeS (markR (firstR r d) lpB)).1, markR (nameR (markR (firstR r d) lpB)) rpB)
    else if (takeS r).1 = wGive then (.give (lastF (fun q => termR f q (d + 1)) (markR (firstR r d) lpB)).1, (lastF (fun q => termR f q (d + 1)) (markR (firstR r d) lpB)).2)
    else if (takeS r).1 = wAnd then (.and (lastsF (fun q => termR f q (d + 1)) (markR (firstR r d) lpB)).1 (lastsF (fun q => termR f q (d + 1)) (markR (firstR r d) lpB)).2.1, (lastsF (fun q => termR f q (d + 1)) (markR (firstR r d) lpB)).2.2)
    else if (takeS r).1 = wOr then (.or (takeS (markR (firstR r d) lpB)).1 (lastsF (fun q => termR f q (d + 1)) (markR (nameR (markR (firstR r d) lpB)) cmB)).1 (lastsF (fun q => termR f q (d + 1)) (markR (nameR (markR (firstR r d) lpB)) cmB)).2.1, (lastsF (fun q => termR f q (d + 1)) (markR (nameR (markR (firstR r d) lpB)) cmB)).2.2)
    else if (takeS r).1 = wScale then (.scale (obsR f (markR (firstR r d) lpB) (d + 1)).1 (lastF (fun q => termR f q (d + 1)) (markR (obsR f (markR (firstR r d) lpB) (d + 1)).2 cmB)).1, (lastF (fun q => termR f q (d + 1)) (markR (obsR f (markR (firstR r d) lpB) (d + 1)).2 cmB)).2)
    else if (takeS r).1 = wWhen then (.when (dayV (markR (firstR r d) lpB)) (lastF (fun q => termR f q (d + 1)) (markR (dayR (markR (firstR r d) lpB)) cmB)).1, (lastF (fun q => termR f q (d + 1)) (markR (dayR (markR (firstR r d) lpB)) cmB)).2)
    else if (takeS r).1 = wIf then (.iff (obsR f (markR (firstR r d) lpB) (d + 1)).1 (lastsF (fun q => termR f q (d + 1)) (markR (obsR f (markR (firstR r d) lpB) (d + 1)).2 cmB)).1 (lastsF (fun q => termR f q (d + 1)) (markR (obsR f (markR (firstR r d) lpB) (d + 1)).2 cmB)).2.1, (lastsF (fun q => termR f q (d + 1)) (markR (obsR f (markR (firstR r d) lpB) (d + 1)).2 cmB)).2.2)
    else (.odd .nilIface, fitR (firstR r d) (takeS r) false)
theorem takeR_e (r : RS) : (takeR r).e = r.e := by unfold takeR; split <;> rfl
theorem refuseR_e (r : RS) (p e : Int) (h : r.e ≠ 0) : (refuseR r p e).e ≠ 0 := by unfold refuseR; rw [if_neg h]; exact h
theorem fitR_e (r : RS) (s : Rn.Sg) (ok : Bool) (h : r.e ≠ 0) : (fitR r s ok).e ≠ 0 := by
  unfold fitR; split
  · exact h
  · exact refuseR_e r _ _ h
theorem markR_e (r : RS) (t : ByteArray) (h : r.e ≠ 0) : (markR r t).e ≠ 0 := fitR_e _ _ _ (by rw [takeR_e]; exact h)
theorem nameR_e (r : RS) (h : r.e ≠ 0) : (nameR r).e ≠ 0 := fitR_e _ _ _ (by rw [takeR_e]; exact h)
theorem dayR_e (r : RS) (h : r.e ≠ 0) : (dayR r).e ≠ 0 := fitR_e _ _ _ (by rw [takeR_e]; exact h)
theorem firstR_e (r : RS) (d : Nat) (h : r.e ≠ 0) : (firstR r d).e ≠ 0 := by
  unfold firstR; split
  · exact refuseR_e _ _ _ (by rw [takeR_e]; exact h)
  · rw [takeR_e]; exact h
theorem firstR_deep (r : RS) (d : Nat) (h : 12 < d) : (firstR r d).e ≠ 0 := by
  unfold firstR
  rw [if_pos h]
  unfold refuseR
  split
  · show (5 : Int) ≠ 0; decide
  · assumption
theorem pairF_e (rec : RS → O × RS) (hr : ∀ q, q.e ≠ 0 → (rec q).2.e ≠ 0) (r : RS) (h : r.e ≠ 0) : (pairF rec r).2.2.e ≠ 0 :=
  markR_e _ _ (hr _ (markR_e _ _ (hr _ (markR_e _ _ h))))
theorem lastF_e (rec : RS → C × RS) (hr : ∀ q, q.e ≠ 0 → (rec q).2.e ≠ 0) (r : RS) (h : r.e ≠ 0) : (lastF rec r).2.e ≠ 0 := markR_e _ _ (hr _ h)
theorem lastsF_e (rec : RS → C × RS) (hr : ∀ q, q.e ≠ 0 → (rec q).2.e ≠ 0) (r : RS) (h : r.e ≠ 0) : (lastsF rec r).2.2.e ≠ 0 := lastF_e rec hr _ (markR_e _ _ (hr _ h))
theorem obsR_e (f : Nat) : ∀ r d, r.e ≠ 0 → (obsR f r d).2.e ≠ 0 := by
  induction f with
  | zero => intro r d h; exact h
  | succ f ih =>
    intro r d h
    have h1 := firstR_e r d h
    have ih' : ∀ q, q.e ≠ 0 → ((fun q => obsR f q (d + 1)) q).2.e ≠ 0 := fun q hq => ih q (d + 1) hq
    unfold obsR
    repeat' split
    · exact markR_e _ _ (nameR_e _ (markR_e _ _ h1))
    · exact pairF_e _ ih' _ h1
    · exact markR_e _ _ (ih _ _ (markR_e _ _ h1))
    · exact pairF_e _ ih' _ h1
    · exact pairF_e _ ih' _ h1
    · exact fitR_e _ _ _ h1
theorem takeS_none (r : RS) (h : r.e ≠ 0) : takeS r = (⟨#[]⟩, r.past) := by unfold takeS noS; rw [if_neg h]

/-- What is known of the call that reads a number so deep. -/
def ObsC (f d : Nat) : Prop := ∀ (r : RS) (w : World) (R : Nat), (14 ≤ d → r.e ≠ 0) → RIn w R r →
  Calls Tryz.prog 27 #[.pointer (some ⟨R, 0, none⟩), .int .i64 (d : Int)] w fun e w' => e = .returned (obsR f r d).1.val ∧ (obsR f r d).1.Ok ∧ RIn w' R (obsR f r d).2 ∧ Grew R none w w'
def TermC (f d : Nat) : Prop := ∀ (r : RS) (w : World) (R : Nat), (14 ≤ d → r.e ≠ 0) → RIn w R r →
  Calls Tryz.prog 21 #[.pointer (some ⟨R, 0, none⟩), .int .i64 (d : Int)] w fun e w' => e = .returned (termR f r d).1.val ∧ (termR f r d).1.Ok ∧ RIn w' R (termR f r d).2 ∧ Grew R none w w'

set_option maxHeartbeats 1000000 in
set_option maxRecDepth 100000 in
theorem two_any (f d : Nat) (hd : d ≤ 100) (hI : ObsC f (d + 1)) (r : RS) (w : World) (R : Nat) (he : 13 ≤ d → r.e ≠ 0) (h : RIn w R r) :
    Calls Tryz.prog 51 #[.pointer (some ⟨R, 0, none⟩), .int .i64 (d : Int)] w fun e w' => e = .returned (.tuple #[(pairF (fun q => obsR f q (d + 1)) r).1.val, (pairF (fun q => obsR f q (d + 1)) r).2.1.val]) ∧ (pairF (fun q => obsR f q (d + 1)) r).1.Ok ∧ (pairF (fun q => obsR f q (d + 1)) r).2.1.Ok ∧ RIn w' R (pairF (fun q => obsR f q (d + 1)) r).2.2 ∧ Grew R none w w' := by
  have HI : Hid (∀ (r : RS) (w : World) (R : Nat), (13 ≤ d → r.e ≠ 0) → RIn w R r → Calls Tryz.prog 27 #[.pointer (some ⟨R, 0, none⟩), .int .i64 ((d : Int) + 1)] w fun e w' => e = .returned (obsR f r (d + 1)).1.val ∧ (obsR f r (d + 1)).1.Ok ∧ RIn w' R (obsR f r (d + 1)).2 ∧ Grew R none w w') := fun r w R hr hR => hI r w R (fun hd => hr (by omega)) hR
  have HH := hidIn h
  have HE0 := hidIn he
  clear h hI he
  unfold pairF
  go_enter Tryz.func51, Tryz.ntmps51
  go_wp2_with fail
  refine (mark_any w R r lpB HH.out).mono ?_
  rintro e w1 ⟨rfl, h1, hg1⟩
  have HR1 := hidIn h1
  have HG1 := hidIn hg1
  have HE1 : Hid (13 ≤ d → (markR r lpB).e ≠ 0) := fun hd => markR_e _ _ (HE0.out hd)
  clear h1 hg1
  go_wp2_with fail
  refine (HI.out _ w1 R HE1.out HR1.out).mono ?_
  rintro e w2 ⟨rfl, hok2, h2, hg2⟩
  have HR2 := hidIn h2
  have HO2 := hidIn hok2
  have HG2 := hidIn (HG1.out.tr hg2)
  have HE2 : Hid (13 ≤ d → (obsR f (markR r lpB) (d + 1)).2.e ≠ 0) := fun hd => obsR_e _ _ _ (HE1.out hd)
  clear h2 hg2 hok2
  go_wp2_with fail
  refine (mark_any w2 R _ cmB HR2.out).mono ?_
  rintro e w3 ⟨rfl, h3, hg3⟩
  have HR3 := hidIn h3
  have HG3 := hidIn (HG2.out.tr hg3)
  have HE3 : Hid (13 ≤ d → (markR (obsR f (markR r lpB) (d + 1)).2 cmB).e ≠ 0) := fun hd => markR_e _ _ (HE2.out hd)
  clear h3 hg3
  go_wp2_with fail
  refine (HI.out _ w3 R HE3.out HR3.out).mono ?_
  rintro e w4 ⟨rfl, hok4, h4, hg4⟩
  have HR4 := hidIn h4
  have HO4 := hidIn hok4
  have HG4 := hidIn (HG3.out.tr hg4)
  clear h4 hg4 hok4
  go_wp2_with fail
  refine (mark_any w4 R _ rpB HR4.out).mono ?_
  rintro e w5 ⟨rfl, h5, hg5⟩
  have HR5 := hidIn h5
  have HG5 := hidIn (HG4.out.tr hg5)
  clear h5 hg5
  go_wp2_with fail
  go_ret2
  exact ⟨rfl, HO2.out, HO4.out, HR5.out, HG5.out⟩
theorem tl_eq {a b : ByteArray} {l : List UInt8} (hb : b.toList = l) : (a.toList == l) = decide (a = b) := by
  subst hb
  by_cases h : a = b
  · subst h; simp
  · rw [decide_eq_false h]; exact beq_eq_false_iff_ne.2 (fun e => h (toList_inj e))
theorem tlFix : wFix.toList = [102, 105, 120] := by decide +kernel
theorem tlAdd : wAdd.toList = [97, 100, 100] := by decide +kernel
theorem tlNeg : wNeg.toList = [110, 101, 103] := by decide +kernel
theorem tlMul : wMul.toList = [109, 117, 108] := by decide +kernel
theorem tlMax : wMax.toList = [109, 97, 120] := by decide +kernel
theorem tlZero : wZero.toList = [122, 101, 114, 111] := by decide +kernel
theorem tlOne : wOne.toList = [111, 110, 101] := by decide +kernel
theorem tlGive : wGive.toList = [103, 105, 118, 101] := by decide +kernel
theorem tlAnd : wAnd.toList = [97, 110, 100] := by decide +kernel
theorem tlOr : wOr.toList = [111, 114] := by decide +kernel
theorem tlScale : wScale.toList = [115, 99, 97, 108, 101] := by decide +kernel
theorem tlWhen : wWhen.toList = [119, 104, 101, 110] := by decide +kernel
theorem tlIf : wIf.toList = [105, 102] := by decide +kernel
theorem numOf_bd (l : List UInt8) : -9223372036854775808 ≤ (Rn.numOf l).1 ∧ (Rn.numOf l).1 ≤ 9223372036854775807 := by
  cases l with
  | nil => rw [Rn.numOf_nil]; decide
  | cons a t =>
    by_cases h : a = 45
    · subst h
      rw [Rn.numOf_neg]
      have := Rn.natOf_bd t
      split
      · constructor <;> simp only <;> omega
      · constructor <;> simp only <;> omega
    · rw [Rn.numOf_pos _ (by simpa using h)]
      have := Rn.natOf_bd (a :: t)
      omega
theorem ba_ne {a b : ByteArray} (h : ¬ a = b) : ¬ a.toList = b.toList := fun e => h (toList_inj e)
theorem ba_nb {a b : ByteArray} (h : ¬ a = b) : (a.toList == b.toList) = false := beq_eq_false_iff_ne.2 (ba_ne h)

set_option maxHeartbeats 4000000 in
set_option maxRecDepth 100000 in
theorem obs_step (f d : Nat) (hdf : d + (f + 1) = 15) (hI : ObsC f (d + 1)) (r : RS) (w : World) (R : Nat) (he : 14 ≤ d → r.e ≠ 0) (h : RIn w R r) :
    Calls Tryz.prog 27 #[.pointer (some ⟨R, 0, none⟩), .int .i64 (d : Int)] w fun e w' => e = .returned (obsR (f + 1) r d).1.val ∧ (obsR (f + 1) r d).1.Ok ∧ RIn w' R (obsR (f + 1) r d).2 ∧ Grew R none w w' := by
  have HI : Hid (∀ (r : RS) (w : World) (R : Nat), (13 ≤ d → r.e ≠ 0) → RIn w R r → Calls Tryz.prog 27 #[.pointer (some ⟨R, 0, none⟩), .int .i64 ((d : Int) + 1)] w fun e w' => e = .returned (obsR f r (d + 1)).1.val ∧ (obsR f r (d + 1)).1.Ok ∧ RIn w' R (obsR f r (d + 1)).2 ∧ Grew R none w w') := fun r w R hr hR => hI r w R (fun hd => hr (by omega)) hR
  have H2 := hidIn (two_any f d (by omega) hI)
  clear hI
  have HH := hidIn h
  have HLT0 := hidIn h.lt
  have HSZ := hidIn (takeS_size h)
  have HDD : Hid (d + (f + 1) = 15) := hdf
  have HER := hidIn he
  clear h he
  go_enter Tryz.func27, Tryz.ntmps27
  go_wp2_with fail
  refine (first_any w R r d (by omega) HH.out).mono ?_
  rintro e w1 ⟨rfl, h1, hg1⟩
  have HR1 := hidIn h1
  have HG1 := hidIn hg1
  have HE1 : Hid (13 ≤ d → (firstR r d).e ≠ 0) := fun hd => firstR_deep r d (by omega)
  clear h1 hg1
  obtain ⟨s, hse⟩ : ∃ s, takeS r = s := ⟨_, rfl⟩
  have HSE := hidIn hse
  rw [hse] at HSZ
  rw [hse]
  clear hse
  unfold sgV
  go_upto_region 3 with fail
  obtain ⟨W, hW⟩ : ∃ W, W = w1.alloc (.cells #[.string s.1, .int .i64 s.2] 110) := ⟨_, rfl⟩
  have HBL : Hid (Below w1.heap.size w1 W) := by rw [hW]; exact below_alloc (Below.refl _ _) _
  have HBK : Hid (Blk W w1.heap.size 110 #[.string s.1, .int .i64 s.2]) := by rw [hW]; exact blk_new rfl
  have HR0 := hidIn (HR1.out.below HBL.out)
  have HG0 : Hid (Grew R none w W) := HG1.out.tr (Grew.of_below HBL.out)
  have c0 : W.cell? ⟨w1.heap.size, 0, none⟩ = some (.string s.1) := HBK.out.cell 0
  have c1 : W.cell? ⟨w1.heap.size, 1, none⟩ = some (.int .i64 s.2) := HBK.out.cell 1
  rw [← hW]
  clear hW HR1 HG1
  obtain ⟨r1, hr1⟩ : ∃ r1, firstR r d = r1 := ⟨_, rfl⟩
  rw [hr1] at HR0 HE1
  have HRR := hidIn hr1
  clear hr1

  by_cases k0 : s.1 = wFix
  · have HT : Hid (obsR (f + 1) r d = (.fix (takeS (markR r1 lpB)).1, markR (nameR (markR r1 lpB)) rpB)) := by show _ = _; rw [obsR, HSE.out, HRR.out, if_pos k0]
    have y : (s.1.toList == [102, 105, 120]) = true := by rw [tl_eq tlFix]; exact decide_eq_true k0
    clear k0
    go_wp2_with fail
    refine (mark_any W R r1 lpB HR0.out).mono ?_
    rintro e v1 ⟨rfl, h, hg⟩
    have HR1 := hidIn h
    have HG1 := hidIn (HG0.out.tr hg)
    clear h hg
    have HNS := hidIn (takeS_size HR1.out)
    go_wp2_with fail
    refine (rname_any _ R _ HR1.out).mono ?_
    rintro e v2 ⟨rfl, h, hg⟩
    have HR2 := hidIn h
    have HG2 := hidIn (HG1.out.tr hg)
    clear h hg
    go_wp2_with fail
    refine (mark_any _ R _ rpB HR2.out).mono ?_
    rintro e v3 ⟨rfl, h, hg⟩
    have HR3 := hidIn h
    have HG3 := hidIn (HG2.out.tr hg)
    clear h hg
    go_wp2_with fail
    go_ret
    rw [HT.out]
    exact ⟨rfl, HNS.out, HR3.out, HG3.out⟩
  by_cases k1 : s.1 = wAdd
  · have HT : Hid (obsR (f + 1) r d = (.add (pairF (fun q => obsR f q (d + 1)) r1).1 (pairF (fun q => obsR f q (d + 1)) r1).2.1, (pairF (fun q => obsR f q (d + 1)) r1).2.2)) := by show _ = _; rw [obsR, HSE.out, HRR.out, if_neg k0, if_pos k1]
    have n0 : (s.1.toList == [102, 105, 120]) = false := by rw [tl_eq tlFix]; exact decide_eq_false k0
    have y : (s.1.toList == [97, 100, 100]) = true := by rw [tl_eq tlAdd]; exact decide_eq_true k1
    clear k0 k1
    go_wp2_with fail
    refine (H2.out r1 W R HE1.out HR0.out).mono ?_
    rintro e v1 ⟨rfl, ho, ho2, h, hg⟩
    have HO1 := hidIn ho
    have HP1 := hidIn ho2
    clear ho ho2
    have HR1 := hidIn h
    have HG1 := hidIn (HG0.out.tr hg)
    clear h hg
    obtain ⟨xa, hxa⟩ : ∃ v, (pairF (fun q => obsR f q (d + 1)) r1).1.val = v := ⟨_, rfl⟩
    have HXa := hidIn hxa
    have qa := (pairF (fun q => obsR f q (d + 1)) r1).1.one' HO1.out
    rw [hxa] at qa
    rw [hxa]
    clear hxa
    have sva := qa.store
    have cva := qa.cells
    have mva := qa.cells
    unfold Value.cells at mva
    clear qa
    obtain ⟨xb, hxb⟩ : ∃ v, (pairF (fun q => obsR f q (d + 1)) r1).2.1.val = v := ⟨_, rfl⟩
    have HXb := hidIn hxb
    have qb := (pairF (fun q => obsR f q (d + 1)) r1).2.1.one' HP1.out
    rw [hxb] at qb
    rw [hxb]
    clear hxb
    have svb := qb.store
    have cvb := qb.cells
    have mvb := qb.cells
    unfold Value.cells at mvb
    clear qb
    go_wp2_with fail
    go_ret
    rw [HT.out]
    exact ⟨by show _ = Ending.returned (.iface _ (.agg #[O.val _, O.val _])); rw [HXa.out, HXb.out]; rfl, ⟨HO1.out, HP1.out⟩, HR1.out, HG1.out⟩
  by_cases k2 : s.1 = wNeg
  · have HT : Hid (obsR (f + 1) r d = (.neg (obsR f (markR r1 lpB) (d + 1)).1, markR (obsR f (markR r1 lpB) (d + 1)).2 rpB)) := by show _ = _; rw [obsR, HSE.out, HRR.out, if_neg k0, if_neg k1, if_pos k2]
    have n0 : (s.1.toList == [102, 105, 120]) = false := by rw [tl_eq tlFix]; exact decide_eq_false k0
    have n1 : (s.1.toList == [97, 100, 100]) = false := by rw [tl_eq tlAdd]; exact decide_eq_false k1
    have y : (s.1.toList == [110, 101, 103]) = true := by rw [tl_eq tlNeg]; exact decide_eq_true k2
    clear k0 k1 k2
    go_wp2_with fail
    refine (mark_any W R r1 lpB HR0.out).mono ?_
    rintro e v1 ⟨rfl, h, hg⟩
    have HR1 := hidIn h
    have HG1 := hidIn (HG0.out.tr hg)
    clear h hg
    go_wp2_with fail
    refine (HI.out _ _ R (fun hd => markR_e _ _ (HE1.out hd)) HR1.out).mono ?_
    rintro e v2 ⟨rfl, ho, h, hg⟩
    have HO2 := hidIn ho
    clear ho
    have HR2 := hidIn h
    have HG2 := hidIn (HG1.out.tr hg)
    clear h hg
    obtain ⟨xa, hxa⟩ : ∃ v, (obsR f (markR r1 lpB) (d + 1)).1.val = v := ⟨_, rfl⟩
    have HXa := hidIn hxa
    have qa := (obsR f (markR r1 lpB) (d + 1)).1.one' HO2.out
    rw [hxa] at qa
    rw [hxa]
    clear hxa
    have sva := qa.store
    have cva := qa.cells
    have mva := qa.cells
    unfold Value.cells at mva
    clear qa
    go_wp2_with fail
    refine (mark_any _ R _ rpB HR2.out).mono ?_
    rintro e v3 ⟨rfl, h, hg⟩
    have HR3 := hidIn h
    have HG3 := hidIn (HG2.out.tr hg)
    clear h hg
    go_wp2_with fail
    go_ret
    rw [HT.out]
    exact ⟨by show _ = Ending.returned (.iface _ (.agg #[O.val _])); rw [HXa.out]; rfl, HO2.out, HR3.out, HG3.out⟩
  by_cases k3 : s.1 = wMul
  · have HT : Hid (obsR (f + 1) r d = (.mul (pairF (fun q => obsR f q (d + 1)) r1).1 (pairF (fun q => obsR f q (d + 1)) r1).2.1, (pairF (fun q => obsR f q (d + 1)) r1).2.2)) := by show _ = _; rw [obsR, HSE.out, HRR.out, if_neg k0, if_neg k1, if_neg k2, if_pos k3]
    have n0 : (s.1.toList == [102, 105, 120]) = false := by rw [tl_eq tlFix]; exact decide_eq_false k0
    have n1 : (s.1.toList == [97, 100, 100]) = false := by rw [tl_eq tlAdd]; exact decide_eq_false k1
    have n2 : (s.1.toList == [110, 101, 103]) = false := by rw [tl_eq tlNeg]; exact decide_eq_false k2
    have y : (s.1.toList == [109, 117, 108]) = true := by rw [tl_eq tlMul]; exact decide_eq_true k3
    clear k0 k1 k2 k3
    go_wp2_with fail
    refine (H2.out r1 W R HE1.out HR0.out).mono ?_
    rintro e v1 ⟨rfl, ho, ho2, h, hg⟩
    have HO1 := hidIn ho
    have HP1 := hidIn ho2
    clear ho ho2
    have HR1 := hidIn h
    have HG1 := hidIn (HG0.out.tr hg)
    clear h hg
    obtain ⟨xa, hxa⟩ : ∃ v, (pairF (fun q => obsR f q (d + 1)) r1).1.val = v := ⟨_, rfl⟩
    have HXa := hidIn hxa
    have qa := (pairF (fun q => obsR f q (d + 1)) r1).1.one' HO1.out
    rw [hxa] at qa
    rw [hxa]
    clear hxa
    have sva := qa.store
    have cva := qa.cells
    have mva := qa.cells
    unfold Value.cells at mva
    clear qa
    obtain ⟨xb, hxb⟩ : ∃ v, (pairF (fun q => obsR f q (d + 1)) r1).2.1.val = v := ⟨_, rfl⟩
    have HXb := hidIn hxb
    have qb := (pairF (fun q => obsR f q (d + 1)) r1).2.1.one' HP1.out
    rw [hxb] at qb
    rw [hxb]
    clear hxb
    have svb := qb.store
    have cvb := qb.cells
    have mvb := qb.cells
    unfold Value.cells at mvb
    clear qb
    go_wp2_with fail
    go_ret
    rw [HT.out]
    exact ⟨by show _ = Ending.returned (.iface _ (.agg #[O.val _, O.val _])); rw [HXa.out, HXb.out]; rfl, ⟨HO1.out, HP1.out⟩, HR1.out, HG1.out⟩
  by_cases k4 : s.1 = wMax
  · have HT : Hid (obsR (f + 1) r d = (.max (pairF (fun q => obsR f q (d + 1)) r1).1 (pairF (fun q => obsR f q (d + 1)) r1).2.1, (pairF (fun q => obsR f q (d + 1)) r1).2.2)) := by show _ = _; rw [obsR, HSE.out, HRR.out, if_neg k0, if_neg k1, if_neg k2, if_neg k3, if_pos k4]
    have n0 : (s.1.toList == [102, 105, 120]) = false := by rw [tl_eq tlFix]; exact decide_eq_false k0
    have n1 : (s.1.toList == [97, 100, 100]) = false := by rw [tl_eq tlAdd]; exact decide_eq_false k1
    have n2 : (s.1.toList == [110, 101, 103]) = false := by rw [tl_eq tlNeg]; exact decide_eq_false k2
    have n3 : (s.1.toList == [109, 117, 108]) = false := by rw [tl_eq tlMul]; exact decide_eq_false k3
    have y : (s.1.toList == [109, 97, 120]) = true := by rw [tl_eq tlMax]; exact decide_eq_true k4
    clear k0 k1 k2 k3 k4
    go_wp2_with fail
    refine (H2.out r1 W R HE1.out HR0.out).mono ?_
    rintro e v1 ⟨rfl, ho, ho2, h, hg⟩
    have HO1 := hidIn ho
    have HP1 := hidIn ho2
    clear ho ho2
    have HR1 := hidIn h
    have HG1 := hidIn (HG0.out.tr hg)
    clear h hg
    obtain ⟨xa, hxa⟩ : ∃ v, (pairF (fun q => obsR f q (d + 1)) r1).1.val = v := ⟨_, rfl⟩
    have HXa := hidIn hxa
    have qa := (pairF (fun q => obsR f q (d + 1)) r1).1.one' HO1.out
    rw [hxa] at qa
    rw [hxa]
    clear hxa
    have sva := qa.store
    have cva := qa.cells
    have mva := qa.cells
    unfold Value.cells at mva
    clear qa
    obtain ⟨xb, hxb⟩ : ∃ v, (pairF (fun q => obsR f q (d + 1)) r1).2.1.val = v := ⟨_, rfl⟩
    have HXb := hidIn hxb
    have qb := (pairF (fun q => obsR f q (d + 1)) r1).2.1.one' HP1.out
    rw [hxb] at qb
    rw [hxb]
    clear hxb
    have svb := qb.store
    have cvb := qb.cells
    have mvb := qb.cells
    unfold Value.cells at mvb
    clear qb
    go_wp2_with fail
    go_ret
    rw [HT.out]
    exact ⟨by show _ = Ending.returned (.iface _ (.agg #[O.val _, O.val _])); rw [HXa.out, HXb.out]; rfl, ⟨HO1.out, HP1.out⟩, HR1.out, HG1.out⟩
  have HT : Hid (obsR (f + 1) r d = (.const (Rn.numOf s.1.data.toList).1, fitR r1 s (Rn.numOf s.1.data.toList).2)) := by show _ = _; rw [obsR, HSE.out, HRR.out, if_neg k0, if_neg k1, if_neg k2, if_neg k3, if_neg k4]
  have n0 : (s.1.toList == [102, 105, 120]) = false := by rw [tl_eq tlFix]; exact decide_eq_false k0
  have n1 : (s.1.toList == [97, 100, 100]) = false := by rw [tl_eq tlAdd]; exact decide_eq_false k1
  have n2 : (s.1.toList == [110, 101, 103]) = false := by rw [tl_eq tlNeg]; exact decide_eq_false k2
  have n3 : (s.1.toList == [109, 117, 108]) = false := by rw [tl_eq tlMul]; exact decide_eq_false k3
  have n4 : (s.1.toList == [109, 97, 120]) = false := by rw [tl_eq tlMax]; exact decide_eq_false k4
  clear k0 k1 k2 k3 k4
  go_wp2_with fail
  refine (Rn.number_any s.1 W (by have := HSZ.out; unfold maxLen; omega)).mono ?_
  rintro e w2 ⟨rfl, hb2⟩
  have hk := HBK.out.below hb2 HBK.out.lt
  have d0 : w2.cell? ⟨w1.heap.size, 0, none⟩ = some (.string s.1) := hk.cell 0
  have d1 : w2.cell? ⟨w1.heap.size, 1, none⟩ = some (.int .i64 s.2) := hk.cell 1
  have HR1 := hidIn (HR0.out.below hb2)
  have HG1 := hidIn (HG0.out.tr (Grew.of_below hb2))
  have HNB := hidIn (numOf_bd s.1.data.toList)
  clear hb2 hk c0 c1
  go_wp2_with fail
  refine (fit_any _ R r1 s _ HR1.out).mono ?_
  rintro e v2 ⟨rfl, h, hg⟩
  have HR2 := hidIn h
  have HG2 := hidIn (HG1.out.tr hg)
  clear h hg
  go_wp2_with fail
  go_ret
  rw [HT.out]
  exact ⟨rfl, HNB.out, HR2.out, HG2.out⟩
theorem dead_first (r : RS) (d : Nat) (h : r.e ≠ 0) : firstR r d = r := by
  have h1 : takeR r = r := by unfold takeR; rw [if_neg h]
  unfold firstR
  rw [h1]
  split
  · unfold refuseR; rw [if_neg h]
  · rfl
theorem dead_fit (r : RS) (s : Rn.Sg) (h : r.e ≠ 0) : fitR r s false = r := by
  unfold fitR refuseR
  rw [if_neg (by decide), if_neg h]
set_option maxHeartbeats 4000000 in
set_option maxRecDepth 100000 in
theorem obs_dead (d : Nat) (hd : d ≤ 15) (r : RS) (w : World) (R : Nat) (he : r.e ≠ 0) (h : RIn w R r) :
    Calls Tryz.prog 27 #[.pointer (some ⟨R, 0, none⟩), .int .i64 (d : Int)] w fun e w' => e = .returned (O.const 0).val ∧ RIn w' R r ∧ Grew R none w w' := by
  have hdf : d + (0 + 1) ≤ 16 := by omega
  have HDE : Hid (takeS r = (⟨#[]⟩, r.past) ∧ firstR r d = r ∧ ∀ s, fitR r s false = r) := ⟨takeS_none r he, dead_first r d he, fun s => dead_fit r s he⟩
  clear he
  have HH := hidIn h
  have HLT0 := hidIn h.lt
  have HSZ := hidIn (takeS_size h)
  clear h
  go_enter Tryz.func27, Tryz.ntmps27
  go_wp2_with fail
  refine (first_any w R r d (by omega) HH.out).mono ?_
  rintro e w1 ⟨rfl, h1, hg1⟩
  have HR1 := hidIn h1
  have HG1 := hidIn hg1
  clear h1 hg1
  obtain ⟨s, hse⟩ : ∃ s, takeS r = s := ⟨_, rfl⟩
  have HSE := hidIn hse
  rw [hse] at HSZ
  rw [hse]
  clear hse
  unfold sgV
  go_upto_region 3 with fail
  obtain ⟨W, hW⟩ : ∃ W, W = w1.alloc (.cells #[.string s.1, .int .i64 s.2] 110) := ⟨_, rfl⟩
  have HBL : Hid (Below w1.heap.size w1 W) := by rw [hW]; exact below_alloc (Below.refl _ _) _
  have HBK : Hid (Blk W w1.heap.size 110 #[.string s.1, .int .i64 s.2]) := by rw [hW]; exact blk_new rfl
  have HR0 := hidIn (HR1.out.below HBL.out)
  have HG0 : Hid (Grew R none w W) := HG1.out.tr (Grew.of_below HBL.out)
  have c0 : W.cell? ⟨w1.heap.size, 0, none⟩ = some (.string s.1) := HBK.out.cell 0
  have c1 : W.cell? ⟨w1.heap.size, 1, none⟩ = some (.int .i64 s.2) := HBK.out.cell 1
  rw [← hW]
  clear hW HR1 HG1
  obtain ⟨r1, hr1⟩ : ∃ r1, firstR r d = r1 := ⟨_, rfl⟩
  rw [hr1] at HR0
  have HRR := hidIn hr1
  clear hr1
  have hs0 : s = (⟨#[]⟩, r.past) := HSE.out.symm.trans HDE.out.1
  have hrr : r1 = r := HRR.out.symm.trans HDE.out.2.1
  have n0 : (s.1.toList == [102, 105, 120]) = false := by rw [tl_eq tlFix, hs0]; show decide ((⟨#[]⟩ : ByteArray) = wFix) = false; decide
  have n1 : (s.1.toList == [97, 100, 100]) = false := by rw [tl_eq tlAdd, hs0]; show decide ((⟨#[]⟩ : ByteArray) = wAdd) = false; decide
  have n2 : (s.1.toList == [110, 101, 103]) = false := by rw [tl_eq tlNeg, hs0]; show decide ((⟨#[]⟩ : ByteArray) = wNeg) = false; decide
  have n3 : (s.1.toList == [109, 117, 108]) = false := by rw [tl_eq tlMul, hs0]; show decide ((⟨#[]⟩ : ByteArray) = wMul) = false; decide
  have n4 : (s.1.toList == [109, 97, 120]) = false := by rw [tl_eq tlMax, hs0]; show decide ((⟨#[]⟩ : ByteArray) = wMax) = false; decide
  have HS0 := hidIn hs0
  have HR9 := hidIn hrr
  clear hs0 hrr
  go_wp2_with fail
  refine (Rn.number_any s.1 W (by have := HSZ.out; unfold maxLen; omega)).mono ?_
  rintro e w2 ⟨rfl, hb2⟩
  have hk := HBK.out.below hb2 HBK.out.lt
  have d0 : w2.cell? ⟨w1.heap.size, 0, none⟩ = some (.string s.1) := hk.cell 0
  have d1 : w2.cell? ⟨w1.heap.size, 1, none⟩ = some (.int .i64 s.2) := hk.cell 1
  have HR1 := hidIn (HR0.out.below hb2)
  have HG1 := hidIn (HG0.out.tr (Grew.of_below hb2))
  clear hb2 hk c0 c1
  have hn0 : Rn.numOf s.1.data.toList = (0, false) := by rw [HS0.out]; rfl
  rw [hn0]
  clear hn0
  go_wp2_with fail
  refine (fit_any _ R r1 s _ HR1.out).mono ?_
  rintro e v2 ⟨rfl, h, hg⟩
  have HR2 := hidIn h
  have HG2 := hidIn (HG1.out.tr hg)
  clear h hg
  go_wp2_with fail
  go_ret
  have h2 := HR2.out
  rw [HR9.out, HDE.out.2.2] at h2
  exact ⟨rfl, h2, HG2.out⟩
theorem obs_all : ∀ f d, d + f = 15 → ObsC f d := by
  intro f
  induction f with
  | zero =>
    intro d hd r w R he h
    refine (obs_dead d (by omega) r w R (he (by omega)) h).mono ?_
    rintro e w' ⟨rfl, h1, h2⟩
    exact ⟨rfl, by show _ ∧ _; decide, h1, h2⟩
  | succ f ih =>
    intro d hd r w R he h
    exact obs_step f d hd (ih (d + 1) (by omega)) r w R he h

end Go.Proofs.YtfmjjfpajohihaaGreatDoor
namespace Go.Proofs.YtfmjjfpajohihaaGreatDoor
open Go.RowKit
set_option linter.unusedVariables false

theorem termR_e (f : Nat) : ∀ r d, r.e ≠ 0 → (termR f r d).2.e ≠ 0 := by
  induction f with
  | zero => intro r d h; exact h
  | succ f ih =>
    intro r d h
    have h1 := firstR_e r d h
    have ih' : ∀ q, q.e ≠ 0 → ((fun q => termR f q (d + 1)) q).2.e ≠ 0 := fun q hq => ih q (d + 1) hq
    unfold termR
    repeat' split
    · exact h1
    · exact markR_e _ _ (nameR_e _ (markR_e _ _ h1))
    · exact lastF_e _ ih' _ (markR_e _ _ h1)
    · exact lastsF_e _ ih' _ (markR_e _ _ h1)
    · exact lastsF_e _ ih' _ (markR_e _ _ (nameR_e _ (markR_e _ _ h1)))
    · exact lastF_e _ ih' _ (markR_e _ _ (obsR_e _ _ _ (markR_e _ _ h1)))
    · exact lastF_e _ ih' _ (markR_e _ _ (dayR_e _ (markR_e _ _ h1)))
    · exact lastsF_e _ ih' _ (markR_e _ _ (obsR_e _ _ _ (markR_e _ _ h1)))
    · exact fitR_e _ _ _ h1

set_option maxHeartbeats 1000000 in
set_option maxRecDepth 100000 in
theorem last_any (f d : Nat) (hd : d ≤ 100) (hI : TermC f (d + 1)) (r : RS) (w : World) (R : Nat) (he : 13 ≤ d → r.e ≠ 0) (h : RIn w R r) :
    Calls Tryz.prog 40 #[.pointer (some ⟨R, 0, none⟩), .int .i64 (d : Int)] w fun e w' => e = .returned (lastF (fun q => termR f q (d + 1)) r).1.val ∧ (lastF (fun q => termR f q (d + 1)) r).1.Ok ∧ RIn w' R (lastF (fun q => termR f q (d + 1)) r).2 ∧ Grew R none w w' := by
  have HI : Hid (∀ (r : RS) (w : World) (R : Nat), (13 ≤ d → r.e ≠ 0) → RIn w R r → Calls Tryz.prog 21 #[.pointer (some ⟨R, 0, none⟩), .int .i64 ((d : Int) + 1)] w fun e w' => e = .returned (termR f r (d + 1)).1.val ∧ (termR f r (d + 1)).1.Ok ∧ RIn w' R (termR f r (d + 1)).2 ∧ Grew R none w w') := fun r w R hr hR => hI r w R (fun hd => hr (by omega)) hR
  have HH := hidIn h
  have HE0 := hidIn he
  clear h hI he
  unfold lastF
  go_enter Tryz.func40, Tryz.ntmps40
  go_wp2_with fail
  refine (HI.out _ w R HE0.out HH.out).mono ?_
  rintro e w2 ⟨rfl, hok2, h2, hg2⟩
  have HR2 := hidIn h2
  have HO2 := hidIn hok2
  have HG2 := hidIn hg2
  clear h2 hg2 hok2
  go_wp2_with fail
  refine (mark_any w2 R _ rpB HR2.out).mono ?_
  rintro e w3 ⟨rfl, h3, hg3⟩
  have HR3 := hidIn h3
  have HG3 := hidIn (HG2.out.tr hg3)
  clear h3 hg3
  go_wp2_with fail
  go_ret
  exact ⟨rfl, HO2.out, HR3.out, HG3.out⟩
set_option maxHeartbeats 1000000 in
set_option maxRecDepth 100000 in
theorem lasts_any (f d : Nat) (hd : d ≤ 100) (hI : TermC f (d + 1)) (r : RS) (w : World) (R : Nat) (he : 13 ≤ d → r.e ≠ 0) (h : RIn w R r) :
    Calls Tryz.prog 41 #[.pointer (some ⟨R, 0, none⟩), .int .i64 (d : Int)] w fun e w' => e = .returned (.tuple #[(lastsF (fun q => termR f q (d + 1)) r).1.val, (lastsF (fun q => termR f q (d + 1)) r).2.1.val]) ∧ (lastsF (fun q => termR f q (d + 1)) r).1.Ok ∧ (lastsF (fun q => termR f q (d + 1)) r).2.1.Ok ∧ RIn w' R (lastsF (fun q => termR f q (d + 1)) r).2.2 ∧ Grew R none w w' := by
  have HI : Hid (∀ (r : RS) (w : World) (R : Nat), (13 ≤ d → r.e ≠ 0) → RIn w R r → Calls Tryz.prog 21 #[.pointer (some ⟨R, 0, none⟩), .int .i64 ((d : Int) + 1)] w fun e w' => e = .returned (termR f r (d + 1)).1.val ∧ (termR f r (d + 1)).1.Ok ∧ RIn w' R (termR f r (d + 1)).2 ∧ Grew R none w w') := fun r w R hr hR => hI r w R (fun hd => hr (by omega)) hR
  have HL := hidIn (last_any f d hd hI)
  have HH := hidIn h
  have HE0 := hidIn he
  clear h hI he
  unfold lastsF
  go_enter Tryz.func41, Tryz.ntmps41
  go_wp2_with fail
  refine (HI.out _ w R HE0.out HH.out).mono ?_
  rintro e w2 ⟨rfl, hok2, h2, hg2⟩
  have HR2 := hidIn h2
  have HO2 := hidIn hok2
  have HG2 := hidIn hg2
  have HE2 : Hid (13 ≤ d → (termR f r (d + 1)).2.e ≠ 0) := fun hd => termR_e _ _ _ (HE0.out hd)
  clear h2 hg2 hok2
  go_wp2_with fail
  refine (mark_any w2 R _ cmB HR2.out).mono ?_
  rintro e w3 ⟨rfl, h3, hg3⟩
  have HR3 := hidIn h3
  have HG3 := hidIn (HG2.out.tr hg3)
  clear h3 hg3
  go_wp2_with fail
  refine (HL.out _ w3 R (fun hd => markR_e _ _ (HE2.out hd)) HR3.out).mono ?_
  rintro e w4 ⟨rfl, hok4, h4, hg4⟩
  have HR4 := hidIn h4
  have HO4 := hidIn hok4
  have HG4 := hidIn (HG3.out.tr hg4)
  clear h4 hg4 hok4
  go_wp2_with fail
  go_ret2
  exact ⟨rfl, HO2.out, HO4.out, HR4.out, HG4.out⟩

set_option maxHeartbeats 4000000 in
set_option maxRecDepth 100000 in
theorem term_step (f d : Nat) (hdf : d + (f + 1) = 15) (hI : TermC f (d + 1)) (r : RS) (w : World) (R : Nat) (he : 14 ≤ d → r.e ≠ 0) (h : RIn w R r) :
    Calls Tryz.prog 21 #[.pointer (some ⟨R, 0, none⟩), .int .i64 (d : Int)] w fun e w' => e = .returned (termR (f + 1) r d).1.val ∧ (termR (f + 1) r d).1.Ok ∧ RIn w' R (termR (f + 1) r d).2 ∧ Grew R none w w' := by
  have hO := obs_all f (d + 1) (by omega)
  have HI : Hid (∀ (r : RS) (w : World) (R : Nat), (13 ≤ d → r.e ≠ 0) → RIn w R r → Calls Tryz.prog 27 #[.pointer (some ⟨R, 0, none⟩), .int .i64 ((d : Int) + 1)] w fun e w' => e = .returned (obsR f r (d + 1)).1.val ∧ (obsR f r (d + 1)).1.Ok ∧ RIn w' R (obsR f r (d + 1)).2 ∧ Grew R none w w') := fun r w R hr hR => hO r w R (fun hd => hr (by omega)) hR
  have HL1 := hidIn (last_any f d (by omega) hI)
  have HL2 := hidIn (lasts_any f d (by omega) hI)
  clear hI hO
  have HH := hidIn h
  have HLT0 := hidIn h.lt
  have HSZ := hidIn (takeS_size h)
  have HDD : Hid (d + (f + 1) = 15) := hdf
  have HER := hidIn he
  clear h he
  go_enter Tryz.func21, Tryz.ntmps21
  go_wp2_with fail
  refine (first_any w R r d (by omega) HH.out).mono ?_
  rintro e w1 ⟨rfl, h1, hg1⟩
  have HR1 := hidIn h1
  have HG1 := hidIn hg1
  have HE1 : Hid (13 ≤ d → (firstR r d).e ≠ 0) := fun hd => firstR_deep r d (by omega)
  clear h1 hg1
  obtain ⟨s, hse⟩ : ∃ s, takeS r = s := ⟨_, rfl⟩
  have HSE := hidIn hse
  rw [hse] at HSZ
  rw [hse]
  clear hse
  unfold sgV
  go_upto_region 3 with fail
  obtain ⟨W, hW⟩ : ∃ W, W = w1.alloc (.cells #[.string s.1, .int .i64 s.2] 110) := ⟨_, rfl⟩
  have HBL : Hid (Below w1.heap.size w1 W) := by rw [hW]; exact below_alloc (Below.refl _ _) _
  have HBK : Hid (Blk W w1.heap.size 110 #[.string s.1, .int .i64 s.2]) := by rw [hW]; exact blk_new rfl
  have HR0 := hidIn (HR1.out.below HBL.out)
  have HG0 : Hid (Grew R none w W) := HG1.out.tr (Grew.of_below HBL.out)
  have c0 : W.cell? ⟨w1.heap.size, 0, none⟩ = some (.string s.1) := HBK.out.cell 0
  have c1 : W.cell? ⟨w1.heap.size, 1, none⟩ = some (.int .i64 s.2) := HBK.out.cell 1
  rw [← hW]
  clear hW HR1 HG1
  obtain ⟨r1, hr1⟩ : ∃ r1, firstR r d = r1 := ⟨_, rfl⟩
  rw [hr1] at HR0 HE1
  have HRR := hidIn hr1
  clear hr1

  by_cases k0 : s.1 = wZero
  · have HT : Hid (termR (f + 1) r d = (.zero, r1)) := by show _ = _; rw [termR, HSE.out, HRR.out, if_pos k0]
    have y : (s.1.toList == [122, 101, 114, 111]) = true := by rw [tl_eq tlZero]; exact decide_eq_true k0
    clear k0
    go_wp2_with fail
    go_ret
    rw [HT.out]
    exact ⟨rfl, trivial, HR0.out, HG0.out⟩
  by_cases k1 : s.1 = wOne
  · have HT : Hid (termR (f + 1) r d = (.one (takeS (markR r1 lpB)).1, markR (nameR (markR r1 lpB)) rpB)) := by show _ = _; rw [termR, HSE.out, HRR.out, if_neg k0, if_pos k1]
    have n0 : (s.1.toList == [122, 101, 114, 111]) = false := by rw [tl_eq tlZero]; exact decide_eq_false k0
    have y : (s.1.toList == [111, 110, 101]) = true := by rw [tl_eq tlOne]; exact decide_eq_true k1
    clear k0 k1
    go_wp2_with fail
    refine (mark_any W R r1 lpB HR0.out).mono ?_
    rintro e v1 ⟨rfl, h, hg⟩
    have HR1 := hidIn h
    have HG1 := hidIn (HG0.out.tr hg)
    clear h hg
    have HNS := hidIn (takeS_size HR1.out)
    go_wp2_with fail
    refine (rname_any _ R _ HR1.out).mono ?_
    rintro e v2 ⟨rfl, h, hg⟩
    have HR2 := hidIn h
    have HG2 := hidIn (HG1.out.tr hg)
    clear h hg
    go_wp2_with fail
    refine (mark_any _ R _ rpB HR2.out).mono ?_
    rintro e v3 ⟨rfl, h, hg⟩
    have HR3 := hidIn h
    have HG3 := hidIn (HG2.out.tr hg)
    clear h hg
    go_wp2_with fail
    go_ret
    rw [HT.out]
    exact ⟨rfl, HNS.out, HR3.out, HG3.out⟩
  by_cases k2 : s.1 = wGive
  · have HT : Hid (termR (f + 1) r d = (.give (lastF (fun q => termR f q (d + 1)) (markR r1 lpB)).1, (lastF (fun q => termR f q (d + 1)) (markR r1 lpB)).2)) := by show _ = _; rw [termR, HSE.out, HRR.out, if_neg k0, if_neg k1, if_pos k2]
    have n0 : (s.1.toList == [122, 101, 114, 111]) = false := by rw [tl_eq tlZero]; exact decide_eq_false k0
    have n1 : (s.1.toList == [111, 110, 101]) = false := by rw [tl_eq tlOne]; exact decide_eq_false k1
    have y : (s.1.toList == [103, 105, 118, 101]) = true := by rw [tl_eq tlGive]; exact decide_eq_true k2
    clear k0 k1 k2
    go_wp2_with fail
    refine (mark_any W R r1 lpB HR0.out).mono ?_
    rintro e v1 ⟨rfl, h, hg⟩
    have HR1 := hidIn h
    have HG1 := hidIn (HG0.out.tr hg)
    clear h hg
    go_wp2_with fail
    refine (HL1.out _ _ R (fun hd => markR_e _ _ (HE1.out hd)) HR1.out).mono ?_
    rintro e v2 ⟨rfl, ho, h, hg⟩
    have HO2 := hidIn ho
    clear ho
    have HR2 := hidIn h
    have HG2 := hidIn (HG1.out.tr hg)
    clear h hg
    obtain ⟨xa, hxa⟩ : ∃ v, (lastF (fun q => termR f q (d + 1)) (markR r1 lpB)).1.val = v := ⟨_, rfl⟩
    have HXa := hidIn hxa
    have qa := (lastF (fun q => termR f q (d + 1)) (markR r1 lpB)).1.one' HO2.out
    rw [hxa] at qa
    rw [hxa]
    clear hxa
    have sva := qa.store
    have cva := qa.cells
    have mva := qa.cells
    unfold Value.cells at mva
    clear qa
    go_wp2_with fail
    go_ret
    rw [HT.out]
    exact ⟨by show _ = Ending.returned (.iface _ (.agg #[C.val _])); rw [HXa.out]; rfl, HO2.out, HR2.out, HG2.out⟩
  by_cases k3 : s.1 = wAnd
  · have HT : Hid (termR (f + 1) r d = (.and (lastsF (fun q => termR f q (d + 1)) (markR r1 lpB)).1 (lastsF (fun q => termR f q (d + 1)) (markR r1 lpB)).2.1, (lastsF (fun q => termR f q (d + 1)) (markR r1 lpB)).2.2)) := by show _ = _; rw [termR, HSE.out, HRR.out, if_neg k0, if_neg k1, if_neg k2, if_pos k3]
    have n0 : (s.1.toList == [122, 101, 114, 111]) = false := by rw [tl_eq tlZero]; exact decide_eq_false k0
    have n1 : (s.1.toList == [111, 110, 101]) = false := by rw [tl_eq tlOne]; exact decide_eq_false k1
    have n2 : (s.1.toList == [103, 105, 118, 101]) = false := by rw [tl_eq tlGive]; exact decide_eq_false k2
    have y : (s.1.toList == [97, 110, 100]) = true := by rw [tl_eq tlAnd]; exact decide_eq_true k3
    clear k0 k1 k2 k3
    go_wp2_with fail
    refine (mark_any W R r1 lpB HR0.out).mono ?_
    rintro e v1 ⟨rfl, h, hg⟩
    have HR1 := hidIn h
    have HG1 := hidIn (HG0.out.tr hg)
    clear h hg
    go_wp2_with fail
    refine (HL2.out _ _ R (fun hd => markR_e _ _ (HE1.out hd)) HR1.out).mono ?_
    rintro e v2 ⟨rfl, ho, ho2, h, hg⟩
    have HO2 := hidIn ho
    have HP2 := hidIn ho2
    clear ho ho2
    have HR2 := hidIn h
    have HG2 := hidIn (HG1.out.tr hg)
    clear h hg
    obtain ⟨xa, hxa⟩ : ∃ v, (lastsF (fun q => termR f q (d + 1)) (markR r1 lpB)).1.val = v := ⟨_, rfl⟩
    have HXa := hidIn hxa
    have qa := (lastsF (fun q => termR f q (d + 1)) (markR r1 lpB)).1.one' HO2.out
    rw [hxa] at qa
    rw [hxa]
    clear hxa
    have sva := qa.store
    have cva := qa.cells
    have mva := qa.cells
    unfold Value.cells at mva
    clear qa
    obtain ⟨xb, hxb⟩ : ∃ v, (lastsF (fun q => termR f q (d + 1)) (markR r1 lpB)).2.1.val = v := ⟨_, rfl⟩
    have HXb := hidIn hxb
    have qb := (lastsF (fun q => termR f q (d + 1)) (markR r1 lpB)).2.1.one' HP2.out
    rw [hxb] at qb
    rw [hxb]
    clear hxb
    have svb := qb.store
    have cvb := qb.cells
    have mvb := qb.cells
    unfold Value.cells at mvb
    clear qb
    go_wp2_with fail
    go_ret
    rw [HT.out]
    exact ⟨by show _ = Ending.returned (.iface _ (.agg #[C.val _, C.val _])); rw [HXa.out, HXb.out]; rfl, ⟨HO2.out, HP2.out⟩, HR2.out, HG2.out⟩
  by_cases k4 : s.1 = wOr
  · have HT : Hid (termR (f + 1) r d = (.or (takeS (markR r1 lpB)).1 (lastsF (fun q => termR f q (d + 1)) (markR (nameR (markR r1 lpB)) cmB)).1 (lastsF (fun q => termR f q (d + 1)) (markR (nameR (markR r1 lpB)) cmB)).2.1, (lastsF (fun q => termR f q (d + 1)) (markR (nameR (markR r1 lpB)) cmB)).2.2)) := by show _ = _; rw [termR, HSE.out, HRR.out, if_neg k0, if_neg k1, if_neg k2, if_neg k3, if_pos k4]
    have n0 : (s.1.toList == [122, 101, 114, 111]) = false := by rw [tl_eq tlZero]; exact decide_eq_false k0
    have n1 : (s.1.toList == [111, 110, 101]) = false := by rw [tl_eq tlOne]; exact decide_eq_false k1
    have n2 : (s.1.toList == [103, 105, 118, 101]) = false := by rw [tl_eq tlGive]; exact decide_eq_false k2
    have n3 : (s.1.toList == [97, 110, 100]) = false := by rw [tl_eq tlAnd]; exact decide_eq_false k3
    have y : (s.1.toList == [111, 114]) = true := by rw [tl_eq tlOr]; exact decide_eq_true k4
    clear k0 k1 k2 k3 k4
    go_wp2_with fail
    refine (mark_any W R r1 lpB HR0.out).mono ?_
    rintro e v1 ⟨rfl, h, hg⟩
    have HR1 := hidIn h
    have HG1 := hidIn (HG0.out.tr hg)
    clear h hg
    have HNS := hidIn (takeS_size HR1.out)
    go_wp2_with fail
    refine (rname_any _ R _ HR1.out).mono ?_
    rintro e v2 ⟨rfl, h, hg⟩
    have HR2 := hidIn h
    have HG2 := hidIn (HG1.out.tr hg)
    clear h hg
    go_wp2_with fail
    refine (mark_any _ R _ cmB HR2.out).mono ?_
    rintro e v3 ⟨rfl, h, hg⟩
    have HR3 := hidIn h
    have HG3 := hidIn (HG2.out.tr hg)
    clear h hg
    go_wp2_with fail
    refine (HL2.out _ _ R (fun hd => markR_e _ _ (nameR_e _ (markR_e _ _ (HE1.out hd)))) HR3.out).mono ?_
    rintro e v4 ⟨rfl, ho, ho2, h, hg⟩
    have HO4 := hidIn ho
    have HP4 := hidIn ho2
    clear ho ho2
    have HR4 := hidIn h
    have HG4 := hidIn (HG3.out.tr hg)
    clear h hg
    obtain ⟨xa, hxa⟩ : ∃ v, (lastsF (fun q => termR f q (d + 1)) (markR (nameR (markR r1 lpB)) cmB)).1.val = v := ⟨_, rfl⟩
    have HXa := hidIn hxa
    have qa := (lastsF (fun q => termR f q (d + 1)) (markR (nameR (markR r1 lpB)) cmB)).1.one' HO4.out
    rw [hxa] at qa
    rw [hxa]
    clear hxa
    have sva := qa.store
    have cva := qa.cells
    have mva := qa.cells
    unfold Value.cells at mva
    clear qa
    obtain ⟨xb, hxb⟩ : ∃ v, (lastsF (fun q => termR f q (d + 1)) (markR (nameR (markR r1 lpB)) cmB)).2.1.val = v := ⟨_, rfl⟩
    have HXb := hidIn hxb
    have qb := (lastsF (fun q => termR f q (d + 1)) (markR (nameR (markR r1 lpB)) cmB)).2.1.one' HP4.out
    rw [hxb] at qb
    rw [hxb]
    clear hxb
    have svb := qb.store
    have cvb := qb.cells
    have mvb := qb.cells
    unfold Value.cells at mvb
    clear qb
    go_wp2_with fail
    go_ret
    rw [HT.out]
    exact ⟨by show _ = Ending.returned (.iface _ (.agg #[_, C.val _, C.val _])); rw [HXa.out, HXb.out]; rfl, ⟨HNS.out, HO4.out, HP4.out⟩, HR4.out, HG4.out⟩
  by_cases k5 : s.1 = wScale
  · have HT : Hid (termR (f + 1) r d = (.scale (obsR f (markR r1 lpB) (d + 1)).1 (lastF (fun q => termR f q (d + 1)) (markR (obsR f (markR r1 lpB) (d + 1)).2 cmB)).1, (lastF (fun q => termR f q (d + 1)) (markR (obsR f (markR r1 lpB) (d + 1)).2 cmB)).2)) := by show _ = _; rw [termR, HSE.out, HRR.out, if_neg k0, if_neg k1, if_neg k2, if_neg k3, if_neg k4, if_pos k5]
    have n0 : (s.1.toList == [122, 101, 114, 111]) = false := by rw [tl_eq tlZero]; exact decide_eq_false k0
    have n1 : (s.1.toList == [111, 110, 101]) = false := by rw [tl_eq tlOne]; exact decide_eq_false k1
    have n2 : (s.1.toList == [103, 105, 118, 101]) = false := by rw [tl_eq tlGive]; exact decide_eq_false k2
    have n3 : (s.1.toList == [97, 110, 100]) = false := by rw [tl_eq tlAnd]; exact decide_eq_false k3
    have n4 : (s.1.toList == [111, 114]) = false := by rw [tl_eq tlOr]; exact decide_eq_false k4
    have y : (s.1.toList == [115, 99, 97, 108, 101]) = true := by rw [tl_eq tlScale]; exact decide_eq_true k5
    clear k0 k1 k2 k3 k4 k5
    go_wp2_with fail
    refine (mark_any W R r1 lpB HR0.out).mono ?_
    rintro e v1 ⟨rfl, h, hg⟩
    have HR1 := hidIn h
    have HG1 := hidIn (HG0.out.tr hg)
    clear h hg
    go_wp2_with fail
    refine (HI.out _ _ R (fun hd => markR_e _ _ (HE1.out hd)) HR1.out).mono ?_
    rintro e v2 ⟨rfl, ho, h, hg⟩
    have HO2 := hidIn ho
    clear ho
    have HR2 := hidIn h
    have HG2 := hidIn (HG1.out.tr hg)
    clear h hg
    obtain ⟨xa, hxa⟩ : ∃ v, (obsR f (markR r1 lpB) (d + 1)).1.val = v := ⟨_, rfl⟩
    have HXa := hidIn hxa
    have qa := (obsR f (markR r1 lpB) (d + 1)).1.one' HO2.out
    rw [hxa] at qa
    rw [hxa]
    clear hxa
    have sva := qa.store
    have cva := qa.cells
    have mva := qa.cells
    unfold Value.cells at mva
    clear qa
    go_wp2_with fail
    refine (mark_any _ R _ cmB HR2.out).mono ?_
    rintro e v3 ⟨rfl, h, hg⟩
    have HR3 := hidIn h
    have HG3 := hidIn (HG2.out.tr hg)
    clear h hg
    go_wp2_with fail
    refine (HL1.out _ _ R (fun hd => markR_e _ _ (obsR_e _ _ _ (markR_e _ _ (HE1.out hd)))) HR3.out).mono ?_
    rintro e v4 ⟨rfl, ho, h, hg⟩
    have HO4 := hidIn ho
    clear ho
    have HR4 := hidIn h
    have HG4 := hidIn (HG3.out.tr hg)
    clear h hg
    obtain ⟨xb, hxb⟩ : ∃ v, (lastF (fun q => termR f q (d + 1)) (markR (obsR f (markR r1 lpB) (d + 1)).2 cmB)).1.val = v := ⟨_, rfl⟩
    have HXb := hidIn hxb
    have qb := (lastF (fun q => termR f q (d + 1)) (markR (obsR f (markR r1 lpB) (d + 1)).2 cmB)).1.one' HO4.out
    rw [hxb] at qb
    rw [hxb]
    clear hxb
    have svb := qb.store
    have cvb := qb.cells
    have mvb := qb.cells
    unfold Value.cells at mvb
    clear qb
    go_wp2_with fail
    go_ret
    rw [HT.out]
    exact ⟨by show _ = Ending.returned (.iface _ (.agg #[O.val _, C.val _])); rw [HXa.out, HXb.out]; rfl, ⟨HO2.out, HO4.out⟩, HR4.out, HG4.out⟩
  by_cases k6 : s.1 = wWhen
  · have HT : Hid (termR (f + 1) r d = (.when (dayV (markR r1 lpB)) (lastF (fun q => termR f q (d + 1)) (markR (dayR (markR r1 lpB)) cmB)).1, (lastF (fun q => termR f q (d + 1)) (markR (dayR (markR r1 lpB)) cmB)).2)) := by show _ = _; rw [termR, HSE.out, HRR.out, if_neg k0, if_neg k1, if_neg k2, if_neg k3, if_neg k4, if_neg k5, if_pos k6]
    have n0 : (s.1.toList == [122, 101, 114, 111]) = false := by rw [tl_eq tlZero]; exact decide_eq_false k0
    have n1 : (s.1.toList == [111, 110, 101]) = false := by rw [tl_eq tlOne]; exact decide_eq_false k1
    have n2 : (s.1.toList == [103, 105, 118, 101]) = false := by rw [tl_eq tlGive]; exact decide_eq_false k2
    have n3 : (s.1.toList == [97, 110, 100]) = false := by rw [tl_eq tlAnd]; exact decide_eq_false k3
    have n4 : (s.1.toList == [111, 114]) = false := by rw [tl_eq tlOr]; exact decide_eq_false k4
    have n5 : (s.1.toList == [115, 99, 97, 108, 101]) = false := by rw [tl_eq tlScale]; exact decide_eq_false k5
    have y : (s.1.toList == [119, 104, 101, 110]) = true := by rw [tl_eq tlWhen]; exact decide_eq_true k6
    clear k0 k1 k2 k3 k4 k5 k6
    go_wp2_with fail
    refine (mark_any W R r1 lpB HR0.out).mono ?_
    rintro e v1 ⟨rfl, h, hg⟩
    have HR1 := hidIn h
    have HG1 := hidIn (HG0.out.tr hg)
    clear h hg
    have HNB := hidIn (numOf_bd (takeS (markR r1 lpB)).1.data.toList)
    go_wp2_with fail
    refine (rday_any _ R _ HR1.out).mono ?_
    rintro e v2 ⟨rfl, h, hg⟩
    have HR2 := hidIn h
    have HG2 := hidIn (HG1.out.tr hg)
    clear h hg
    go_wp2_with fail
    refine (mark_any _ R _ cmB HR2.out).mono ?_
    rintro e v3 ⟨rfl, h, hg⟩
    have HR3 := hidIn h
    have HG3 := hidIn (HG2.out.tr hg)
    clear h hg
    go_wp2_with fail
    refine (HL1.out _ _ R (fun hd => markR_e _ _ (dayR_e _ (markR_e _ _ (HE1.out hd)))) HR3.out).mono ?_
    rintro e v4 ⟨rfl, ho, h, hg⟩
    have HO4 := hidIn ho
    clear ho
    have HR4 := hidIn h
    have HG4 := hidIn (HG3.out.tr hg)
    clear h hg
    obtain ⟨xb, hxb⟩ : ∃ v, (lastF (fun q => termR f q (d + 1)) (markR (dayR (markR r1 lpB)) cmB)).1.val = v := ⟨_, rfl⟩
    have HXb := hidIn hxb
    have qb := (lastF (fun q => termR f q (d + 1)) (markR (dayR (markR r1 lpB)) cmB)).1.one' HO4.out
    rw [hxb] at qb
    rw [hxb]
    clear hxb
    have svb := qb.store
    have cvb := qb.cells
    have mvb := qb.cells
    unfold Value.cells at mvb
    clear qb
    go_wp2_with fail
    go_ret
    rw [HT.out]
    exact ⟨by show _ = Ending.returned (.iface _ (.agg #[_, C.val _])); rw [HXb.out]; rfl, ⟨HNB.out, HO4.out⟩, HR4.out, HG4.out⟩
  by_cases k7 : s.1 = wIf
  · have HT : Hid (termR (f + 1) r d = (.iff (obsR f (markR r1 lpB) (d + 1)).1 (lastsF (fun q => termR f q (d + 1)) (markR (obsR f (markR r1 lpB) (d + 1)).2 cmB)).1 (lastsF (fun q => termR f q (d + 1)) (markR (obsR f (markR r1 lpB) (d + 1)).2 cmB)).2.1, (lastsF (fun q => termR f q (d + 1)) (markR (obsR f (markR r1 lpB) (d + 1)).2 cmB)).2.2)) := by show _ = _; rw [termR, HSE.out, HRR.out, if_neg k0, if_neg k1, if_neg k2, if_neg k3, if_neg k4, if_neg k5, if_neg k6, if_pos k7]
    have n0 : (s.1.toList == [122, 101, 114, 111]) = false := by rw [tl_eq tlZero]; exact decide_eq_false k0
    have n1 : (s.1.toList == [111, 110, 101]) = false := by rw [tl_eq tlOne]; exact decide_eq_false k1
    have n2 : (s.1.toList == [103, 105, 118, 101]) = false := by rw [tl_eq tlGive]; exact decide_eq_false k2
    have n3 : (s.1.toList == [97, 110, 100]) = false := by rw [tl_eq tlAnd]; exact decide_eq_false k3
    have n4 : (s.1.toList == [111, 114]) = false := by rw [tl_eq tlOr]; exact decide_eq_false k4
    have n5 : (s.1.toList == [115, 99, 97, 108, 101]) = false := by rw [tl_eq tlScale]; exact decide_eq_false k5
    have n6 : (s.1.toList == [119, 104, 101, 110]) = false := by rw [tl_eq tlWhen]; exact decide_eq_false k6
    have y : (s.1.toList == [105, 102]) = true := by rw [tl_eq tlIf]; exact decide_eq_true k7
    clear k0 k1 k2 k3 k4 k5 k6 k7
    go_wp2_with fail
    refine (mark_any W R r1 lpB HR0.out).mono ?_
    rintro e v1 ⟨rfl, h, hg⟩
    have HR1 := hidIn h
    have HG1 := hidIn (HG0.out.tr hg)
    clear h hg
    go_wp2_with fail
    refine (HI.out _ _ R (fun hd => markR_e _ _ (HE1.out hd)) HR1.out).mono ?_
    rintro e v2 ⟨rfl, ho, h, hg⟩
    have HO2 := hidIn ho
    clear ho
    have HR2 := hidIn h
    have HG2 := hidIn (HG1.out.tr hg)
    clear h hg
    obtain ⟨xa, hxa⟩ : ∃ v, (obsR f (markR r1 lpB) (d + 1)).1.val = v := ⟨_, rfl⟩
    have HXa := hidIn hxa
    have qa := (obsR f (markR r1 lpB) (d + 1)).1.one' HO2.out
    rw [hxa] at qa
    rw [hxa]
    clear hxa
    have sva := qa.store
    have cva := qa.cells
    have mva := qa.cells
    unfold Value.cells at mva
    clear qa
    go_wp2_with fail
    refine (mark_any _ R _ cmB HR2.out).mono ?_
    rintro e v3 ⟨rfl, h, hg⟩
    have HR3 := hidIn h
    have HG3 := hidIn (HG2.out.tr hg)
    clear h hg
    go_wp2_with fail
    refine (HL2.out _ _ R (fun hd => markR_e _ _ (obsR_e _ _ _ (markR_e _ _ (HE1.out hd)))) HR3.out).mono ?_
    rintro e v4 ⟨rfl, ho, ho2, h, hg⟩
    have HO4 := hidIn ho
    have HP4 := hidIn ho2
    clear ho ho2
    have HR4 := hidIn h
    have HG4 := hidIn (HG3.out.tr hg)
    clear h hg
    obtain ⟨xb, hxb⟩ : ∃ v, (lastsF (fun q => termR f q (d + 1)) (markR (obsR f (markR r1 lpB) (d + 1)).2 cmB)).1.val = v := ⟨_, rfl⟩
    have HXb := hidIn hxb
    have qb := (lastsF (fun q => termR f q (d + 1)) (markR (obsR f (markR r1 lpB) (d + 1)).2 cmB)).1.one' HO4.out
    rw [hxb] at qb
    rw [hxb]
    clear hxb
    have svb := qb.store
    have cvb := qb.cells
    have mvb := qb.cells
    unfold Value.cells at mvb
    clear qb
    obtain ⟨xc, hxc⟩ : ∃ v, (lastsF (fun q => termR f q (d + 1)) (markR (obsR f (markR r1 lpB) (d + 1)).2 cmB)).2.1.val = v := ⟨_, rfl⟩
    have HXc := hidIn hxc
    have qc := (lastsF (fun q => termR f q (d + 1)) (markR (obsR f (markR r1 lpB) (d + 1)).2 cmB)).2.1.one' HP4.out
    rw [hxc] at qc
    rw [hxc]
    clear hxc
    have svc := qc.store
    have cvc := qc.cells
    have mvc := qc.cells
    unfold Value.cells at mvc
    clear qc
    go_wp2_with fail
    go_ret
    rw [HT.out]
    exact ⟨by show _ = Ending.returned (.iface _ (.agg #[O.val _, C.val _, C.val _])); rw [HXa.out, HXb.out, HXc.out]; rfl, ⟨HO2.out, HO4.out, HP4.out⟩, HR4.out, HG4.out⟩
  have HT : Hid (termR (f + 1) r d = (.odd .nilIface, fitR r1 s false)) := by show _ = _; rw [termR, HSE.out, HRR.out, if_neg k0, if_neg k1, if_neg k2, if_neg k3, if_neg k4, if_neg k5, if_neg k6, if_neg k7]
  have n0 : (s.1.toList == [122, 101, 114, 111]) = false := by rw [tl_eq tlZero]; exact decide_eq_false k0
  have n1 : (s.1.toList == [111, 110, 101]) = false := by rw [tl_eq tlOne]; exact decide_eq_false k1
  have n2 : (s.1.toList == [103, 105, 118, 101]) = false := by rw [tl_eq tlGive]; exact decide_eq_false k2
  have n3 : (s.1.toList == [97, 110, 100]) = false := by rw [tl_eq tlAnd]; exact decide_eq_false k3
  have n4 : (s.1.toList == [111, 114]) = false := by rw [tl_eq tlOr]; exact decide_eq_false k4
  have n5 : (s.1.toList == [115, 99, 97, 108, 101]) = false := by rw [tl_eq tlScale]; exact decide_eq_false k5
  have n6 : (s.1.toList == [119, 104, 101, 110]) = false := by rw [tl_eq tlWhen]; exact decide_eq_false k6
  have n7 : (s.1.toList == [105, 102]) = false := by rw [tl_eq tlIf]; exact decide_eq_false k7
  clear k0 k1 k2 k3 k4 k5 k6 k7
  go_wp2_with fail
  refine (fit_any _ R r1 s false HR0.out).mono ?_
  rintro e v1 ⟨rfl, h, hg⟩
  have HR1 := hidIn h
  have HG1 := hidIn (HG0.out.tr hg)
  clear h hg
  go_wp2_with fail
  go_ret
  rw [HT.out]
  exact ⟨rfl, .inl rfl, HR1.out, HG1.out⟩
set_option maxHeartbeats 4000000 in
set_option maxRecDepth 100000 in
theorem term_dead (d : Nat) (hd : d ≤ 15) (r : RS) (w : World) (R : Nat) (he : r.e ≠ 0) (h : RIn w R r) :
    Calls Tryz.prog 21 #[.pointer (some ⟨R, 0, none⟩), .int .i64 (d : Int)] w fun e w' => e = .returned .nilIface ∧ RIn w' R r ∧ Grew R none w w' := by
  have hdf : d + (0 + 1) ≤ 16 := by omega
  have HDE : Hid (takeS r = (⟨#[]⟩, r.past) ∧ firstR r d = r ∧ ∀ s, fitR r s false = r) := ⟨takeS_none r he, dead_first r d he, fun s => dead_fit r s he⟩
  clear he
  have HH := hidIn h
  have HLT0 := hidIn h.lt
  have HSZ := hidIn (takeS_size h)
  clear h
  go_enter Tryz.func21, Tryz.ntmps21
  go_wp2_with fail
  refine (first_any w R r d (by omega) HH.out).mono ?_
  rintro e w1 ⟨rfl, h1, hg1⟩
  have HR1 := hidIn h1
  have HG1 := hidIn hg1
  clear h1 hg1
  obtain ⟨s, hse⟩ : ∃ s, takeS r = s := ⟨_, rfl⟩
  have HSE := hidIn hse
  rw [hse] at HSZ
  rw [hse]
  clear hse
  unfold sgV
  go_upto_region 3 with fail
  obtain ⟨W, hW⟩ : ∃ W, W = w1.alloc (.cells #[.string s.1, .int .i64 s.2] 110) := ⟨_, rfl⟩
  have HBL : Hid (Below w1.heap.size w1 W) := by rw [hW]; exact below_alloc (Below.refl _ _) _
  have HBK : Hid (Blk W w1.heap.size 110 #[.string s.1, .int .i64 s.2]) := by rw [hW]; exact blk_new rfl
  have HR0 := hidIn (HR1.out.below HBL.out)
  have HG0 : Hid (Grew R none w W) := HG1.out.tr (Grew.of_below HBL.out)
  have c0 : W.cell? ⟨w1.heap.size, 0, none⟩ = some (.string s.1) := HBK.out.cell 0
  have c1 : W.cell? ⟨w1.heap.size, 1, none⟩ = some (.int .i64 s.2) := HBK.out.cell 1
  rw [← hW]
  clear hW HR1 HG1
  obtain ⟨r1, hr1⟩ : ∃ r1, firstR r d = r1 := ⟨_, rfl⟩
  rw [hr1] at HR0
  have HRR := hidIn hr1
  clear hr1
  have hs0 : s = (⟨#[]⟩, r.past) := HSE.out.symm.trans HDE.out.1
  have hrr : r1 = r := HRR.out.symm.trans HDE.out.2.1
  have n0 : (s.1.toList == [122, 101, 114, 111]) = false := by rw [tl_eq tlZero, hs0]; show decide ((⟨#[]⟩ : ByteArray) = wZero) = false; decide
  have n1 : (s.1.toList == [111, 110, 101]) = false := by rw [tl_eq tlOne, hs0]; show decide ((⟨#[]⟩ : ByteArray) = wOne) = false; decide
  have n2 : (s.1.toList == [103, 105, 118, 101]) = false := by rw [tl_eq tlGive, hs0]; show decide ((⟨#[]⟩ : ByteArray) = wGive) = false; decide
  have n3 : (s.1.toList == [97, 110, 100]) = false := by rw [tl_eq tlAnd, hs0]; show decide ((⟨#[]⟩ : ByteArray) = wAnd) = false; decide
  have n4 : (s.1.toList == [111, 114]) = false := by rw [tl_eq tlOr, hs0]; show decide ((⟨#[]⟩ : ByteArray) = wOr) = false; decide
  have n5 : (s.1.toList == [115, 99, 97, 108, 101]) = false := by rw [tl_eq tlScale, hs0]; show decide ((⟨#[]⟩ : ByteArray) = wScale) = false; decide
  have n6 : (s.1.toList == [119, 104, 101, 110]) = false := by rw [tl_eq tlWhen, hs0]; show decide ((⟨#[]⟩ : ByteArray) = wWhen) = false; decide
  have n7 : (s.1.toList == [105, 102]) = false := by rw [tl_eq tlIf, hs0]; show decide ((⟨#[]⟩ : ByteArray) = wIf) = false; decide
  have HS0 := hidIn hs0
  have HR9 := hidIn hrr
  clear hs0 hrr
  go_wp2_with fail
  refine (fit_any _ R r1 s false HR0.out).mono ?_
  rintro e v1 ⟨rfl, h, hg⟩
  have HR1 := hidIn h
  have HG1 := hidIn (HG0.out.tr hg)
  clear h hg
  go_wp2_with fail
  go_ret
  have h2 := HR1.out
  rw [HR9.out, HDE.out.2.2] at h2
  exact ⟨rfl, h2, HG1.out⟩
theorem term_all : ∀ f d, d + f = 15 → TermC f d := by
  intro f
  induction f with
  | zero =>
    intro d hd r w R he h
    refine (term_dead d (by omega) r w R (he (by omega)) h).mono ?_
    rintro e w' ⟨rfl, h1, h2⟩
    exact ⟨rfl, .inl rfl, h1, h2⟩
  | succ f ih =>
    intro d hd r w R he h
    exact term_step f d hd (ih (d + 1) (by omega)) r w R he h

end Go.Proofs.YtfmjjfpajohihaaGreatDoor
namespace Go.Proofs.YtfmjjfpajohihaaGreatDoor
open Go.RowKit
set_option linter.unusedVariables false

theorem enc_size (r : Int) : (Utf8.encode r).size ≤ 4 := by
  unfold Utf8.encode
  generalize (if Utf8.valid r = true then r.toNat else Utf8.runeError) = c
  simp only []
  split
  · show 1 ≤ 4; omega
  · split
    · show 2 ≤ 4; omega
    · split
      · show 3 ≤ 4; omega
      · show 4 ≤ 4; omega
theorem runesB_size (l : List Int) : (runesBytes l).size ≤ 4 * l.length := by
  have key : ∀ (l : List Int) (a : ByteArray), (l.foldl (fun r n => r ++ Utf8.encode n) a).size ≤ a.size + 4 * l.length := by
    intro l
    induction l with
    | nil => intro a; simp
    | cons x l ih =>
      intro a
      have h := ih (a ++ Utf8.encode x)
      have h2 := enc_size x
      rw [ByteArray.size_append] at h
      simp only [List.foldl_cons, List.length_cons]
      omega
  have h := key l ByteArray.empty
  simpa [runesBytes] using h
theorem endR_small (l : List Rn.Sg) (run : List Int) (e : Int) (N : Nat) (hl : ∀ x ∈ l, x.1.size ≤ 4 * N + 4) (hr : run.length ≤ N) : ∀ x ∈ Rn.endR l run e, x.1.size ≤ 4 * N + 4 := by
  unfold Rn.endR
  split
  · exact hl
  · intro x hx
    rcases List.mem_append.1 hx with h | h
    · exact hl x h
    · rw [List.mem_singleton] at h
      subst h
      have := runesB_size run
      show (runesBytes run).size ≤ _
      omega
theorem cut_small (rs : List Int) : ∀ (l : List Rn.Sg) (run : List Int) (p N : Nat), (∀ x ∈ l, x.1.size ≤ 4 * N + 4) → run.length + rs.length ≤ N → ∀ x ∈ Rn.cutGo l run p rs, x.1.size ≤ 4 * N + 4 := by
  induction rs with
  | nil => intro l run p N hl hr; exact endR_small l run _ N hl (by simpa using hr)
  | cons r rs ih =>
    intro l run p N hl hr
    simp only [List.length_cons] at hr
    unfold Rn.cutGo
    split
    · exact ih l (run ++ [r]) (p + 1) N hl (by simp; omega)
    · split
      · refine ih _ [] (p + 1) N ?_ (by simp; omega)
        intro x hx
        rcases List.mem_append.1 hx with h | h
        · exact endR_small l run _ N hl (by omega) x h
        · rw [List.mem_singleton] at h
          subst h
          have := enc_size r
          show (Utf8.encode r).size ≤ _
          omega
      · exact ih _ [] (p + 1) N (endR_small l run _ N hl (by omega)) (by simp; omega)
theorem sg_small (s : ByteArray) (hs : s.size ≤ 1000) : ∀ x ∈ Rn.sgOf s, x.1.size ≤ 2147483648 := by
  intro x hx
  have h1 := rest_length s 0
  have h2 := cut_small (runesOf s) [] [] 0 (runesOf s).length (by simp) (by simp) x hx
  have h3 : (runesOf s).length ≤ s.size := by unfold runesOf; omega
  omega
theorem sg_cell {w : World} {B : Nat} {e : TypeId} {v : Value} {l : List Rn.Sg} (h : w.ownsRow B e 2 v l.length (Rn.sgCells l)) : ∃ ao cap, v = .slice ao l.length cap ∧ l.length ≤ cap ∧ cap ≤ 9223372036854775807 ∧ ∀ k x, l[k]? = some x → ∃ g, ao = some ⟨g, 0, none⟩ ∧ g < w.heap.size ∧ w.cell? ⟨g, k * 2, none⟩ = some (.string x.1) ∧ w.cell? ⟨g, k * 2 + 1, none⟩ = some (.int .i64 x.2) := by
  have hcs : ∀ (l : List Rn.Sg) k x, l[k]? = some x → (Rn.sgCells l)[k * 2]? = some (.string x.1) ∧ (Rn.sgCells l)[k * 2 + 1]? = some (.int .i64 x.2) := by
    intro l
    induction l with
    | nil => intro k x hk; simp at hk
    | cons a l ih =>
      intro k x hk
      have e : Rn.sgCells (a :: l) = .string a.1 :: .int .i64 a.2 :: Rn.sgCells l := by simp [Rn.sgCells]
      rw [e]
      cases k with
      | zero => simp at hk; subst hk; exact ⟨rfl, rfl⟩
      | succ k =>
        have := ih k x (by simpa using hk)
        rw [show (k + 1) * 2 = k * 2 + 1 + 1 by omega]
        simpa using this
  have h' := h
  rcases h.2 with ⟨rfl, h0⟩ | ⟨g, cap, cur, rfl, hb, hg, hnc, hcm, _⟩
  · exact ⟨none, 0, by rw [h0], by omega, by omega, fun k x hk => by
      have := (List.getElem?_eq_some_iff.1 hk).1
      omega⟩
  · refine ⟨some ⟨g, 0, none⟩, cap, rfl, hnc, by unfold maxLen at hcm; omega, fun k x hk => ?_⟩
    have hlt := (List.getElem?_eq_some_iff.1 hk).1
    exact ⟨g, rfl, (Array.getElem?_eq_some_iff.1 hg).1, by rw [h'.cellAt _ (by omega)]; exact (hcs l k x hk).1, by rw [h'.cellAt _ (by omega)]; exact (hcs l k x hk).2⟩

theorem decode_fits (s : ByteArray) (i : Nat) (h : i < s.size) : i + (Utf8.decode s i).2 ≤ s.size := by
  unfold Utf8.decode
  simp only []
  split
  · show i + 1 ≤ _; omega
  · split
    · rename_i hc
      simp only [Bool.and_eq_true, decide_eq_true_eq, beq_iff_eq] at hc
      split
      · show i + 2 ≤ _; omega
      · show i + 1 ≤ _; omega
    · split
      · rename_i hc
        simp only [Bool.and_eq_true, decide_eq_true_eq, beq_iff_eq] at hc
        split
        · show i + 3 ≤ _; omega
        · show i + 1 ≤ _; omega
      · split
        · rename_i hc
          simp only [Bool.and_eq_true, decide_eq_true_eq, beq_iff_eq] at hc
          split
          · show i + 4 ≤ _; omega
          · show i + 1 ≤ _; omega
        · show i + 1 ≤ _; omega
set_option maxHeartbeats 1000000 in
set_option maxRecDepth 100000 in
theorem count_any (s : ByteArray) (w : World) (hs : s.size ≤ 1000) :
    Calls Tryz.prog 36 #[.string s] w fun e w' => e = .returned (.int .i64 ((runesOf s).length : Int)) ∧ ∃ pos, w' = w.iter s pos := by
  go_enter Tryz.func36, Tryz.ntmps36
  go_wp2
  go_loopw [3] (fun n w' => ∃ (pos p : Nat), p ≤ pos ∧ pos ≤ s.size ∧ w' = w.iter s pos ∧ n = .int .i64 p ∧ p + (rest s pos).length = (runesOf s).length) (fun _ w' => s.size - w'.iterPos w.heap.size)
  case atStart => exact ⟨0, 0, by omega, by omega, rfl, rfl, by show 0 + (rest s 0).length = (rest s 0).length; omega⟩
  case round =>
    obtain ⟨pos, p, hpp, hps, rfl, rfl, hc⟩ := hrel
    by_cases hp : pos < s.size
    · have hwd := width_pos s pos hp
      have hst := rest_step s pos hp
      have hle := decode_fits s pos hp
      have HC : Hid (p + 1 + (rest s (pos + (Utf8.decode s pos).2)).length = (runesOf s).length) := by rw [← hc, hst]; show _ = _; simp; omega
      clear hc hst
      have hnx : ∀ ty, (Instr.next (.pointer (some ⟨w.heap.size, 0, none⟩)) true ty).run Tryz.prog (w.iter s pos) = _ := fun ty => run_next_any w s pos ty hp
      generalize hr : ((Utf8.decode s pos).1 : Int) = r at *
      generalize hwi : (Utf8.decode s pos).2 = wi at *
      clear hr hwi
      go_wp2_with fail
      go_roundw
      case rel => exact ⟨pos + wi, p + 1, by omega, by omega, rfl, by go_num, HC.out⟩
      case measure => simp; omega
    · have hnx : ∀ ty, (Instr.next (.pointer (some ⟨w.heap.size, 0, none⟩)) true ty).run Tryz.prog (w.iter s pos) = _ := fun ty => run_next_end w s pos ty hp
      rw [rest_end s pos hp] at hc
      have HC2 : Hid (p = (runesOf s).length) := hc
      clear hc
      go_wp2
      go_ret
      refine ⟨ret_int ?_, _, rfl⟩
      rw [← HC2.out]
/-- A reader, opened on a text. -/
def openR (s : ByteArray) : RS :=
  if 1000 < s.size then ⟨[], 0, 0, 5⟩ else if Rn.badOf s ≠ 0 then ⟨[], 0, (Rn.badOf s : Int), 2⟩ else ⟨Rn.sgOf s, ((runesOf s).length : Int) + 1, 0, 0⟩
theorem rin_none {w : World} {R : Nat} {p a e : Int} (hb : Blk w R 56 #[.slice none 0 0, .int .i64 p, .int .i64 a, .int .i64 e]) : RIn w R ⟨[], p, a, e⟩ :=
  ⟨none, 0, hb, by simp, by omega, fun j x hj => by simp at hj⟩

set_option maxHeartbeats 2000000 in
set_option maxRecDepth 100000 in
theorem ropen_any (s : ByteArray) (w : World) (hs : s.size ≤ 140737488351232) :
    Calls Tryz.prog 20 #[.string s] w fun e w' => ∃ R, e = .returned (.pointer (some ⟨R, 0, none⟩)) ∧ w.heap.size ≤ R ∧ RIn w' R (openR s) ∧ Below w.heap.size w w' := by
  go_enter Tryz.func20, Tryz.ntmps20
  by_cases h1 : 1000 < s.size
  · have h1' : (1000 : Int) < (s.size : Int) := by omega
    have HO : Hid (openR s = ⟨[], 0, 0, 5⟩) := by show _ = _; unfold openR; rw [if_pos h1]
    go_wp2_with fail
    go_ret
    exact ⟨_, rfl, Nat.le_refl _, by rw [HO.out]; exact rin_none (blk_new rfl), below_alloc (Below.refl _ _) _⟩
  · have h1' : ¬ (1000 : Int) < (s.size : Int) := by omega
    by_cases h2 : Rn.badOf s = 0
    · have HO : Hid (openR s = ⟨Rn.sgOf s, ((runesOf s).length : Int) + 1, 0, 0⟩) := by show _ = _; unfold openR; rw [if_neg h1, if_neg (by simpa using h2)]
      have HSM := hidIn (sg_small s (by omega))
      have HRL : Hid ((runesOf s).length ≤ 1000) := by have := rest_length s 0; show (rest s 0).length ≤ _; omega
      go_wp2_with fail
      refine (Rn.signs_ok s w (by omega) h2).mono ?_
      rintro e w1 ⟨v, rfl, hown, hb1⟩
      obtain ⟨ao, cap, rfl, hc1, hc2, hcs⟩ := sg_cell hown
      have HCS := hidIn hcs
      have HB1 := hidIn hb1
      have HCC : Hid ((Rn.sgOf s).length ≤ cap ∧ cap ≤ 9223372036854775807) := ⟨hc1, hc2⟩
      clear hown hcs hb1 hc1 hc2
      go_wp2_with fail
      refine (count_any s w1 (by omega)).mono ?_
      rintro e w2 ⟨rfl, pos, rfl⟩
      have HB2 := hidIn (below_iter w1 s pos)
      have hrl := HRL.out
      generalize w1.iter s pos = w2 at *
      go_wp2_with fail
      go_ret
      refine ⟨_, rfl, Nat.le_trans HB1.out.size HB2.out.size, ?_, below_alloc (HB1.out.trans (HB2.out.mono HB1.out.size)) _⟩
      rw [HO.out]
      refine ⟨ao, cap, blk_new rfl, HCC.out.1, HCC.out.2, ?_⟩
      intro j x hj
      obtain ⟨g, rfl, hg, q0, q1⟩ := HCS.out j x hj
      have hb3 := below_alloc HB2.out (.cells #[.slice (some ⟨g, 0, none⟩) (Rn.sgOf s).length cap, .int .i64 (((runesOf s).length : Int) + 1), .int .i64 0, .int .i64 0] 56)
      refine ⟨g, 0, rfl, Nat.lt_of_lt_of_le hg HB2.out.size, by simp; have := HB2.out.size; omega, ?_, ?_, HSM.out x (List.mem_of_getElem? hj)⟩
      · rw [Nat.zero_add]; exact (hb3.cell (p := ⟨g, j * 2, none⟩) hg).trans q0
      · rw [Nat.zero_add]; exact (hb3.cell (p := ⟨g, j * 2 + 1, none⟩) hg).trans q1
    · have HO : Hid (openR s = ⟨[], 0, (Rn.badOf s : Int), 2⟩) := by show _ = _; unfold openR; rw [if_neg h1, if_pos h2]
      go_wp2_with fail
      refine (Rn.signs_bad s w (by unfold maxLen; omega) h2).mono ?_
      rintro e w1 ⟨rfl, hb1⟩
      have h2' : ((Rn.badOf s : Nat) : Int) ≠ 0 := by omega
      have h2n : (((Rn.badOf s : Nat) : Int) == 0) = false := beq_eq_false_iff_ne.2 h2'
      have HB1 := hidIn hb1
      clear hb1 h2
      generalize hbd : Rn.badOf s = bd at *
      go_wp2_with fail
      go_ret
      exact ⟨_, rfl, HB1.out.size, by rw [HO.out]; exact rin_none (blk_new rfl), below_alloc HB1.out _⟩

end Go.Proofs.YtfmjjfpajohihaaGreatDoor
namespace Go.Proofs.YtfmjjfpajohihaaGreatDoor
open Go.RowKit
set_option linter.unusedVariables false

theorem refuseR_left (r : RS) (p e : Int) : (refuseR r p e).left = r.left := by unfold refuseR; split <;> rfl
theorem fitR_left (r : RS) (s : Rn.Sg) (ok : Bool) : (fitR r s ok).left = r.left := by unfold fitR; split; rfl; exact refuseR_left _ _ _
theorem takeR_left (r : RS) : (takeR r).left.length ≤ r.left.length := by
  unfold takeR; split
  · simp
  · exact Nat.le_refl _
theorem fit_z {r : RS} {s : Rn.Sg} {ok : Bool} (h : (fitR r s ok).e = 0) : r.e = 0 := by
  by_cases h0 : r.e = 0
  · exact h0
  · exact absurd h (fitR_e r s ok h0)
theorem fit_zok {r : RS} {s : Rn.Sg} {ok : Bool} (h : (fitR r s ok).e = 0) : ok = true := by
  cases ok with
  | true => rfl
  | false =>
    exfalso
    have h0 := fit_z h
    unfold fitR refuseR at h
    rw [if_neg (by decide), if_pos h0] at h
    exact absurd h (by show ¬ (2 : Int) = 0; decide)
theorem mark_z {r : RS} {t : ByteArray} (h : (markR r t).e = 0) : r.e = 0 ∧ (markR r t).left.length ≤ r.left.length := by
  have h1 := fit_z h
  rw [takeR_e] at h1
  exact ⟨h1, by unfold markR; rw [fitR_left]; exact takeR_left r⟩
theorem name_z {r : RS} (h : (nameR r).e = 0) : r.e = 0 ∧ (nameR r).left.length ≤ r.left.length := by
  have h1 := fit_z h
  rw [takeR_e] at h1
  exact ⟨h1, by unfold nameR; rw [fitR_left]; exact takeR_left r⟩
theorem day_z {r : RS} (h : (dayR r).e = 0) : r.e = 0 ∧ (dayR r).left.length ≤ r.left.length := by
  have h1 := fit_z h
  rw [takeR_e] at h1
  exact ⟨h1, by unfold dayR; rw [fitR_left]; exact takeR_left r⟩
theorem end_z {r : RS} (h : (endRd r).e = 0) : r.e = 0 := by
  have h1 := fit_z h
  rwa [takeR_e] at h1
theorem first_z {r : RS} {d : Nat} (h : (firstR r d).e = 0) : r.e = 0 ∧ d ≤ 12 ∧ firstR r d = takeR r := by
  have hd : ¬ 12 < d := fun hd => firstR_deep r d hd h
  have h1 : firstR r d = takeR r := by unfold firstR; rw [if_neg hd]
  rw [h1, takeR_e] at h
  exact ⟨h, by omega, h1⟩
theorem take_some {r : RS} (h : r.e = 0) (hs : (takeS r).1 ≠ ⟨#[]⟩) : (takeR r).left.length + 1 = r.left.length := by
  unfold takeS noS at hs
  unfold takeR
  rw [if_pos h] at hs ⊢
  cases hl : r.left with
  | nil => rw [hl] at hs; exact absurd rfl hs
  | cons a l => simp
theorem pairF_sz (rec : RS → O × RS) (hr : ∀ q, (rec q).2.e = 0 → q.e = 0 ∧ (rec q).1.nodes + (rec q).2.left.length ≤ q.left.length) (r : RS) (h : (pairF rec r).2.2.e = 0) :
    r.e = 0 ∧ (pairF rec r).1.nodes + (pairF rec r).2.1.nodes + (pairF rec r).2.2.left.length ≤ r.left.length := by
  unfold pairF at h ⊢
  have h1 := mark_z h
  have h2 := hr _ h1.1
  have h3 := mark_z h2.1
  have h4 := hr _ h3.1
  have h5 := mark_z h4.1
  exact ⟨h5.1, by simp only; omega⟩
theorem obsR_sz (f : Nat) : ∀ r d, d + f = 15 → (14 ≤ d → r.e ≠ 0) → (obsR f r d).2.e = 0 → r.e = 0 ∧ (obsR f r d).1.nodes + (obsR f r d).2.left.length ≤ r.left.length := by
  induction f with
  | zero => intro r d hd he h; exact absurd h (he (by omega))
  | succ f ih =>
    intro r d hd he h
    have hfirst : ∀ x : RS, x.e = 0 → (∀ q : RS, q.e ≠ 0 → True) → True := fun _ _ _ => trivial
    have hfe : (firstR r d).e = 0 := by
      by_cases h0 : (firstR r d).e = 0
      · exact h0
      · exfalso
        have ih' : ∀ q, q.e ≠ 0 → ((fun q => obsR f q (d + 1)) q).2.e ≠ 0 := fun q hq => obsR_e f q (d + 1) hq
        unfold obsR at h
        revert h
        repeat' split
        · exact markR_e _ _ (nameR_e _ (markR_e _ _ h0))
        · exact pairF_e _ ih' _ h0
        · exact markR_e _ _ (obsR_e _ _ _ (markR_e _ _ h0))
        · exact pairF_e _ ih' _ h0
        · exact pairF_e _ ih' _ h0
        · exact fitR_e _ _ _ h0
    obtain ⟨he0, hd12, hft⟩ := first_z hfe
    have hrec : ∀ q, ((fun q => obsR f q (d + 1)) q).2.e = 0 → q.e = 0 ∧ ((fun q => obsR f q (d + 1)) q).1.nodes + ((fun q => obsR f q (d + 1)) q).2.left.length ≤ q.left.length := fun q hq => ih q (d + 1) (by omega) (fun hx => absurd hx (by omega)) hq
    have hts : (takeS r).1 ≠ ⟨#[]⟩ → (firstR r d).left.length + 1 = r.left.length := fun hs => by rw [hft]; exact take_some he0 hs
    refine ⟨he0, ?_⟩
    unfold obsR at h ⊢
    by_cases k0 : (takeS r).1 = wFix
    · rw [if_pos k0] at h ⊢
      have h1 := mark_z h
      have h2 := name_z h1.1
      have h3 := mark_z h2.1
      have h4 := hts (by rw [k0]; decide)
      simp only [O.nodes]; omega
    rw [if_neg k0] at h ⊢
    by_cases k1 : (takeS r).1 = wAdd
    · rw [if_pos k1] at h ⊢
      have h1 := pairF_sz _ hrec _ h
      have h4 := hts (by rw [k1]; decide)
      simp only [O.nodes]; omega
    rw [if_neg k1] at h ⊢
    by_cases k2 : (takeS r).1 = wNeg
    · rw [if_pos k2] at h ⊢
      have h1 := mark_z h
      have h2 := hrec _ h1.1
      have h3 := mark_z h2.1
      have h4 := hts (by rw [k2]; decide)
      simp only [O.nodes] at h2 ⊢; omega
    rw [if_neg k2] at h ⊢
    by_cases k3 : (takeS r).1 = wMul
    · rw [if_pos k3] at h ⊢
      have h1 := pairF_sz _ hrec _ h
      have h4 := hts (by rw [k3]; decide)
      simp only [O.nodes]; omega
    rw [if_neg k3] at h ⊢
    by_cases k4 : (takeS r).1 = wMax
    · rw [if_pos k4] at h ⊢
      have h1 := pairF_sz _ hrec _ h
      have h4 := hts (by rw [k4]; decide)
      simp only [O.nodes]; omega
    rw [if_neg k4] at h ⊢
    have h1 := fit_zok h
    have h4 := hts (fun e => by rw [e] at h1; exact absurd h1 (by decide))
    simp only [O.nodes]
    rw [fitR_left]
    omega
theorem lastF_sz (rec : RS → C × RS) (hr : ∀ q, (rec q).2.e = 0 → q.e = 0 ∧ (rec q).1.weight + (rec q).2.left.length ≤ q.left.length) (r : RS) (h : (lastF rec r).2.e = 0) :
    r.e = 0 ∧ (lastF rec r).1.weight + (lastF rec r).2.left.length ≤ r.left.length := by
  unfold lastF at h ⊢
  have h1 := mark_z h
  have h2 := hr _ h1.1
  exact ⟨h2.1, by simp only; omega⟩
theorem lastsF_sz (rec : RS → C × RS) (hr : ∀ q, (rec q).2.e = 0 → q.e = 0 ∧ (rec q).1.weight + (rec q).2.left.length ≤ q.left.length) (r : RS) (h : (lastsF rec r).2.2.e = 0) :
    r.e = 0 ∧ (lastsF rec r).1.weight + (lastsF rec r).2.1.weight + (lastsF rec r).2.2.left.length ≤ r.left.length := by
  unfold lastsF at h ⊢
  have h1 := lastF_sz rec hr _ h
  have h2 := mark_z h1.1
  have h3 := hr _ h2.1
  exact ⟨h3.1, by simp only; omega⟩
theorem termR_sz (f : Nat) : ∀ r d, d + f = 15 → (14 ≤ d → r.e ≠ 0) → (termR f r d).2.e = 0 → r.e = 0 ∧ (termR f r d).1.weight + (termR f r d).2.left.length ≤ r.left.length := by
  induction f with
  | zero => intro r d hd he h; exact absurd h (he (by omega))
  | succ f ih =>
    intro r d hd he h
    have hfe : (firstR r d).e = 0 := by
      by_cases h0 : (firstR r d).e = 0
      · exact h0
      · exfalso
        have h1 := h0
        have ih' : ∀ q, q.e ≠ 0 → ((fun q => termR f q (d + 1)) q).2.e ≠ 0 := fun q hq => termR_e f q (d + 1) hq
        unfold termR at h
        revert h
        repeat' split
        · exact h1
        · exact markR_e _ _ (nameR_e _ (markR_e _ _ h1))
        · exact lastF_e _ ih' _ (markR_e _ _ h1)
        · exact lastsF_e _ ih' _ (markR_e _ _ h1)
        · exact lastsF_e _ ih' _ (markR_e _ _ (nameR_e _ (markR_e _ _ h1)))
        · exact lastF_e _ ih' _ (markR_e _ _ (obsR_e _ _ _ (markR_e _ _ h1)))
        · exact lastF_e _ ih' _ (markR_e _ _ (dayR_e _ (markR_e _ _ h1)))
        · exact lastsF_e _ ih' _ (markR_e _ _ (obsR_e _ _ _ (markR_e _ _ h1)))
        · exact fitR_e _ _ _ h1
    obtain ⟨he0, hd12, hft⟩ := first_z hfe
    have hrec : ∀ q, ((fun q => termR f q (d + 1)) q).2.e = 0 → q.e = 0 ∧ ((fun q => termR f q (d + 1)) q).1.weight + ((fun q => termR f q (d + 1)) q).2.left.length ≤ q.left.length := fun q hq => ih q (d + 1) (by omega) (fun hx => absurd hx (by omega)) hq
    have hobs : ∀ q, (obsR f q (d + 1)).2.e = 0 → q.e = 0 ∧ (obsR f q (d + 1)).1.nodes + (obsR f q (d + 1)).2.left.length ≤ q.left.length := fun q hq => obsR_sz f q (d + 1) (by omega) (fun hx => absurd hx (by omega)) hq
    have hts : (takeS r).1 ≠ ⟨#[]⟩ → (firstR r d).left.length + 1 = r.left.length := fun hs => by rw [hft]; exact take_some he0 hs
    refine ⟨he0, ?_⟩
    unfold termR at h ⊢
    by_cases k0 : (takeS r).1 = wZero
    · rw [if_pos k0] at h ⊢
      have h4 := hts (by rw [k0]; decide)
      simp only [C.weight]; omega
    rw [if_neg k0] at h ⊢
    by_cases k1 : (takeS r).1 = wOne
    · rw [if_pos k1] at h ⊢
      have h1 := mark_z h
      have h2 := name_z h1.1
      have h3 := mark_z h2.1
      have h4 := hts (by rw [k1]; decide)
      simp only [C.weight]; omega
    rw [if_neg k1] at h ⊢
    by_cases k2 : (takeS r).1 = wGive
    · rw [if_pos k2] at h ⊢
      have h1 := lastF_sz _ hrec _ h
      have h2 := mark_z h1.1
      have h4 := hts (by rw [k2]; decide)
      simp only [C.weight]; omega
    rw [if_neg k2] at h ⊢
    by_cases k3 : (takeS r).1 = wAnd
    · rw [if_pos k3] at h ⊢
      have h1 := lastsF_sz _ hrec _ h
      have h2 := mark_z h1.1
      have h4 := hts (by rw [k3]; decide)
      simp only [C.weight]; omega
    rw [if_neg k3] at h ⊢
    by_cases k4 : (takeS r).1 = wOr
    · rw [if_pos k4] at h ⊢
      have h1 := lastsF_sz _ hrec _ h
      have h2 := mark_z h1.1
      have h3 := name_z h2.1
      have h5 := mark_z h3.1
      have h4 := hts (by rw [k4]; decide)
      simp only [C.weight]; omega
    rw [if_neg k4] at h ⊢
    by_cases k5 : (takeS r).1 = wScale
    · rw [if_pos k5] at h ⊢
      have h1 := lastF_sz _ hrec _ h
      have h2 := mark_z h1.1
      have h3 := hobs _ h2.1
      have h5 := mark_z h3.1
      have h4 := hts (by rw [k5]; decide)
      simp only [C.weight]; omega
    rw [if_neg k5] at h ⊢
    by_cases k6 : (takeS r).1 = wWhen
    · rw [if_pos k6] at h ⊢
      have h1 := lastF_sz _ hrec _ h
      have h2 := mark_z h1.1
      have h3 := day_z h2.1
      have h5 := mark_z h3.1
      have h4 := hts (by rw [k6]; decide)
      simp only [C.weight]; omega
    rw [if_neg k6] at h ⊢
    by_cases k7 : (takeS r).1 = wIf
    · rw [if_pos k7] at h ⊢
      have h1 := lastsF_sz _ hrec _ h
      have h2 := mark_z h1.1
      have h3 := hobs _ h2.1
      have h5 := mark_z h3.1
      have h4 := hts (by rw [k7]; decide)
      simp only [C.weight]; omega
    rw [if_neg k7] at h ⊢
    have h1 := fit_zok h
    cases h1
theorem cut_len (rs : List Int) : ∀ (l : List Rn.Sg) (run : List Int) (p : Nat), (Rn.cutGo l run p rs).length ≤ l.length + 1 + 2 * rs.length := by
  induction rs with
  | nil => intro l run p; have := Rn.endR_len l run (p + 1 : Nat); show (Rn.endR l run (p + 1 : Nat)).length ≤ _; simp only [List.length_nil]; omega
  | cons r rs ih =>
    intro l run p
    have he := Rn.endR_len l run (p + 1 : Nat)
    unfold Rn.cutGo
    simp only [List.length_cons]
    split
    · have := ih l (run ++ [r]) (p + 1); omega
    · split
      · have := ih (Rn.endR l run (p + 1 : Nat) ++ [(Utf8.encode r, ((p + 1 : Nat) : Int))]) [] (p + 1)
        rw [List.length_append] at this
        simp only [List.length_cons, List.length_nil] at this
        omega
      · have := ih (Rn.endR l run (p + 1 : Nat)) [] (p + 1); omega
theorem open_len (s : ByteArray) : (openR s).left.length ≤ 2001 := by
  unfold openR
  split
  · simp
  · split
    · simp
    · rename_i h1 _
      have h := cut_len (runesOf s) [] [] 0
      have h2 := rest_length s 0
      have h3 : (runesOf s).length ≤ s.size := by unfold runesOf; omega
      show (Rn.cutGo [] [] 0 (runesOf s)).length ≤ _
      simp at h
      omega
/-- What read.Term answers: the contract, the place, the error. -/
def rdT (s : ByteArray) : C × Int × Int :=
  if (endRd (termR 14 (openR s) 1).2).e = 0 then
    (if chkC (termR 14 (openR s) 1).1 = 0 then ((termR 14 (openR s) 1).1, 0, 0) else (.odd .nilIface, (endRd (termR 14 (openR s) 1).2).pl, chkC (termR 14 (openR s) 1).1))
  else (.odd .nilIface, (endRd (termR 14 (openR s) 1).2).pl, (endRd (termR 14 (openR s) 1).2).e)
def rdO (s : ByteArray) : O × Int × Int :=
  if (endRd (obsR 14 (openR s) 1).2).e = 0 then
    (if chk (obsR 14 (openR s) 1).1 = 0 then ((obsR 14 (openR s) 1).1, 0, 0) else (.odd .nilIface, (endRd (obsR 14 (openR s) 1).2).pl, chk (obsR 14 (openR s) 1).1))
  else (.odd .nilIface, (endRd (obsR 14 (openR s) 1).2).pl, (endRd (obsR 14 (openR s) 1).2).e)
theorem RIn.cells {w : World} {R : Nat} {r : RS} (h : RIn w R r) : w.cell? ⟨R, 2, none⟩ = some (.int .i64 r.pl) ∧ w.cell? ⟨R, 3, none⟩ = some (.int .i64 r.e) ∧ w.frozen? ⟨R, 3, none⟩ = false := by
  obtain ⟨a, c, hb, _⟩ := h.has
  exact ⟨hb.cell 2, hb.cell 3, hb.frozen 3⟩
theorem bel_drewN {B : Nat} {w w' : World} (h : Below B w w') (n : Nat) : Below B w (w'.drewN n) := ⟨h.os, h.tape, h.output, h.size, h.block⟩
theorem bel_set {B : Nat} {w w' : World} (h : Below B w w') {R : Nat} (hR : B ≤ R) (i : Nat) (x : Value) (n : Nat) : Below B w ((w'.setCell ⟨R, i, none⟩ x).drewN n) := bel_drewN (h.setCell hR x) n
theorem Grew.low {M : Nat} {u w w' : World} (h : Grew M none w w') (hb : Below u.heap.size u w) (hM : u.heap.size ≤ M) : Below u.heap.size u w' :=
  hb.trans (h.below hb.size hM (fun k hk => by cases hk))

set_option maxHeartbeats 4000000 in
set_option maxRecDepth 100000 in
theorem readT_any (s : ByteArray) (w : World) (hs : s.size ≤ 140737488351232) :
    Calls Tryz.prog 6 #[.string s] w fun e w' => e = .returned (.tuple #[(rdT s).1.val, .int .i64 (rdT s).2.1, .int .i64 (rdT s).2.2]) ∧ (rdT s).1.Ok ∧ Below w.heap.size w w' := by
  have HRD : Hid (rdT s = if (endRd (termR 14 (openR s) 1).2).e = 0 then (if chkC (termR 14 (openR s) 1).1 = 0 then ((termR 14 (openR s) 1).1, 0, 0) else (.odd .nilIface, (endRd (termR 14 (openR s) 1).2).pl, chkC (termR 14 (openR s) 1).1)) else (.odd .nilIface, (endRd (termR 14 (openR s) 1).2).pl, (endRd (termR 14 (openR s) 1).2).e)) := rfl
  have HSZ : Hid ((endRd (termR 14 (openR s) 1).2).e = 0 → (termR 14 (openR s) 1).1.weight ≤ 2001) := fun h => by
    have h1 := (termR_sz 14 (openR s) 1 rfl (fun hx => absurd hx (by omega)) (end_z h)).2
    have h2 := open_len s
    omega
  go_enter Tryz.func6, Tryz.ntmps6
  go_wp2_with fail
  refine (ropen_any s w hs).mono ?_
  rintro e w1 ⟨R, rfl, hR, h1, hb1⟩
  have HR := hidIn hR
  have HB1 := hidIn hb1
  have H1 := hidIn h1
  clear hR h1 hb1
  go_wp2_with fail
  refine (term_all 14 1 rfl (openR s) w1 R (fun hx => absurd hx (by omega)) H1.out).mono ?_
  rintro e w2 ⟨rfl, hok, h2, hg2⟩
  have HOK := hidIn hok
  have H2 := hidIn h2
  have HB2 := hidIn (hg2.low HB1.out HR.out)
  clear hok h2 hg2
  go_wp2_with fail
  refine (end_any w2 R _ H2.out).mono ?_
  rintro e w3 ⟨rfl, h3, hg3⟩
  have H3 := hidIn h3
  have HB3 := hidIn (hg3.low HB2.out HR.out)
  obtain ⟨q2, q3, qf⟩ := h3.cells
  clear h3 hg3
  generalize (termR 14 (openR s) 1).1 = c at *
  generalize endRd (termR 14 (openR s) 1).2 = r9 at *
  obtain ⟨en, hen⟩ : ∃ en, r9.e = en := ⟨_, rfl⟩
  obtain ⟨pl, hpl⟩ : ∃ pl, r9.pl = pl := ⟨_, rfl⟩
  rw [hen, hpl] at HRD
  rw [hen] at HSZ q3
  rw [hpl] at q2
  obtain ⟨ra, rc, hblk, _, _, _⟩ := H3.out.has
  have HBLK := hidIn hblk
  have HEN := hidIn hen
  have HPL := hidIn hpl
  clear hblk hen hpl
  by_cases h0 : en = 0
  · rw [if_pos h0] at HRD
    have HW := hidIn (HSZ.out h0)
    subst h0
    go_wp2_with fail
    refine (checkT_any c HOK.out (by have := HW.out; omega) w3).mono ?_
    rintro e w4 ⟨rfl, hb4⟩
    have hk4 := HBLK.out.below hb4 HBLK.out.lt
    have z2 : w4.cell? ⟨R, 2, none⟩ = some (.int .i64 pl) := by rw [← HPL.out]; exact hk4.cell 2
    have z3 : w4.cell? ⟨R, 3, none⟩ = some (.int .i64 0) := by rw [← HEN.out]; exact hk4.cell 3
    have f3 : w4.frozen? ⟨R, 3, none⟩ = false := hk4.frozen 3
    have HB4 := hidIn (HB3.out.trans (hb4.mono HB3.out.size))
    clear hb4 hk4 q2 q3 qf
    by_cases hc : chkC c = 0
    · rw [if_pos hc] at HRD
      rw [hc]
      go_wp2_with fail
      go_ret3
      rw [HRD.out]
      exact ⟨rfl, HOK.out, HB4.out.setCell HR.out _⟩
    · rw [if_neg hc] at HRD
      obtain ⟨k, hk⟩ : ∃ k, chkC c = k := ⟨_, rfl⟩
      rw [hk] at hc HRD
      rw [hk]
      have hcn : (k == 0) = false := beq_eq_false_iff_ne.2 hc
      go_wp2_with fail
      go_quiet (fail)
      go_wp2_with fail
      go_ret3
      rw [HRD.out]
      exact ⟨rfl, .inl rfl, bel_set HB4.out HR.out 3 _ _⟩
  · rw [if_neg h0] at HRD
    have hcn : (en == 0) = false := beq_eq_false_iff_ne.2 h0
    go_wp2_with fail
    go_quiet (fail)
    go_wp2_with fail
    go_ret3
    rw [HRD.out]
    exact ⟨rfl, .inl rfl, bel_drewN HB3.out _⟩

set_option maxHeartbeats 4000000 in
set_option maxRecDepth 100000 in
theorem readO_any (s : ByteArray) (w : World) (hs : s.size ≤ 140737488351232) :
    Calls Tryz.prog 9 #[.string s] w fun e w' => e = .returned (.tuple #[(rdO s).1.val, .int .i64 (rdO s).2.1, .int .i64 (rdO s).2.2]) ∧ (rdO s).1.Ok ∧ Below w.heap.size w w' := by
  have HRD : Hid (rdO s = if (endRd (obsR 14 (openR s) 1).2).e = 0 then (if chk (obsR 14 (openR s) 1).1 = 0 then ((obsR 14 (openR s) 1).1, 0, 0) else (.odd .nilIface, (endRd (obsR 14 (openR s) 1).2).pl, chk (obsR 14 (openR s) 1).1)) else (.odd .nilIface, (endRd (obsR 14 (openR s) 1).2).pl, (endRd (obsR 14 (openR s) 1).2).e)) := rfl
  have HSZ : Hid ((endRd (obsR 14 (openR s) 1).2).e = 0 → (obsR 14 (openR s) 1).1.nodes ≤ 2001) := fun h => by
    have h1 := (obsR_sz 14 (openR s) 1 rfl (fun hx => absurd hx (by omega)) (end_z h)).2
    have h2 := open_len s
    omega
  go_enter Tryz.func9, Tryz.ntmps9
  go_wp2_with fail
  refine (ropen_any s w hs).mono ?_
  rintro e w1 ⟨R, rfl, hR, h1, hb1⟩
  have HR := hidIn hR
  have HB1 := hidIn hb1
  have H1 := hidIn h1
  clear hR h1 hb1
  go_wp2_with fail
  refine (obs_all 14 1 rfl (openR s) w1 R (fun hx => absurd hx (by omega)) H1.out).mono ?_
  rintro e w2 ⟨rfl, hok, h2, hg2⟩
  have HOK := hidIn hok
  have H2 := hidIn h2
  have HB2 := hidIn (hg2.low HB1.out HR.out)
  clear hok h2 hg2
  go_wp2_with fail
  refine (end_any w2 R _ H2.out).mono ?_
  rintro e w3 ⟨rfl, h3, hg3⟩
  have H3 := hidIn h3
  have HB3 := hidIn (hg3.low HB2.out HR.out)
  obtain ⟨q2, q3, qf⟩ := h3.cells
  clear h3 hg3
  generalize (obsR 14 (openR s) 1).1 = c at *
  generalize endRd (obsR 14 (openR s) 1).2 = r9 at *
  obtain ⟨en, hen⟩ : ∃ en, r9.e = en := ⟨_, rfl⟩
  obtain ⟨pl, hpl⟩ : ∃ pl, r9.pl = pl := ⟨_, rfl⟩
  rw [hen, hpl] at HRD
  rw [hen] at HSZ q3
  rw [hpl] at q2
  obtain ⟨ra, rc, hblk, _, _, _⟩ := H3.out.has
  have HBLK := hidIn hblk
  have HEN := hidIn hen
  have HPL := hidIn hpl
  clear hblk hen hpl
  by_cases h0 : en = 0
  · rw [if_pos h0] at HRD
    have HW := hidIn (HSZ.out h0)
    subst h0
    go_wp2_with fail
    refine (check_any c HOK.out (by have := HW.out; omega) w3).mono ?_
    rintro e w4 ⟨rfl, hb4⟩
    have hk4 := HBLK.out.below hb4 HBLK.out.lt
    have z2 : w4.cell? ⟨R, 2, none⟩ = some (.int .i64 pl) := by rw [← HPL.out]; exact hk4.cell 2
    have z3 : w4.cell? ⟨R, 3, none⟩ = some (.int .i64 0) := by rw [← HEN.out]; exact hk4.cell 3
    have f3 : w4.frozen? ⟨R, 3, none⟩ = false := hk4.frozen 3
    have HB4 := hidIn (HB3.out.trans (hb4.mono HB3.out.size))
    clear hb4 hk4 q2 q3 qf
    by_cases hc : chk c = 0
    · rw [if_pos hc] at HRD
      rw [hc]
      go_wp2_with fail
      go_ret3
      rw [HRD.out]
      exact ⟨rfl, HOK.out, HB4.out.setCell HR.out _⟩
    · rw [if_neg hc] at HRD
      obtain ⟨k, hk⟩ : ∃ k, chk c = k := ⟨_, rfl⟩
      rw [hk] at hc HRD
      rw [hk]
      have hcn : (k == 0) = false := beq_eq_false_iff_ne.2 hc
      go_wp2_with fail
      go_quiet (fail)
      go_wp2_with fail
      go_ret3
      rw [HRD.out]
      exact ⟨rfl, .inl rfl, bel_set HB4.out HR.out 3 _ _⟩
  · rw [if_neg h0] at HRD
    have hcn : (en == 0) = false := beq_eq_false_iff_ne.2 h0
    go_wp2_with fail
    go_quiet (fail)
    go_wp2_with fail
    go_ret3
    rw [HRD.out]
    exact ⟨rfl, .inl rfl, bel_drewN HB3.out _⟩

end Go.Proofs.YtfmjjfpajohihaaGreatDoor
namespace Go.Proofs.YtfmjjfpajohihaaGreatDoor
open Go.RowKit
set_option linter.unusedVariables false

theorem cut_word (w : List Int) : ∀ (l : List Rn.Sg) (run : List Int) (p : Nat) (m : Int) (rs : List Int), (∀ x ∈ w, Rn.joinB x = true) → Rn.joinB m = false → Rn.markB m = true → run ++ w ≠ [] →
    Rn.cutGo l run p (w ++ m :: rs) = Rn.cutGo (l ++ [(runesBytes (run ++ w), ((p + w.length + 1 : Nat) : Int) - ((run ++ w).length : Int))] ++ [(Utf8.encode m, ((p + w.length + 1 : Nat) : Int))]) [] (p + w.length + 1) rs := by
  induction w with
  | nil =>
    intro l run p m rs hw hj hm hne
    rw [List.nil_append, Rn.cutGo_mark l run p m rs hj hm]
    simp only [List.append_nil] at hne ⊢
    unfold Rn.endR
    rw [if_neg hne]
    simp
  | cons x w ih =>
    intro l run p m rs hw hj hm hne
    rw [List.cons_append, Rn.cutGo_join l run p x _ (hw x List.mem_cons_self), ih l (run ++ [x]) (p + 1) m rs (fun y hy => hw y (List.mem_cons_of_mem _ hy)) hj hm (by simp)]
    have e : run ++ [x] ++ w = run ++ x :: w := by simp
    rw [e]
    simp only [List.length_cons]
    rw [show p + 1 + w.length + 1 = p + (w.length + 1) + 1 by omega]
theorem cut_last (w : List Int) : ∀ (l : List Rn.Sg) (run : List Int) (p : Nat), (∀ x ∈ w, Rn.joinB x = true) → run ++ w ≠ [] →
    Rn.cutGo l run p w = l ++ [(runesBytes (run ++ w), ((p + w.length + 1 : Nat) : Int) - ((run ++ w).length : Int))] := by
  induction w with
  | nil =>
    intro l run p hw hne
    simp only [List.append_nil] at hne ⊢
    show Rn.endR l run _ = _
    unfold Rn.endR
    rw [if_neg hne]
    simp
  | cons x w ih =>
    intro l run p hw hne
    rw [Rn.cutGo_join l run p x _ (hw x List.mem_cons_self), ih l (run ++ [x]) (p + 1) (fun y hy => hw y (List.mem_cons_of_mem _ hy)) (by simp)]
    have e : run ++ [x] ++ w = run ++ x :: w := by simp
    rw [e]
    simp only [List.length_cons]
    rw [show p + 1 + w.length + 1 = p + (w.length + 1) + 1 by omega]
theorem cut_mark (l : List Rn.Sg) (p : Nat) (m : Int) (rs : List Int) (hj : Rn.joinB m = false) (hm : Rn.markB m = true) : Rn.cutGo l [] p (m :: rs) = Rn.cutGo (l ++ [(Utf8.encode m, ((p + 1 : Nat) : Int))]) [] (p + 1) rs := by
  rw [Rn.cutGo_mark l [] p m rs hj hm]; rfl
theorem ba_x {a b : ByteArray} (h : a.data.toList = b.data.toList) : a = b := by
  cases a with | mk a => cases b with | mk b => simp only [ByteArray.mk.injEq]; exact Array.toList_inj.1 h
theorem let_join (r : Int) (h : letB r = true) : Rn.joinB r = true := by unfold Rn.joinB; rw [h]; simp

/-- A text by its runes, its signs from a place on: a word, what stands between brackets. -/
def numB (n : Int) : ByteArray := ⟨(Lib.itoa n).toArray⟩
def rnN (n : Int) : List Int := (Lib.itoa n).map fun b => (b.toNat : Int)
def rnO : O → List Int
  | .const n => rnN n
  | .fix s => [102, 105, 120, 40] ++ (runesOf s ++ [41])
  | .add l r => [97, 100, 100, 40] ++ (rnO l ++ 44 :: (rnO r ++ [41]))
  | .neg o => [110, 101, 103, 40] ++ (rnO o ++ [41])
  | .mul l r => [109, 117, 108, 40] ++ (rnO l ++ 44 :: (rnO r ++ [41]))
  | .max l r => [109, 97, 120, 40] ++ (rnO l ++ 44 :: (rnO r ++ [41]))
  | .odd _ => []
def sgO (p : Nat) : O → List Rn.Sg
  | .const n => [(numB n, ((p + 1 : Nat) : Int))]
  | .fix s => (wFix, ((p + 1 : Nat) : Int)) :: (lpB, ((p + 4 : Nat) : Int)) :: (s, ((p + 5 : Nat) : Int)) :: [(rpB, ((p + 5 + (runesOf s).length : Nat) : Int))]
  | .add l r => (wAdd, ((p + 1 : Nat) : Int)) :: (lpB, ((p + 4 : Nat) : Int)) :: (sgO (p + 4) l ++ (cmB, ((p + 4 + (rnO l).length + 1 : Nat) : Int)) :: (sgO (p + 4 + (rnO l).length + 1) r ++ [(rpB, ((p + 4 + (rnO l).length + 1 + (rnO r).length + 1 : Nat) : Int))]))
  | .neg o => (wNeg, ((p + 1 : Nat) : Int)) :: (lpB, ((p + 4 : Nat) : Int)) :: (sgO (p + 4) o ++ [(rpB, ((p + 4 + (rnO o).length + 1 : Nat) : Int))])
  | .mul l r => (wMul, ((p + 1 : Nat) : Int)) :: (lpB, ((p + 4 : Nat) : Int)) :: (sgO (p + 4) l ++ (cmB, ((p + 4 + (rnO l).length + 1 : Nat) : Int)) :: (sgO (p + 4 + (rnO l).length + 1) r ++ [(rpB, ((p + 4 + (rnO l).length + 1 + (rnO r).length + 1 : Nat) : Int))]))
  | .max l r => (wMax, ((p + 1 : Nat) : Int)) :: (lpB, ((p + 4 : Nat) : Int)) :: (sgO (p + 4) l ++ (cmB, ((p + 4 + (rnO l).length + 1 : Nat) : Int)) :: (sgO (p + 4 + (rnO l).length + 1) r ++ [(rpB, ((p + 4 + (rnO l).length + 1 + (rnO r).length + 1 : Nat) : Int))]))
  | .odd _ => []
theorem dec_digs (n : Nat) : ∀ b ∈ Lib.decDigits n, 48 ≤ b.toNat ∧ b.toNat ≤ 57 := by
  induction n using Nat.strongRecOn with
  | _ n ih =>
    have hone : ∀ k, k < 10 → 48 ≤ (UInt8.ofNat (48 + k)).toNat ∧ (UInt8.ofNat (48 + k)).toNat ≤ 57 := by decide
    intro b hb
    rw [Lib.decDigits] at hb
    by_cases h : n < 10
    · rw [dif_pos h, List.mem_singleton] at hb; subst hb; exact hone n h
    · rw [dif_neg h] at hb
      rcases List.mem_append.1 hb with hb | hb
      · exact ih (n / 10) (by omega) b hb
      · rw [List.mem_singleton] at hb; subst hb; exact hone (n % 10) (by omega)
theorem dec_some (n : Nat) : Lib.decDigits n ≠ [] := by rw [Lib.decDigits]; split <;> simp
theorem dec_valB (n : Nat) : Rn.valB (Lib.decDigits n) = n := by
  induction n using Nat.strongRecOn with
  | _ n ih =>
    have hone : ∀ k : Nat, k < 10 → ((UInt8.ofNat (48 + k)).toNat : Int) - 48 = k := by decide
    rw [Lib.decDigits]
    by_cases h : n < 10
    · rw [dif_pos h]; simp only [Rn.valB, List.foldl_cons, List.foldl_nil]; rw [hone n h]; omega
    · rw [dif_neg h, Rn.valB_snoc, ih (n / 10) (by omega), hone (n % 10) (by omega)]; omega
theorem dec_head (n : Nat) (h : (Lib.decDigits n).head? = some 48) : n = 0 := by
  induction n using Nat.strongRecOn with
  | _ n ih =>
    have hone : ∀ k : Nat, k < 10 → UInt8.ofNat (48 + k) = 48 → k = 0 := by decide
    rw [Lib.decDigits] at h
    by_cases h10 : n < 10
    · rw [dif_pos h10] at h; simp only [List.head?_cons, Option.some.injEq] at h; exact hone n h10 h
    · exfalso
      rw [dif_neg h10, List.head?_append] at h
      cases hq : Lib.decDigits (n / 10) with
      | nil => exact dec_some _ hq
      | cons a l =>
        rw [hq] at h
        simp at h
        have := ih (n / 10) (by omega) (by rw [hq, h]; rfl)
        omega
theorem dec_long (f : Nat) : ∀ n, n < 10 ^ (f + 1) → (Lib.decDigits n).length ≤ f + 1 := by
  induction f with
  | zero =>
    intro n h
    have h' : n < 10 := by simpa using h
    rw [Lib.decDigits, dif_pos h']
    simp
  | succ f ih =>
    intro n h
    rw [Lib.decDigits]
    by_cases h10 : n < 10
    · rw [dif_pos h10]; simp
    · rw [dif_neg h10]
      have := ih (n / 10) (by rw [Nat.pow_succ] at h; omega)
      simp; omega
theorem natOf_dec (n : Nat) (h : n ≤ 1000000000000) : Rn.natOf (Lib.decDigits n) = ((n : Int), true) := by
  have h1 := dec_long 12 n (by have : (10 : Nat) ^ (12 + 1) = 10000000000000 := rfl; omega)
  have hall : (Lib.decDigits n).all Rn.isDig = true := by
    rw [List.all_eq_true]
    intro b hb
    have := dec_digs n b hb
    unfold Rn.isDig digB
    simp; omega
  unfold Rn.natOf
  rw [if_neg, if_pos hall, dec_valB, if_neg (by omega)]
  rintro (e | e | ⟨e1, e2⟩)
  · exact dec_some n e
  · omega
  · have := dec_head n e2
    subst this
    exact absurd e1 (by decide +kernel)
theorem numOf_itoa (n : Int) (h : vB n = true) : Rn.numOf (Lib.itoa n) = (n, true) := by
  rw [vB_iff] at h
  unfold Lib.itoa
  by_cases hn : n < 0
  · rw [if_pos hn, Rn.numOf_neg, natOf_dec _ (by omega), if_pos ⟨rfl, by simp only; omega⟩]
    simp only [Prod.mk.injEq, and_true]; omega
  · rw [if_neg hn, Rn.numOf_pos, natOf_dec _ (by omega)]
    · simp only [Prod.mk.injEq, and_true]; omega
    · intro e
      cases hl : Lib.decDigits n.toNat with
      | nil => exact dec_some _ hl
      | cons a l =>
        rw [hl] at e
        simp at e
        subst e
        have := dec_digs n.toNat 45 (by rw [hl]; exact List.mem_cons_self)
        exact absurd this.1 (by decide)
theorem itoa_join (n : Int) : (∀ x ∈ rnN n, Rn.joinB x = true) ∧ rnN n ≠ [] ∧ runesBytes (rnN n) = numB n := by
  have hd : ∀ b ∈ Lib.itoa n, b.toNat = 45 ∨ (48 ≤ b.toNat ∧ b.toNat ≤ 57) := by
    unfold Lib.itoa
    split
    · intro b hb
      rcases List.mem_cons.1 hb with rfl | hb
      · exact .inl rfl
      · exact .inr (dec_digs _ b hb)
    · intro b hb; exact .inr (dec_digs _ b hb)
  refine ⟨?_, ?_, ?_⟩
  · intro x hx
    obtain ⟨b, hb, rfl⟩ := List.mem_map.1 hx
    rcases hd b hb with e | e
    · rw [e]; rfl
    · unfold Rn.joinB letB digB; simp; omega
  · unfold rnN
    intro e
    have : Lib.itoa n = [] := List.map_eq_nil_iff.1 e
    unfold Lib.itoa at this
    split at this
    · cases this
    · exact dec_some _ this
  · have key : ∀ l : List UInt8, (∀ b ∈ l, b.toNat < 128) → runesBytes (l.map fun b => (b.toNat : Int)) = ⟨l.toArray⟩ := by
      intro l
      induction l with
      | nil => intro _; rfl
      | cons b l ih =>
        intro hl
        have hb := hl b List.mem_cons_self
        have hval : Utf8.valid (b.toNat : Int) = true := by simp [Utf8.valid]; omega
        rw [List.map_cons, Rn.runesBytes_cons, ih (fun x hx => hl x (List.mem_cons_of_mem _ hx))]
        have he : Utf8.encode (b.toNat : Int) = ⟨#[b]⟩ := by
          simp only [Utf8.encode, hval, if_true, Int.toNat_natCast]
          rw [if_pos hb, of_toNat rfl]
        rw [he, show (#[b] : Array UInt8) = [b].toArray from rfl, Rn.append_mk]
        simp
    exact key _ (fun b hb => by rcases hd b hb with e | e <;> omega)
theorem name_join (s : ByteArray) (h : nameGo 0 (runesOf s) = true) : (∀ x ∈ runesOf s, Rn.joinB x = true) ∧ runesOf s ≠ [] ∧ runesBytes (runesOf s) = s := by
  have hl : ∀ (c : Nat) (rs : List Int), nameGo c rs = true → ∀ r ∈ rs, letB r = true := by
    intro c rs
    induction rs generalizing c with
    | nil => intro _ r hr; cases hr
    | cons a rs ih =>
      intro h r hr
      have hno : (!letB a || ((c == 0) && digB a) || (c == 12)) = false := by
        cases hx : (!letB a || ((c == 0) && digB a) || (c == 12)) with
        | false => rfl
        | true => rw [nameGo_no c a rs hx] at h; cases h
      simp only [Bool.or_eq_false_iff] at hno
      rw [nameGo_yes c a rs (by simpa using hno.1.1) hno.1.2 hno.2] at h
      rcases List.mem_cons.1 hr with rfl | hr
      · simpa using hno.1.1
      · exact ih (c + 1) h r hr
  have h1 := hl 0 _ h
  refine ⟨fun x hx => let_join x (h1 x hx), ?_, ?_⟩
  · intro e; rw [e] at h; cases h
  · have hr := round_at s s.size 0 (by omega) (fun r hr => let_ne r (h1 r hr))
    rw [List.drop_zero] at hr
    exact ba_x hr

end Go.Proofs.YtfmjjfpajohihaaGreatDoor
namespace Go.Proofs.YtfmjjfpajohihaaGreatDoor
open Go.RowKit
set_option linter.unusedVariables false

theorem enc_lp : Utf8.encode 40 = lpB := by decide +kernel
theorem enc_rp : Utf8.encode 41 = rpB := by decide +kernel
theorem enc_cm : Utf8.encode 44 = cmB := by decide +kernel
theorem cutFix (l : List Rn.Sg) (p : Nat) (rs : List Int) : Rn.cutGo l [] p ([102, 105, 120] ++ 40 :: rs) = Rn.cutGo (l ++ [(wFix, ((p + 1 : Nat) : Int)), (lpB, ((p + 4 : Nat) : Int))]) [] (p + 4) rs := by
  rw [cut_word [102, 105, 120] l [] p 40 rs (by decide) (by decide) (by decide) (by decide), show runesBytes ([] ++ [102, 105, 120]) = wFix from by decide +kernel, enc_lp]
  simp only [List.length_cons, List.length_nil, List.nil_append, List.append_assoc, List.cons_append]
  rw [show (((p + (0 + 1 + 1 + 1) + 1 : Nat) : Int) - ((0 + 1 + 1 + 1 : Nat) : Int)) = ((p + 1 : Nat) : Int) by omega]
theorem cutAdd (l : List Rn.Sg) (p : Nat) (rs : List Int) : Rn.cutGo l [] p ([97, 100, 100] ++ 40 :: rs) = Rn.cutGo (l ++ [(wAdd, ((p + 1 : Nat) : Int)), (lpB, ((p + 4 : Nat) : Int))]) [] (p + 4) rs := by
  rw [cut_word [97, 100, 100] l [] p 40 rs (by decide) (by decide) (by decide) (by decide), show runesBytes ([] ++ [97, 100, 100]) = wAdd from by decide +kernel, enc_lp]
  simp only [List.length_cons, List.length_nil, List.nil_append, List.append_assoc, List.cons_append]
  rw [show (((p + (0 + 1 + 1 + 1) + 1 : Nat) : Int) - ((0 + 1 + 1 + 1 : Nat) : Int)) = ((p + 1 : Nat) : Int) by omega]
theorem cutNeg (l : List Rn.Sg) (p : Nat) (rs : List Int) : Rn.cutGo l [] p ([110, 101, 103] ++ 40 :: rs) = Rn.cutGo (l ++ [(wNeg, ((p + 1 : Nat) : Int)), (lpB, ((p + 4 : Nat) : Int))]) [] (p + 4) rs := by
  rw [cut_word [110, 101, 103] l [] p 40 rs (by decide) (by decide) (by decide) (by decide), show runesBytes ([] ++ [110, 101, 103]) = wNeg from by decide +kernel, enc_lp]
  simp only [List.length_cons, List.length_nil, List.nil_append, List.append_assoc, List.cons_append]
  rw [show (((p + (0 + 1 + 1 + 1) + 1 : Nat) : Int) - ((0 + 1 + 1 + 1 : Nat) : Int)) = ((p + 1 : Nat) : Int) by omega]
theorem cutMul (l : List Rn.Sg) (p : Nat) (rs : List Int) : Rn.cutGo l [] p ([109, 117, 108] ++ 40 :: rs) = Rn.cutGo (l ++ [(wMul, ((p + 1 : Nat) : Int)), (lpB, ((p + 4 : Nat) : Int))]) [] (p + 4) rs := by
  rw [cut_word [109, 117, 108] l [] p 40 rs (by decide) (by decide) (by decide) (by decide), show runesBytes ([] ++ [109, 117, 108]) = wMul from by decide +kernel, enc_lp]
  simp only [List.length_cons, List.length_nil, List.nil_append, List.append_assoc, List.cons_append]
  rw [show (((p + (0 + 1 + 1 + 1) + 1 : Nat) : Int) - ((0 + 1 + 1 + 1 : Nat) : Int)) = ((p + 1 : Nat) : Int) by omega]
theorem cutMax (l : List Rn.Sg) (p : Nat) (rs : List Int) : Rn.cutGo l [] p ([109, 97, 120] ++ 40 :: rs) = Rn.cutGo (l ++ [(wMax, ((p + 1 : Nat) : Int)), (lpB, ((p + 4 : Nat) : Int))]) [] (p + 4) rs := by
  rw [cut_word [109, 97, 120] l [] p 40 rs (by decide) (by decide) (by decide) (by decide), show runesBytes ([] ++ [109, 97, 120]) = wMax from by decide +kernel, enc_lp]
  simp only [List.length_cons, List.length_nil, List.nil_append, List.append_assoc, List.cons_append]
  rw [show (((p + (0 + 1 + 1 + 1) + 1 : Nat) : Int) - ((0 + 1 + 1 + 1 : Nat) : Int)) = ((p + 1 : Nat) : Int) by omega]
theorem cutZero (l : List Rn.Sg) (p : Nat) (rs : List Int) : Rn.cutGo l [] p ([122, 101, 114, 111] ++ 40 :: rs) = Rn.cutGo (l ++ [(wZero, ((p + 1 : Nat) : Int)), (lpB, ((p + 5 : Nat) : Int))]) [] (p + 5) rs := by
  rw [cut_word [122, 101, 114, 111] l [] p 40 rs (by decide) (by decide) (by decide) (by decide), show runesBytes ([] ++ [122, 101, 114, 111]) = wZero from by decide +kernel, enc_lp]
  simp only [List.length_cons, List.length_nil, List.nil_append, List.append_assoc, List.cons_append]
  rw [show (((p + (0 + 1 + 1 + 1 + 1) + 1 : Nat) : Int) - ((0 + 1 + 1 + 1 + 1 : Nat) : Int)) = ((p + 1 : Nat) : Int) by omega]
theorem cutOne (l : List Rn.Sg) (p : Nat) (rs : List Int) : Rn.cutGo l [] p ([111, 110, 101] ++ 40 :: rs) = Rn.cutGo (l ++ [(wOne, ((p + 1 : Nat) : Int)), (lpB, ((p + 4 : Nat) : Int))]) [] (p + 4) rs := by
  rw [cut_word [111, 110, 101] l [] p 40 rs (by decide) (by decide) (by decide) (by decide), show runesBytes ([] ++ [111, 110, 101]) = wOne from by decide +kernel, enc_lp]
  simp only [List.length_cons, List.length_nil, List.nil_append, List.append_assoc, List.cons_append]
  rw [show (((p + (0 + 1 + 1 + 1) + 1 : Nat) : Int) - ((0 + 1 + 1 + 1 : Nat) : Int)) = ((p + 1 : Nat) : Int) by omega]
theorem cutGive (l : List Rn.Sg) (p : Nat) (rs : List Int) : Rn.cutGo l [] p ([103, 105, 118, 101] ++ 40 :: rs) = Rn.cutGo (l ++ [(wGive, ((p + 1 : Nat) : Int)), (lpB, ((p + 5 : Nat) : Int))]) [] (p + 5) rs := by
  rw [cut_word [103, 105, 118, 101] l [] p 40 rs (by decide) (by decide) (by decide) (by decide), show runesBytes ([] ++ [103, 105, 118, 101]) = wGive from by decide +kernel, enc_lp]
  simp only [List.length_cons, List.length_nil, List.nil_append, List.append_assoc, List.cons_append]
  rw [show (((p + (0 + 1 + 1 + 1 + 1) + 1 : Nat) : Int) - ((0 + 1 + 1 + 1 + 1 : Nat) : Int)) = ((p + 1 : Nat) : Int) by omega]
theorem cutAnd (l : List Rn.Sg) (p : Nat) (rs : List Int) : Rn.cutGo l [] p ([97, 110, 100] ++ 40 :: rs) = Rn.cutGo (l ++ [(wAnd, ((p + 1 : Nat) : Int)), (lpB, ((p + 4 : Nat) : Int))]) [] (p + 4) rs := by
  rw [cut_word [97, 110, 100] l [] p 40 rs (by decide) (by decide) (by decide) (by decide), show runesBytes ([] ++ [97, 110, 100]) = wAnd from by decide +kernel, enc_lp]
  simp only [List.length_cons, List.length_nil, List.nil_append, List.append_assoc, List.cons_append]
  rw [show (((p + (0 + 1 + 1 + 1) + 1 : Nat) : Int) - ((0 + 1 + 1 + 1 : Nat) : Int)) = ((p + 1 : Nat) : Int) by omega]
theorem cutOr (l : List Rn.Sg) (p : Nat) (rs : List Int) : Rn.cutGo l [] p ([111, 114] ++ 40 :: rs) = Rn.cutGo (l ++ [(wOr, ((p + 1 : Nat) : Int)), (lpB, ((p + 3 : Nat) : Int))]) [] (p + 3) rs := by
  rw [cut_word [111, 114] l [] p 40 rs (by decide) (by decide) (by decide) (by decide), show runesBytes ([] ++ [111, 114]) = wOr from by decide +kernel, enc_lp]
  simp only [List.length_cons, List.length_nil, List.nil_append, List.append_assoc, List.cons_append]
  rw [show (((p + (0 + 1 + 1) + 1 : Nat) : Int) - ((0 + 1 + 1 : Nat) : Int)) = ((p + 1 : Nat) : Int) by omega]
theorem cutScale (l : List Rn.Sg) (p : Nat) (rs : List Int) : Rn.cutGo l [] p ([115, 99, 97, 108, 101] ++ 40 :: rs) = Rn.cutGo (l ++ [(wScale, ((p + 1 : Nat) : Int)), (lpB, ((p + 6 : Nat) : Int))]) [] (p + 6) rs := by
  rw [cut_word [115, 99, 97, 108, 101] l [] p 40 rs (by decide) (by decide) (by decide) (by decide), show runesBytes ([] ++ [115, 99, 97, 108, 101]) = wScale from by decide +kernel, enc_lp]
  simp only [List.length_cons, List.length_nil, List.nil_append, List.append_assoc, List.cons_append]
  rw [show (((p + (0 + 1 + 1 + 1 + 1 + 1) + 1 : Nat) : Int) - ((0 + 1 + 1 + 1 + 1 + 1 : Nat) : Int)) = ((p + 1 : Nat) : Int) by omega]
theorem cutWhen (l : List Rn.Sg) (p : Nat) (rs : List Int) : Rn.cutGo l [] p ([119, 104, 101, 110] ++ 40 :: rs) = Rn.cutGo (l ++ [(wWhen, ((p + 1 : Nat) : Int)), (lpB, ((p + 5 : Nat) : Int))]) [] (p + 5) rs := by
  rw [cut_word [119, 104, 101, 110] l [] p 40 rs (by decide) (by decide) (by decide) (by decide), show runesBytes ([] ++ [119, 104, 101, 110]) = wWhen from by decide +kernel, enc_lp]
  simp only [List.length_cons, List.length_nil, List.nil_append, List.append_assoc, List.cons_append]
  rw [show (((p + (0 + 1 + 1 + 1 + 1) + 1 : Nat) : Int) - ((0 + 1 + 1 + 1 + 1 : Nat) : Int)) = ((p + 1 : Nat) : Int) by omega]
theorem cutIf (l : List Rn.Sg) (p : Nat) (rs : List Int) : Rn.cutGo l [] p ([105, 102] ++ 40 :: rs) = Rn.cutGo (l ++ [(wIf, ((p + 1 : Nat) : Int)), (lpB, ((p + 3 : Nat) : Int))]) [] (p + 3) rs := by
  rw [cut_word [105, 102] l [] p 40 rs (by decide) (by decide) (by decide) (by decide), show runesBytes ([] ++ [105, 102]) = wIf from by decide +kernel, enc_lp]
  simp only [List.length_cons, List.length_nil, List.nil_append, List.append_assoc, List.cons_append]
  rw [show (((p + (0 + 1 + 1) + 1 : Nat) : Int) - ((0 + 1 + 1 : Nat) : Int)) = ((p + 1 : Nat) : Int) by omega]
/-- A number's runes, and a mark: its signs, and that mark. -/
theorem cutO (x : O) (hf : formB x = true) : ∀ (l : List Rn.Sg) (p : Nat) (m : Int) (rs : List Int), Rn.joinB m = false → Rn.markB m = true →
    Rn.cutGo l [] p (rnO x ++ m :: rs) = Rn.cutGo (l ++ sgO p x ++ [(Utf8.encode m, ((p + (rnO x).length + 1 : Nat) : Int))]) [] (p + (rnO x).length + 1) rs := by
  have j41 : Rn.joinB 41 = false := by decide
  have m41 : Rn.markB 41 = true := by decide
  have j44 : Rn.joinB 44 = false := by decide
  have m44 : Rn.markB 44 = true := by decide
  induction x with
  | const n =>
    intro l p m rs hj hm
    obtain ⟨h1, h2, h3⟩ := itoa_join n
    simp only [rnO, sgO]
    rw [cut_word _ l [] p m rs h1 hj hm (by simpa using h2), List.nil_append, h3]
    rw [show (((p + (rnN n).length + 1 : Nat) : Int) - ((rnN n).length : Int)) = ((p + 1 : Nat) : Int) by omega]
  | fix s =>
    intro l p m rs hj hm
    obtain ⟨h1, h2, h3⟩ := name_join s hf
    simp only [rnO, sgO, List.cons_append, List.nil_append, List.append_assoc, List.length_cons, List.length_append, List.length_nil]
    rw [show (102 :: 105 :: 120 :: 40 :: (runesOf s ++ 41 :: m :: rs) : List Int) = [102, 105, 120] ++ 40 :: (runesOf s ++ 41 :: (m :: rs)) from rfl, cutFix, cut_word _ _ [] _ 41 _ h1 j41 m41 (by simpa using h2), List.nil_append, h3, enc_rp, cut_mark _ _ m rs hj hm]
    simp only [List.append_assoc, List.cons_append, List.nil_append]
    congr 1
    · congr 1
      simp only [List.cons.injEq, Prod.mk.injEq, true_and, and_true]
      refine ⟨?_, ?_, ?_⟩ <;> omega
    · omega
  | odd v => cases hf
  | add a b iha ihb =>
    intro l p m rs hj hm
    simp only [formB, Bool.and_eq_true] at hf
    simp only [rnO, sgO, List.cons_append, List.nil_append, List.append_assoc, List.length_cons, List.length_append, List.length_nil]
    rw [show (97 :: 100 :: 100 :: 40 :: (rnO a ++ 44 :: (rnO b ++ 41 :: m :: rs)) : List Int) = [97, 100, 100] ++ 40 :: (rnO a ++ 44 :: (rnO b ++ 41 :: (m :: rs))) from rfl, cutAdd, iha hf.1 _ _ 44 _ j44 m44, ihb hf.2 _ _ 41 _ j41 m41, enc_rp, enc_cm, cut_mark _ _ m rs hj hm]
    simp only [List.append_assoc, List.cons_append, List.nil_append]
    congr 1
    · congr 1
      simp only [List.cons.injEq, Prod.mk.injEq, true_and, and_true, List.append_cancel_left_eq]
      omega
    · omega
  | neg o ih =>
    intro l p m rs hj hm
    simp only [rnO, sgO, List.cons_append, List.nil_append, List.append_assoc, List.length_cons, List.length_append, List.length_nil]
    rw [show (110 :: 101 :: 103 :: 40 :: (rnO o ++ 41 :: m :: rs) : List Int) = [110, 101, 103] ++ 40 :: (rnO o ++ 41 :: (m :: rs)) from rfl, cutNeg, ih hf _ _ 41 _ j41 m41, enc_rp, cut_mark _ _ m rs hj hm]
    simp only [List.append_assoc, List.cons_append, List.nil_append]
    congr 1
    · congr 1
      simp only [List.cons.injEq, Prod.mk.injEq, true_and, and_true, List.append_cancel_left_eq]
      omega
    · omega
  | mul a b iha ihb =>
    intro l p m rs hj hm
    simp only [formB, Bool.and_eq_true] at hf
    simp only [rnO, sgO, List.cons_append, List.nil_append, List.append_assoc, List.length_cons, List.length_append, List.length_nil]
    rw [show (109 :: 117 :: 108 :: 40 :: (rnO a ++ 44 :: (rnO b ++ 41 :: m :: rs)) : List Int) = [109, 117, 108] ++ 40 :: (rnO a ++ 44 :: (rnO b ++ 41 :: (m :: rs))) from rfl, cutMul, iha hf.1 _ _ 44 _ j44 m44, ihb hf.2 _ _ 41 _ j41 m41, enc_rp, enc_cm, cut_mark _ _ m rs hj hm]
    simp only [List.append_assoc, List.cons_append, List.nil_append]
    congr 1
    · congr 1
      simp only [List.cons.injEq, Prod.mk.injEq, true_and, and_true, List.append_cancel_left_eq]
      omega
    · omega
  | max a b iha ihb =>
    intro l p m rs hj hm
    simp only [formB, Bool.and_eq_true] at hf
    simp only [rnO, sgO, List.cons_append, List.nil_append, List.append_assoc, List.length_cons, List.length_append, List.length_nil]
    rw [show (109 :: 97 :: 120 :: 40 :: (rnO a ++ 44 :: (rnO b ++ 41 :: m :: rs)) : List Int) = [109, 97, 120] ++ 40 :: (rnO a ++ 44 :: (rnO b ++ 41 :: (m :: rs))) from rfl, cutMax, iha hf.1 _ _ 44 _ j44 m44, ihb hf.2 _ _ 41 _ j41 m41, enc_rp, enc_cm, cut_mark _ _ m rs hj hm]
    simp only [List.append_assoc, List.cons_append, List.nil_append]
    congr 1
    · congr 1
      simp only [List.cons.injEq, Prod.mk.injEq, true_and, and_true, List.append_cancel_left_eq]
      omega
    · omega

end Go.Proofs.YtfmjjfpajohihaaGreatDoor
namespace Go.Proofs.YtfmjjfpajohihaaGreatDoor
open Go.RowKit
set_option linter.unusedVariables false

/-- The reader, with these signs left. -/
def RS.put (r : RS) (l : List Rn.Sg) : RS := { r with left := l }
theorem put_put (r : RS) (a b : List Rn.Sg) : (r.put a).put b = r.put b := rfl
theorem put_e (r : RS) (a : List Rn.Sg) : (r.put a).e = r.e := rfl
theorem put_left (r : RS) (a : List Rn.Sg) : (r.put a).left = a := rfl
theorem take_cons {r : RS} {a : Rn.Sg} {l : List Rn.Sg} (h : r.e = 0) (hl : r.left = a :: l) : takeS r = a ∧ takeR r = r.put l := by
  unfold takeS takeR RS.put
  rw [if_pos h, if_pos h, hl]
  exact ⟨rfl, rfl⟩
theorem mark_cons (r : RS) (t : ByteArray) (q : Int) (l : List Rn.Sg) (h : r.e = 0) : markR (r.put ((t, q) :: l)) t = r.put l := by
  obtain ⟨h1, h2⟩ := take_cons (r := r.put ((t, q) :: l)) (a := (t, q)) (l := l) h rfl
  unfold markR
  rw [h1, h2]
  unfold fitR
  rw [if_pos (by simp)]
  rfl
theorem name_cons (r : RS) (s : ByteArray) (q : Int) (l : List Rn.Sg) (h : r.e = 0) (hs : nameGo 0 (runesOf s) = true) : nameR (r.put ((s, q) :: l)) = r.put l ∧ (takeS (r.put ((s, q) :: l))).1 = s := by
  obtain ⟨h1, h2⟩ := take_cons (r := r.put ((s, q) :: l)) (a := (s, q)) (l := l) h rfl
  unfold nameR
  rw [h1, h2]
  unfold fitR
  rw [if_pos hs]
  exact ⟨rfl, rfl⟩
theorem day_cons (r : RS) (n : Int) (q : Int) (l : List Rn.Sg) (h : r.e = 0) (hn : dayB n = true) : dayR (r.put ((numB n, q) :: l)) = r.put l ∧ dayV (r.put ((numB n, q) :: l)) = n := by
  obtain ⟨h1, h2⟩ := take_cons (r := r.put ((numB n, q) :: l)) (a := (numB n, q)) (l := l) h rfl
  have hb : 0 ≤ n ∧ n ≤ 10000 := by simpa [dayB] using hn
  have hnum : Rn.numOf (numB n).data.toList = (n, true) := by
    have : (numB n).data.toList = Lib.itoa n := by simp [numB]
    rw [this, numOf_itoa n ((vB_iff n).2 (by omega))]
  unfold dayR dayOkR dayV
  rw [h1, h2, hnum]
  refine ⟨?_, rfl⟩
  unfold fitR
  rw [if_pos (by simp [hb.1, hb.2])]
  rfl
theorem first_cons (r : RS) (d : Nat) (hd : d ≤ 12) (a : Rn.Sg) (l : List Rn.Sg) (h : r.e = 0) : firstR (r.put (a :: l)) d = r.put l ∧ takeS (r.put (a :: l)) = a := by
  obtain ⟨h1, h2⟩ := take_cons (r := r.put (a :: l)) (a := a) (l := l) h rfl
  unfold firstR
  rw [if_neg (by omega), h2, h1]
  exact ⟨rfl, rfl⟩
theorem num_word (n : Int) (w : ByteArray) (b : UInt8) (t : List UInt8) (hw : w.data.toList = b :: t) (hb : ¬ (b.toNat = 45 ∨ (48 ≤ b.toNat ∧ b.toNat ≤ 57))) : numB n ≠ w := by
  intro e
  have : (numB n).data.toList = Lib.itoa n := by simp [numB]
  rw [e, hw] at this
  have hd : ∀ b ∈ Lib.itoa n, b.toNat = 45 ∨ (48 ≤ b.toNat ∧ b.toNat ≤ 57) := by
    unfold Lib.itoa
    split
    · intro b hb
      rcases List.mem_cons.1 hb with rfl | hb
      · exact .inl rfl
      · exact .inr (dec_digs _ b hb)
    · intro b hb; exact .inr (dec_digs _ b hb)
  exact hb (hd b (by rw [← this]; exact List.mem_cons_self))
theorem depth1 (x : O) (h : formB x = true) : 1 ≤ x.depth := by
  cases x <;> simp [O.depth] <;> cases h
/-- A number's signs are read as that number. -/
theorem obs_back (x : O) (hf : formB x = true) : ∀ (f d : Nat) (r : RS) (p : Nat) (rest : List Rn.Sg), d + f = 15 → d + x.depth ≤ 13 → r.e = 0 → obsR f (r.put (sgO p x ++ rest)) d = (x, r.put rest) := by
  have n1 : wAdd ≠ wFix := by decide
  have n2 : wNeg ≠ wFix := by decide
  have n3 : wNeg ≠ wAdd := by decide
  have n4 : wMul ≠ wFix := by decide
  have n5 : wMul ≠ wAdd := by decide
  have n6 : wMul ≠ wNeg := by decide
  have n7 : wMax ≠ wFix := by decide
  have n8 : wMax ≠ wAdd := by decide
  have n9 : wMax ≠ wNeg := by decide
  have n0 : wMax ≠ wMul := by decide
  have hd1 := depth1 x hf
  induction x with
  | odd v => cases hf
  | const n =>
    intro f d r p rest hdf hdd he
    obtain ⟨f, rfl⟩ : ∃ g, f = g + 1 := ⟨f - 1, by omega⟩
    simp only [sgO, List.cons_append, List.nil_append]
    obtain ⟨h1, h2⟩ := first_cons r d (by omega) (numB n, ((p + 1 : Nat) : Int)) rest he
    have hnum : Rn.numOf (numB n).data.toList = (n, true) := by
      have : (numB n).data.toList = Lib.itoa n := by simp [numB]
      rw [this, numOf_itoa n hf]
    rw [obsR, h1, h2]
    simp only
    rw [if_neg (num_word n wFix 102 _ rfl (by decide)), if_neg (num_word n wAdd 97 _ rfl (by decide)), if_neg (num_word n wNeg 110 _ rfl (by decide)), if_neg (num_word n wMul 109 _ rfl (by decide)), if_neg (num_word n wMax 109 _ rfl (by decide)), hnum]
    rfl
  | fix s =>
    intro f d r p rest hdf hdd he
    obtain ⟨f, rfl⟩ : ∃ g, f = g + 1 := ⟨f - 1, by omega⟩
    simp only [sgO, List.cons_append, List.nil_append]
    obtain ⟨h1, h2⟩ := first_cons r d (by omega) (wFix, ((p + 1 : Nat) : Int)) ((lpB, ((p + 4 : Nat) : Int)) :: (s, ((p + 5 : Nat) : Int)) :: (rpB, ((p + 5 + (runesOf s).length : Nat) : Int)) :: rest) he
    rw [obsR, h1, h2]
    simp only
    obtain ⟨h3, h4⟩ := name_cons r s ((p + 5 : Nat) : Int) ((rpB, ((p + 5 + (runesOf s).length : Nat) : Int)) :: rest) he hf
    rw [if_pos trivial, mark_cons r lpB _ _ he, h3, h4, mark_cons r rpB _ _ he]
  | neg x ih =>
    intro f d r p rest hdf hdd he
    obtain ⟨f, rfl⟩ : ∃ g, f = g + 1 := ⟨f - 1, by omega⟩
    simp only [O.depth] at hdd
    simp only [sgO, List.cons_append, List.nil_append, List.append_assoc]
    obtain ⟨h1, h2⟩ := first_cons r d (by omega) (wNeg, ((p + 1 : Nat) : Int)) ((lpB, ((p + 4 : Nat) : Int)) :: (sgO (p + 4) x ++ (rpB, ((p + 4 + (rnO x).length + 1 : Nat) : Int)) :: rest)) he
    rw [obsR, h1, h2]
    simp only
    rw [if_neg n2, if_neg n3, if_pos trivial, mark_cons r lpB _ _ he, ih hf (depth1 x hf) f (d + 1) r (p + 4) _ (by omega) (by omega) he, mark_cons r rpB _ _ he]
  | add a b iha ihb =>
    intro f d r p rest hdf hdd he
    obtain ⟨f, rfl⟩ : ∃ g, f = g + 1 := ⟨f - 1, by omega⟩
    simp only [formB, Bool.and_eq_true] at hf
    simp only [O.depth] at hdd
    simp only [sgO, List.cons_append, List.nil_append, List.append_assoc]
    obtain ⟨h1, h2⟩ := first_cons r d (by omega) (wAdd, ((p + 1 : Nat) : Int)) ((lpB, ((p + 4 : Nat) : Int)) :: (sgO (p + 4) a ++ (cmB, ((p + 4 + (rnO a).length + 1 : Nat) : Int)) :: (sgO (p + 4 + (rnO a).length + 1) b ++ (rpB, ((p + 4 + (rnO a).length + 1 + (rnO b).length + 1 : Nat) : Int)) :: rest))) he
    rw [obsR, h1, h2]
    simp only
    rw [if_neg n1, if_pos trivial]
    unfold pairF
    simp only
    rw [mark_cons r lpB _ _ he, iha hf.1 (depth1 a hf.1) f (d + 1) r (p + 4) _ (by omega) (by omega) he]
    simp only
    rw [mark_cons r cmB _ _ he, ihb hf.2 (depth1 b hf.2) f (d + 1) r (p + 4 + (rnO a).length + 1) _ (by omega) (by omega) he]
    simp only
    rw [mark_cons r rpB _ _ he]
  | mul a b iha ihb =>
    intro f d r p rest hdf hdd he
    obtain ⟨f, rfl⟩ : ∃ g, f = g + 1 := ⟨f - 1, by omega⟩
    simp only [formB, Bool.and_eq_true] at hf
    simp only [O.depth] at hdd
    simp only [sgO, List.cons_append, List.nil_append, List.append_assoc]
    obtain ⟨h1, h2⟩ := first_cons r d (by omega) (wMul, ((p + 1 : Nat) : Int)) ((lpB, ((p + 4 : Nat) : Int)) :: (sgO (p + 4) a ++ (cmB, ((p + 4 + (rnO a).length + 1 : Nat) : Int)) :: (sgO (p + 4 + (rnO a).length + 1) b ++ (rpB, ((p + 4 + (rnO a).length + 1 + (rnO b).length + 1 : Nat) : Int)) :: rest))) he
    rw [obsR, h1, h2]
    simp only
    rw [if_neg n4, if_neg n5, if_neg n6, if_pos trivial]
    unfold pairF
    simp only
    rw [mark_cons r lpB _ _ he, iha hf.1 (depth1 a hf.1) f (d + 1) r (p + 4) _ (by omega) (by omega) he]
    simp only
    rw [mark_cons r cmB _ _ he, ihb hf.2 (depth1 b hf.2) f (d + 1) r (p + 4 + (rnO a).length + 1) _ (by omega) (by omega) he]
    simp only
    rw [mark_cons r rpB _ _ he]
  | max a b iha ihb =>
    intro f d r p rest hdf hdd he
    obtain ⟨f, rfl⟩ : ∃ g, f = g + 1 := ⟨f - 1, by omega⟩
    simp only [formB, Bool.and_eq_true] at hf
    simp only [O.depth] at hdd
    simp only [sgO, List.cons_append, List.nil_append, List.append_assoc]
    obtain ⟨h1, h2⟩ := first_cons r d (by omega) (wMax, ((p + 1 : Nat) : Int)) ((lpB, ((p + 4 : Nat) : Int)) :: (sgO (p + 4) a ++ (cmB, ((p + 4 + (rnO a).length + 1 : Nat) : Int)) :: (sgO (p + 4 + (rnO a).length + 1) b ++ (rpB, ((p + 4 + (rnO a).length + 1 + (rnO b).length + 1 : Nat) : Int)) :: rest))) he
    rw [obsR, h1, h2]
    simp only
    rw [if_neg n7, if_neg n8, if_neg n9, if_neg n0, if_pos trivial]
    unfold pairF
    simp only
    rw [mark_cons r lpB _ _ he, iha hf.1 (depth1 a hf.1) f (d + 1) r (p + 4) _ (by omega) (by omega) he]
    simp only
    rw [mark_cons r cmB _ _ he, ihb hf.2 (depth1 b hf.2) f (d + 1) r (p + 4 + (rnO a).length + 1) _ (by omega) (by omega) he]
    simp only
    rw [mark_cons r rpB _ _ he]

end Go.Proofs.YtfmjjfpajohihaaGreatDoor
namespace Go.Proofs.YtfmjjfpajohihaaGreatDoor
open Go.RowKit
set_option linter.unusedVariables false

def rnC : C → List Int
  | .zero => [122, 101, 114, 111]
  | .one s => [111, 110, 101, 40] ++ ((runesOf s) ++ [41])
  | .give c => [103, 105, 118, 101, 40] ++ ((rnC c) ++ [41])
  | .and a b => [97, 110, 100, 40] ++ ((rnC a) ++ 44 :: ((rnC b) ++ [41]))
  | .or s a b => [111, 114, 40] ++ ((runesOf s) ++ 44 :: ((rnC a) ++ 44 :: ((rnC b) ++ [41])))
  | .scale o c => [115, 99, 97, 108, 101, 40] ++ ((rnO o) ++ 44 :: ((rnC c) ++ [41]))
  | .when n c => [119, 104, 101, 110, 40] ++ ((rnN n) ++ 44 :: ((rnC c) ++ [41]))
  | .iff o a b => [105, 102, 40] ++ ((rnO o) ++ 44 :: ((rnC a) ++ 44 :: ((rnC b) ++ [41])))
  | .odd _ => []
def sgC (p : Nat) : C → List Rn.Sg
  | .zero => [(wZero, ((p + 1 : Nat) : Int))]
  | .one s => (wOne, ((p + 1 : Nat) : Int)) :: (lpB, ((p + 4 : Nat) : Int)) :: ([(s, ((p + 4 + 1 : Nat) : Int))] ++ (rpB, ((p + 4 + (runesOf s).length + 1 : Nat) : Int)) :: [])
  | .give c => (wGive, ((p + 1 : Nat) : Int)) :: (lpB, ((p + 5 : Nat) : Int)) :: (sgC (p + 5) c ++ (rpB, ((p + 5 + (rnC c).length + 1 : Nat) : Int)) :: [])
  | .and a b => (wAnd, ((p + 1 : Nat) : Int)) :: (lpB, ((p + 4 : Nat) : Int)) :: (sgC (p + 4) a ++ (cmB, ((p + 4 + (rnC a).length + 1 : Nat) : Int)) :: (sgC (p + 4 + (rnC a).length + 1) b ++ (rpB, ((p + 4 + (rnC a).length + 1 + (rnC b).length + 1 : Nat) : Int)) :: []))
  | .or s a b => (wOr, ((p + 1 : Nat) : Int)) :: (lpB, ((p + 3 : Nat) : Int)) :: ([(s, ((p + 3 + 1 : Nat) : Int))] ++ (cmB, ((p + 3 + (runesOf s).length + 1 : Nat) : Int)) :: (sgC (p + 3 + (runesOf s).length + 1) a ++ (cmB, ((p + 3 + (runesOf s).length + 1 + (rnC a).length + 1 : Nat) : Int)) :: (sgC (p + 3 + (runesOf s).length + 1 + (rnC a).length + 1) b ++ (rpB, ((p + 3 + (runesOf s).length + 1 + (rnC a).length + 1 + (rnC b).length + 1 : Nat) : Int)) :: [])))
  | .scale o c => (wScale, ((p + 1 : Nat) : Int)) :: (lpB, ((p + 6 : Nat) : Int)) :: (sgO (p + 6) o ++ (cmB, ((p + 6 + (rnO o).length + 1 : Nat) : Int)) :: (sgC (p + 6 + (rnO o).length + 1) c ++ (rpB, ((p + 6 + (rnO o).length + 1 + (rnC c).length + 1 : Nat) : Int)) :: []))
  | .when n c => (wWhen, ((p + 1 : Nat) : Int)) :: (lpB, ((p + 5 : Nat) : Int)) :: ([(numB n, ((p + 5 + 1 : Nat) : Int))] ++ (cmB, ((p + 5 + (rnN n).length + 1 : Nat) : Int)) :: (sgC (p + 5 + (rnN n).length + 1) c ++ (rpB, ((p + 5 + (rnN n).length + 1 + (rnC c).length + 1 : Nat) : Int)) :: []))
  | .iff o a b => (wIf, ((p + 1 : Nat) : Int)) :: (lpB, ((p + 3 : Nat) : Int)) :: (sgO (p + 3) o ++ (cmB, ((p + 3 + (rnO o).length + 1 : Nat) : Int)) :: (sgC (p + 3 + (rnO o).length + 1) a ++ (cmB, ((p + 3 + (rnO o).length + 1 + (rnC a).length + 1 : Nat) : Int)) :: (sgC (p + 3 + (rnO o).length + 1 + (rnC a).length + 1) b ++ (rpB, ((p + 3 + (rnO o).length + 1 + (rnC a).length + 1 + (rnC b).length + 1 : Nat) : Int)) :: [])))
  | .odd _ => []
theorem cutN (s : ByteArray) (hs : nameGo 0 (runesOf s) = true) (l : List Rn.Sg) (p : Nat) (m : Int) (rs : List Int) (hj : Rn.joinB m = false) (hm : Rn.markB m = true) :
    Rn.cutGo l [] p (runesOf s ++ m :: rs) = Rn.cutGo (l ++ [(s, ((p + 1 : Nat) : Int))] ++ [(Utf8.encode m, ((p + (runesOf s).length + 1 : Nat) : Int))]) [] (p + (runesOf s).length + 1) rs := by
  obtain ⟨h1, h2, h3⟩ := name_join s hs
  rw [cut_word _ l [] p m rs h1 hj hm (by simpa using h2), List.nil_append, h3]
  rw [show (((p + (runesOf s).length + 1 : Nat) : Int) - ((runesOf s).length : Int)) = ((p + 1 : Nat) : Int) by omega]
theorem cutD (n : Int) (l : List Rn.Sg) (p : Nat) (m : Int) (rs : List Int) (hj : Rn.joinB m = false) (hm : Rn.markB m = true) :
    Rn.cutGo l [] p (rnN n ++ m :: rs) = Rn.cutGo (l ++ [(numB n, ((p + 1 : Nat) : Int))] ++ [(Utf8.encode m, ((p + (rnN n).length + 1 : Nat) : Int))]) [] (p + (rnN n).length + 1) rs := by
  obtain ⟨h1, h2, h3⟩ := itoa_join n
  rw [cut_word _ l [] p m rs h1 hj hm (by simpa using h2), List.nil_append, h3]
  rw [show (((p + (rnN n).length + 1 : Nat) : Int) - ((rnN n).length : Int)) = ((p + 1 : Nat) : Int) by omega]
theorem j41 : Rn.joinB 41 = false := by decide
theorem m41 : Rn.markB 41 = true := by decide
theorem j44 : Rn.joinB 44 = false := by decide
theorem m44 : Rn.markB 44 = true := by decide
theorem zero_word : (∀ x ∈ ([122, 101, 114, 111] : List Int), Rn.joinB x = true) ∧ runesBytes [122, 101, 114, 111] = wZero := ⟨by decide, by decide +kernel⟩
/-- A contract's runes, and a mark: its signs, and that mark. -/
theorem cutC (x : C) (hf : formC x = true) : ∀ (l : List Rn.Sg) (p : Nat) (m : Int) (rs : List Int), Rn.joinB m = false → Rn.markB m = true →
    Rn.cutGo l [] p (rnC x ++ m :: rs) = Rn.cutGo (l ++ sgC p x ++ [(Utf8.encode m, ((p + (rnC x).length + 1 : Nat) : Int))]) [] (p + (rnC x).length + 1) rs := by
  induction x with
  | odd v => cases hf
  | zero =>
    intro l p m rs hj hm
    simp only [rnC, sgC]
    rw [cut_word _ l [] p m rs zero_word.1 hj hm (by simp), List.nil_append, zero_word.2]
    simp only [List.length_cons, List.length_nil]
    rw [show (((p + (0 + 1 + 1 + 1 + 1) + 1 : Nat) : Int) - ((0 + 1 + 1 + 1 + 1 : Nat) : Int)) = ((p + 1 : Nat) : Int) by omega]
  | one s =>
    intro l p m rs hj hm
    simp only [rnC, sgC, List.cons_append, List.nil_append, List.append_assoc, List.length_cons, List.length_append, List.length_nil]
    rw [show (111 :: 110 :: 101 :: 40 :: ((runesOf s) ++ 41 :: m :: rs) : List Int) = [111, 110, 101] ++ 40 :: ((runesOf s) ++ 41 :: (m :: rs)) from rfl, cutOne, cutN s hf _ _ 41 _ j41 m41, enc_rp, cut_mark _ _ m rs hj hm]
    simp only [List.append_assoc, List.cons_append, List.nil_append]
    congr 1
    · congr 1
      simp only [List.cons.injEq, Prod.mk.injEq, true_and, and_true]
      omega
    · omega
  | give c ih1 =>
    intro l p m rs hj hm
    simp only [rnC, sgC, List.cons_append, List.nil_append, List.append_assoc, List.length_cons, List.length_append, List.length_nil]
    rw [show (103 :: 105 :: 118 :: 101 :: 40 :: ((rnC c) ++ 41 :: m :: rs) : List Int) = [103, 105, 118, 101] ++ 40 :: ((rnC c) ++ 41 :: (m :: rs)) from rfl, cutGive, ih1 hf _ _ 41 _ j41 m41, enc_rp, cut_mark _ _ m rs hj hm]
    simp only [List.append_assoc, List.cons_append, List.nil_append]
    congr 1
    · congr 1
      simp only [List.cons.injEq, Prod.mk.injEq, true_and, and_true, List.append_cancel_left_eq]
      omega
    · omega
  | and a b ih1 ih2 =>
    intro l p m rs hj hm
    simp only [formC, Bool.and_eq_true] at hf
    simp only [rnC, sgC, List.cons_append, List.nil_append, List.append_assoc, List.length_cons, List.length_append, List.length_nil]
    rw [show (97 :: 110 :: 100 :: 40 :: ((rnC a) ++ 44 :: ((rnC b) ++ 41 :: m :: rs)) : List Int) = [97, 110, 100] ++ 40 :: ((rnC a) ++ 44 :: ((rnC b) ++ 41 :: (m :: rs))) from rfl, cutAnd, ih1 hf.1 _ _ 44 _ j44 m44, ih2 hf.2 _ _ 41 _ j41 m41, enc_rp, enc_cm, cut_mark _ _ m rs hj hm]
    simp only [List.append_assoc, List.cons_append, List.nil_append]
    congr 1
    · congr 1
      simp only [List.cons.injEq, Prod.mk.injEq, true_and, and_true, List.append_cancel_left_eq]
      omega
    · omega
  | or s a b ih1 ih2 =>
    intro l p m rs hj hm
    simp only [formC, Bool.and_eq_true] at hf
    simp only [rnC, sgC, List.cons_append, List.nil_append, List.append_assoc, List.length_cons, List.length_append, List.length_nil]
    rw [show (111 :: 114 :: 40 :: ((runesOf s) ++ 44 :: ((rnC a) ++ 44 :: ((rnC b) ++ 41 :: m :: rs))) : List Int) = [111, 114] ++ 40 :: ((runesOf s) ++ 44 :: ((rnC a) ++ 44 :: ((rnC b) ++ 41 :: (m :: rs)))) from rfl, cutOr, cutN s hf.1.1 _ _ 44 _ j44 m44, ih1 hf.1.2 _ _ 44 _ j44 m44, ih2 hf.2 _ _ 41 _ j41 m41, enc_rp, enc_cm, cut_mark _ _ m rs hj hm]
    simp only [List.append_assoc, List.cons_append, List.nil_append]
    congr 1
    · congr 1
      simp only [List.cons.injEq, Prod.mk.injEq, true_and, and_true, List.append_cancel_left_eq]
      omega
    · omega
  | scale o c ih1 =>
    intro l p m rs hj hm
    simp only [formC, Bool.and_eq_true] at hf
    simp only [rnC, sgC, List.cons_append, List.nil_append, List.append_assoc, List.length_cons, List.length_append, List.length_nil]
    rw [show (115 :: 99 :: 97 :: 108 :: 101 :: 40 :: ((rnO o) ++ 44 :: ((rnC c) ++ 41 :: m :: rs)) : List Int) = [115, 99, 97, 108, 101] ++ 40 :: ((rnO o) ++ 44 :: ((rnC c) ++ 41 :: (m :: rs))) from rfl, cutScale, cutO o hf.1 _ _ 44 _ j44 m44, ih1 hf.2 _ _ 41 _ j41 m41, enc_rp, enc_cm, cut_mark _ _ m rs hj hm]
    simp only [List.append_assoc, List.cons_append, List.nil_append]
    congr 1
    · congr 1
      simp only [List.cons.injEq, Prod.mk.injEq, true_and, and_true, List.append_cancel_left_eq]
      omega
    · omega
  | when n c ih1 =>
    intro l p m rs hj hm
    simp only [formC, Bool.and_eq_true] at hf
    simp only [rnC, sgC, List.cons_append, List.nil_append, List.append_assoc, List.length_cons, List.length_append, List.length_nil]
    rw [show (119 :: 104 :: 101 :: 110 :: 40 :: ((rnN n) ++ 44 :: ((rnC c) ++ 41 :: m :: rs)) : List Int) = [119, 104, 101, 110] ++ 40 :: ((rnN n) ++ 44 :: ((rnC c) ++ 41 :: (m :: rs))) from rfl, cutWhen, cutD n _ _ 44 _ j44 m44, ih1 hf.2 _ _ 41 _ j41 m41, enc_rp, enc_cm, cut_mark _ _ m rs hj hm]
    simp only [List.append_assoc, List.cons_append, List.nil_append]
    congr 1
    · congr 1
      simp only [List.cons.injEq, Prod.mk.injEq, true_and, and_true, List.append_cancel_left_eq]
      omega
    · omega
  | iff o a b ih1 ih2 =>
    intro l p m rs hj hm
    simp only [formC, Bool.and_eq_true] at hf
    simp only [rnC, sgC, List.cons_append, List.nil_append, List.append_assoc, List.length_cons, List.length_append, List.length_nil]
    rw [show (105 :: 102 :: 40 :: ((rnO o) ++ 44 :: ((rnC a) ++ 44 :: ((rnC b) ++ 41 :: m :: rs))) : List Int) = [105, 102] ++ 40 :: ((rnO o) ++ 44 :: ((rnC a) ++ 44 :: ((rnC b) ++ 41 :: (m :: rs)))) from rfl, cutIf, cutO o hf.1.1 _ _ 44 _ j44 m44, ih1 hf.1.2 _ _ 44 _ j44 m44, ih2 hf.2 _ _ 41 _ j41 m41, enc_rp, enc_cm, cut_mark _ _ m rs hj hm]
    simp only [List.append_assoc, List.cons_append, List.nil_append]
    congr 1
    · congr 1
      simp only [List.cons.injEq, Prod.mk.injEq, true_and, and_true, List.append_cancel_left_eq]
      omega
    · omega
theorem cdepth1 (x : C) (h : formC x = true) : 1 ≤ x.depth := by
  cases x <;> simp [C.depth] <;> cases h
/-- A contract's signs are read as that contract. -/
theorem term_back (x : C) (hf : formC x = true) : ∀ (f d : Nat) (r : RS) (p : Nat) (rest : List Rn.Sg), d + f = 15 → d + x.depth ≤ 13 → r.e = 0 → termR f (r.put (sgC p x ++ rest)) d = (x, r.put rest) := by
  have hd1 := cdepth1 x hf
  induction x with
  | odd v => cases hf
  | zero =>
    intro f d r p rest hdf hdd he
    obtain ⟨f, rfl⟩ : ∃ g, f = g + 1 := ⟨f - 1, by omega⟩
    simp only [sgC, List.cons_append, List.nil_append]
    obtain ⟨h1, h2⟩ := first_cons r d (by omega) (wZero, ((p + 1 : Nat) : Int)) rest he
    rw [termR, h1, h2]
    simp only
    rw [if_pos trivial]
  | one s =>
    intro f d r p rest hdf hdd he
    obtain ⟨f, rfl⟩ : ∃ g, f = g + 1 := ⟨f - 1, by omega⟩
    simp only [C.depth] at hdd
    simp only [sgC, List.cons_append, List.nil_append]
    obtain ⟨h1, h2⟩ := first_cons r d (by omega) (wOne, ((p + 1 : Nat) : Int)) ((lpB, ((p + 4 : Nat) : Int)) :: ((s, ((p + 4 + 1 : Nat) : Int)) :: (rpB, ((p + 4 + (runesOf s).length + 1 : Nat) : Int)) :: rest)) he
    rw [termR, h1, h2]
    simp only
    rw [if_neg (by decide), if_pos trivial, mark_cons r lpB _ _ he]
    rw [(name_cons r s _ _ he hf).1, (name_cons r s _ _ he hf).2, mark_cons r rpB _ _ he]
  | give c ih1 =>
    intro f d r p rest hdf hdd he
    obtain ⟨f, rfl⟩ : ∃ g, f = g + 1 := ⟨f - 1, by omega⟩
    simp only [C.depth] at hdd
    simp only [sgC, List.cons_append, List.nil_append, List.append_assoc]
    obtain ⟨h1, h2⟩ := first_cons r d (by omega) (wGive, ((p + 1 : Nat) : Int)) ((lpB, ((p + 5 : Nat) : Int)) :: (sgC (p + 5) c ++ (rpB, ((p + 5 + (rnC c).length + 1 : Nat) : Int)) :: rest)) he
    rw [termR, h1, h2]
    simp only
    rw [if_neg (by decide), if_neg (by decide), if_pos trivial, mark_cons r lpB _ _ he]
    unfold lastF
    simp only
    rw [ih1 hf (cdepth1 c hf) f (d + 1) r (p + 5) _ (by omega) (by omega) he]
    simp only
    rw [mark_cons r rpB _ _ he]
  | and a b ih1 ih2 =>
    intro f d r p rest hdf hdd he
    obtain ⟨f, rfl⟩ : ∃ g, f = g + 1 := ⟨f - 1, by omega⟩
    simp only [formC, Bool.and_eq_true] at hf
    simp only [C.depth] at hdd
    simp only [sgC, List.cons_append, List.nil_append, List.append_assoc]
    obtain ⟨h1, h2⟩ := first_cons r d (by omega) (wAnd, ((p + 1 : Nat) : Int)) ((lpB, ((p + 4 : Nat) : Int)) :: (sgC (p + 4) a ++ (cmB, ((p + 4 + (rnC a).length + 1 : Nat) : Int)) :: (sgC (p + 4 + (rnC a).length + 1) b ++ (rpB, ((p + 4 + (rnC a).length + 1 + (rnC b).length + 1 : Nat) : Int)) :: rest))) he
    rw [termR, h1, h2]
    simp only
    rw [if_neg (by decide), if_neg (by decide), if_neg (by decide), if_pos trivial, mark_cons r lpB _ _ he]
    unfold lastsF lastF
    simp only
    rw [ih1 hf.1 (cdepth1 a hf.1) f (d + 1) r (p + 4) _ (by omega) (by omega) he]
    simp only
    rw [mark_cons r cmB _ _ he]
    rw [ih2 hf.2 (cdepth1 b hf.2) f (d + 1) r (p + 4 + (rnC a).length + 1) _ (by omega) (by omega) he]
    simp only
    rw [mark_cons r rpB _ _ he]
  | or s a b ih1 ih2 =>
    intro f d r p rest hdf hdd he
    obtain ⟨f, rfl⟩ : ∃ g, f = g + 1 := ⟨f - 1, by omega⟩
    simp only [formC, Bool.and_eq_true] at hf
    simp only [C.depth] at hdd
    simp only [sgC, List.cons_append, List.nil_append, List.append_assoc]
    obtain ⟨h1, h2⟩ := first_cons r d (by omega) (wOr, ((p + 1 : Nat) : Int)) ((lpB, ((p + 3 : Nat) : Int)) :: ((s, ((p + 3 + 1 : Nat) : Int)) :: (cmB, ((p + 3 + (runesOf s).length + 1 : Nat) : Int)) :: (sgC (p + 3 + (runesOf s).length + 1) a ++ (cmB, ((p + 3 + (runesOf s).length + 1 + (rnC a).length + 1 : Nat) : Int)) :: (sgC (p + 3 + (runesOf s).length + 1 + (rnC a).length + 1) b ++ (rpB, ((p + 3 + (runesOf s).length + 1 + (rnC a).length + 1 + (rnC b).length + 1 : Nat) : Int)) :: rest)))) he
    rw [termR, h1, h2]
    simp only
    rw [if_neg (by decide), if_neg (by decide), if_neg (by decide), if_neg (by decide), if_pos trivial, mark_cons r lpB _ _ he]
    rw [(name_cons r s _ _ he hf.1.1).1, (name_cons r s _ _ he hf.1.1).2, mark_cons r cmB _ _ he]
    unfold lastsF lastF
    simp only
    rw [ih1 hf.1.2 (cdepth1 a hf.1.2) f (d + 1) r (p + 3 + (runesOf s).length + 1) _ (by omega) (by omega) he]
    simp only
    rw [mark_cons r cmB _ _ he]
    rw [ih2 hf.2 (cdepth1 b hf.2) f (d + 1) r (p + 3 + (runesOf s).length + 1 + (rnC a).length + 1) _ (by omega) (by omega) he]
    simp only
    rw [mark_cons r rpB _ _ he]
  | scale o c ih1 =>
    intro f d r p rest hdf hdd he
    obtain ⟨f, rfl⟩ : ∃ g, f = g + 1 := ⟨f - 1, by omega⟩
    simp only [formC, Bool.and_eq_true] at hf
    simp only [C.depth] at hdd
    simp only [sgC, List.cons_append, List.nil_append, List.append_assoc]
    obtain ⟨h1, h2⟩ := first_cons r d (by omega) (wScale, ((p + 1 : Nat) : Int)) ((lpB, ((p + 6 : Nat) : Int)) :: (sgO (p + 6) o ++ (cmB, ((p + 6 + (rnO o).length + 1 : Nat) : Int)) :: (sgC (p + 6 + (rnO o).length + 1) c ++ (rpB, ((p + 6 + (rnO o).length + 1 + (rnC c).length + 1 : Nat) : Int)) :: rest))) he
    rw [termR, h1, h2]
    simp only
    rw [if_neg (by decide), if_neg (by decide), if_neg (by decide), if_neg (by decide), if_neg (by decide), if_pos trivial, mark_cons r lpB _ _ he]
    rw [obs_back o hf.1 f (d + 1) r (p + 6) _ (by omega) (by omega) he]
    simp only
    rw [mark_cons r cmB _ _ he]
    unfold lastF
    simp only
    rw [ih1 hf.2 (cdepth1 c hf.2) f (d + 1) r (p + 6 + (rnO o).length + 1) _ (by omega) (by omega) he]
    simp only
    rw [mark_cons r rpB _ _ he]
  | when n c ih1 =>
    intro f d r p rest hdf hdd he
    obtain ⟨f, rfl⟩ : ∃ g, f = g + 1 := ⟨f - 1, by omega⟩
    simp only [formC, Bool.and_eq_true] at hf
    simp only [C.depth] at hdd
    simp only [sgC, List.cons_append, List.nil_append, List.append_assoc]
    obtain ⟨h1, h2⟩ := first_cons r d (by omega) (wWhen, ((p + 1 : Nat) : Int)) ((lpB, ((p + 5 : Nat) : Int)) :: ((numB n, ((p + 5 + 1 : Nat) : Int)) :: (cmB, ((p + 5 + (rnN n).length + 1 : Nat) : Int)) :: (sgC (p + 5 + (rnN n).length + 1) c ++ (rpB, ((p + 5 + (rnN n).length + 1 + (rnC c).length + 1 : Nat) : Int)) :: rest))) he
    rw [termR, h1, h2]
    simp only
    rw [if_neg (by decide), if_neg (by decide), if_neg (by decide), if_neg (by decide), if_neg (by decide), if_neg (by decide), if_pos trivial, mark_cons r lpB _ _ he]
    rw [(day_cons r n _ _ he hf.1).1, (day_cons r n _ _ he hf.1).2, mark_cons r cmB _ _ he]
    unfold lastF
    simp only
    rw [ih1 hf.2 (cdepth1 c hf.2) f (d + 1) r (p + 5 + (rnN n).length + 1) _ (by omega) (by omega) he]
    simp only
    rw [mark_cons r rpB _ _ he]
  | iff o a b ih1 ih2 =>
    intro f d r p rest hdf hdd he
    obtain ⟨f, rfl⟩ : ∃ g, f = g + 1 := ⟨f - 1, by omega⟩
    simp only [formC, Bool.and_eq_true] at hf
    simp only [C.depth] at hdd
    simp only [sgC, List.cons_append, List.nil_append, List.append_assoc]
    obtain ⟨h1, h2⟩ := first_cons r d (by omega) (wIf, ((p + 1 : Nat) : Int)) ((lpB, ((p + 3 : Nat) : Int)) :: (sgO (p + 3) o ++ (cmB, ((p + 3 + (rnO o).length + 1 : Nat) : Int)) :: (sgC (p + 3 + (rnO o).length + 1) a ++ (cmB, ((p + 3 + (rnO o).length + 1 + (rnC a).length + 1 : Nat) : Int)) :: (sgC (p + 3 + (rnO o).length + 1 + (rnC a).length + 1) b ++ (rpB, ((p + 3 + (rnO o).length + 1 + (rnC a).length + 1 + (rnC b).length + 1 : Nat) : Int)) :: rest)))) he
    rw [termR, h1, h2]
    simp only
    rw [if_neg (by decide), if_neg (by decide), if_neg (by decide), if_neg (by decide), if_neg (by decide), if_neg (by decide), if_neg (by decide), if_pos trivial, mark_cons r lpB _ _ he]
    rw [obs_back o hf.1.1 f (d + 1) r (p + 3) _ (by omega) (by omega) he]
    simp only
    rw [mark_cons r cmB _ _ he]
    unfold lastsF lastF
    simp only
    rw [ih1 hf.1.2 (cdepth1 a hf.1.2) f (d + 1) r (p + 3 + (rnO o).length + 1) _ (by omega) (by omega) he]
    simp only
    rw [mark_cons r cmB _ _ he]
    rw [ih2 hf.2 (cdepth1 b hf.2) f (d + 1) r (p + 3 + (rnO o).length + 1 + (rnC a).length + 1) _ (by omega) (by omega) he]
    simp only
    rw [mark_cons r rpB _ _ he]

end Go.Proofs.YtfmjjfpajohihaaGreatDoor
namespace Go.Proofs.YtfmjjfpajohihaaGreatDoor
open Go.RowKit
set_option linter.unusedVariables false

theorem cut_behind (m : Int) (hj : Rn.joinB m = false) (hm : Rn.markB m = true) (ws : List Int) : ∀ (l : List Rn.Sg) (run : List Int) (p : Nat), Rn.cutGo l run p (ws ++ [m]) = Rn.cutGo l run p ws ++ [(Utf8.encode m, ((p + ws.length + 1 : Nat) : Int))] := by
  induction ws with
  | nil =>
    intro l run p
    rw [List.nil_append, Rn.cutGo_mark l run p m [] hj hm]
    rfl
  | cons x ws ih =>
    intro l run p
    have e : p + 1 + ws.length + 1 = p + (x :: ws).length + 1 := by simp only [List.length_cons]; omega
    rw [List.cons_append]
    cases h1 : Rn.joinB x with
    | true => rw [Rn.cutGo_join l run p x _ h1, Rn.cutGo_join l run p x _ h1, ih, e]
    | false =>
      cases h2 : Rn.markB x with
      | true => rw [Rn.cutGo_mark l run p x _ h1 h2, Rn.cutGo_mark l run p x _ h1 h2, ih, e]
      | false => rw [Rn.cutGo_skip l run p x _ h1 h2, Rn.cutGo_skip l run p x _ h1 h2, ih, e]
theorem cutC_all (x : C) (hf : formC x = true) : Rn.cutGo [] [] 0 (rnC x) = sgC 0 x := by
  have h1 := cut_behind 41 j41 m41 (rnC x) [] [] 0
  have h2 := cutC x hf [] 0 41 [] j41 m41
  rw [h2] at h1
  have h3 : Rn.cutGo ([] ++ sgC 0 x ++ [(Utf8.encode 41, ((0 + (rnC x).length + 1 : Nat) : Int))]) [] (0 + (rnC x).length + 1) [] = sgC 0 x ++ [(Utf8.encode 41, ((0 + (rnC x).length + 1 : Nat) : Int))] := rfl
  rw [h3] at h1
  exact (List.append_cancel_right h1).symm
theorem cutO_all (x : O) (hf : formB x = true) : Rn.cutGo [] [] 0 (rnO x) = sgO 0 x := by
  have h1 := cut_behind 41 j41 m41 (rnO x) [] [] 0
  have h2 := cutO x hf [] 0 41 [] j41 m41
  rw [h2] at h1
  have h3 : Rn.cutGo ([] ++ sgO 0 x ++ [(Utf8.encode 41, ((0 + (rnO x).length + 1 : Nat) : Int))]) [] (0 + (rnO x).length + 1) [] = sgO 0 x ++ [(Utf8.encode 41, ((0 + (rnO x).length + 1 : Nat) : Int))] := rfl
  rw [h3] at h1
  exact (List.append_cancel_right h1).symm
theorem join_ok (r : Int) (h : Rn.joinB r = true) : Rn.okR r = true := by unfold Rn.okR; rw [h]; simp
theorem all_app {a b : List Int} (ha : a.all Rn.okR = true) (hb : b.all Rn.okR = true) : (a ++ b).all Rn.okR = true := by rw [List.all_append, ha, hb]; rfl
theorem all_cm {b : List Int} (hb : b.all Rn.okR = true) : (44 :: b).all Rn.okR = true := by rw [List.all_cons, hb]; decide
theorem all_name (s : ByteArray) (h : nameGo 0 (runesOf s) = true) : (runesOf s).all Rn.okR = true := List.all_eq_true.2 fun r hr => join_ok r ((name_join s h).1 r hr)
theorem all_num (n : Int) : (rnN n).all Rn.okR = true := List.all_eq_true.2 fun r hr => join_ok r ((itoa_join n).1 r hr)
theorem rnO_all (x : O) (hf : formB x = true) : (rnO x).all Rn.okR = true := by
  induction x with
  | odd v => cases hf
  | const n => exact all_num n
  | fix s => exact all_app (by decide) (all_app (all_name s hf) (by decide))
  | neg o ih => exact all_app (by decide) (all_app (ih hf) (by decide))
  | add a b iha ihb => simp only [formB, Bool.and_eq_true] at hf; exact all_app (by decide) (all_app (iha hf.1) (all_cm (all_app (ihb hf.2) (by decide))))
  | mul a b iha ihb => simp only [formB, Bool.and_eq_true] at hf; exact all_app (by decide) (all_app (iha hf.1) (all_cm (all_app (ihb hf.2) (by decide))))
  | max a b iha ihb => simp only [formB, Bool.and_eq_true] at hf; exact all_app (by decide) (all_app (iha hf.1) (all_cm (all_app (ihb hf.2) (by decide))))
theorem rnC_all (x : C) (hf : formC x = true) : (rnC x).all Rn.okR = true := by
  induction x with
  | odd v => cases hf
  | zero => decide
  | one s => exact all_app (by decide) (all_app (all_name s hf) (by decide))
  | give c ih => exact all_app (by decide) (all_app (ih hf) (by decide))
  | and a b iha ihb => simp only [formC, Bool.and_eq_true] at hf; exact all_app (by decide) (all_app (iha hf.1) (all_cm (all_app (ihb hf.2) (by decide))))
  | or s a b iha ihb => simp only [formC, Bool.and_eq_true] at hf; exact all_app (by decide) (all_app (all_name s hf.1.1) (all_cm (all_app (iha hf.1.2) (all_cm (all_app (ihb hf.2) (by decide))))))
  | scale o c ih => simp only [formC, Bool.and_eq_true] at hf; exact all_app (by decide) (all_app (rnO_all o hf.1) (all_cm (all_app (ih hf.2) (by decide))))
  | when n c ih => simp only [formC, Bool.and_eq_true] at hf; exact all_app (by decide) (all_app (all_num n) (all_cm (all_app (ih hf.2) (by decide))))
  | iff o a b iha ihb => simp only [formC, Bool.and_eq_true] at hf; exact all_app (by decide) (all_app (rnO_all o hf.1.1) (all_cm (all_app (iha hf.1.2) (all_cm (all_app (ihb hf.2) (by decide))))))
theorem bad_none (rs : List Int) (h : ∀ r ∈ rs, Rn.okR r = true) : ∀ p, Rn.badGo p rs = 0 := by
  induction rs with
  | nil => intro p; rfl
  | cons a rs ih =>
    intro p
    rw [Rn.badGo_yes p a rs (h a List.mem_cons_self)]
    exact ih (fun r hr => h r (List.mem_cons_of_mem _ hr)) (p + 1)
theorem end_none (r : RS) (h : r.e = 0) : endRd (r.put []) = r.put [] := by
  have h1 : takeS (r.put []) = (⟨#[]⟩, r.past) := by unfold takeS noS; rw [if_pos (by exact h)]; rfl
  have h2 : takeR (r.put []) = r.put [] := by unfold takeR; rw [if_pos (by exact h)]; rfl
  unfold endRd
  rw [h1, h2]
  unfold fitR
  rw [if_pos (by simp)]
/-- A text whose runes are a contract's is read as that contract. -/
theorem rdT_back (c : C) (hc : chkC c = 0) (hf : formC c = true) (hd : c.depth ≤ 12) (s : ByteArray) (hs : runesOf s = rnC c) (hz : s.size ≤ 1000) : rdT s = (c, 0, 0) := by
  have hb : Rn.badOf s = 0 := by unfold Rn.badOf; rw [hs]; exact bad_none _ (List.all_eq_true.1 (rnC_all c hf)) 0
  have hsg : Rn.sgOf s = sgC 0 c := by unfold Rn.sgOf; rw [hs]; exact cutC_all c hf
  have ho : openR s = (⟨[], ((runesOf s).length : Int) + 1, 0, 0⟩ : RS).put (sgC 0 c ++ []) := by
    unfold openR
    rw [if_neg (by omega), if_neg (by simpa using hb), hsg, List.append_nil]
    rfl
  have ht := term_back c hf 14 1 ⟨[], ((runesOf s).length : Int) + 1, 0, 0⟩ 0 [] rfl (by omega) rfl
  unfold rdT
  rw [ho, ht]
  simp only
  rw [end_none _ rfl]
  exact (if_pos rfl).trans (if_pos hc)
theorem rdO_back (c : O) (hc : chk c = 0) (hf : formB c = true) (hd : c.depth ≤ 12) (s : ByteArray) (hs : runesOf s = rnO c) (hz : s.size ≤ 1000) : rdO s = (c, 0, 0) := by
  have hb : Rn.badOf s = 0 := by unfold Rn.badOf; rw [hs]; exact bad_none _ (List.all_eq_true.1 (rnO_all c hf)) 0
  have hsg : Rn.sgOf s = sgO 0 c := by unfold Rn.sgOf; rw [hs]; exact cutO_all c hf
  have ho : openR s = (⟨[], ((runesOf s).length : Int) + 1, 0, 0⟩ : RS).put (sgO 0 c ++ []) := by
    unfold openR
    rw [if_neg (by omega), if_neg (by simpa using hb), hsg, List.append_nil]
    rfl
  have ht := obs_back c hf 14 1 ⟨[], ((runesOf s).length : Int) + 1, 0, 0⟩ 0 [] rfl (by omega) rfl
  unfold rdO
  rw [ho, ht]
  simp only
  rw [end_none _ rfl]
  exact (if_pos rfl).trans (if_pos hc)

end Go.Proofs.YtfmjjfpajohihaaGreatDoor
namespace Go.Proofs.YtfmjjfpajohihaaGreatDoor
open Go.RowKit
set_option linter.unusedVariables false
set_option linter.unusedSimpArgs false

def bz (rs : List Int) : Nat := (runesBytes rs).size
def bzO (x : O) : Nat := bz (rnO x)
def bzC (x : C) : Nat := bz (rnC x)
def lz (l : List Rn.Sg) : Nat := (l.map fun x => x.1.size).sum
theorem bz_app (a b : List Int) : bz (a ++ b) = bz a + bz b := by unfold bz; rw [Rn.runesBytes_append, ByteArray.size_append]
theorem bz_cons (a : Int) (b : List Int) : bz (a :: b) = (Utf8.encode a).size + bz b := by unfold bz; rw [Rn.runesBytes_cons, ByteArray.size_append]
theorem bz_nil : bz [] = 0 := by simp [bz, runesBytes]
theorem bz_44 (b : List Int) : bz (44 :: b) = 1 + bz b := by rw [bz_cons]; rfl
theorem bz_41 : bz [41] = 1 := by decide +kernel
theorem bz_name (s : ByteArray) (h : nameGo 0 (runesOf s) = true) : bz (runesOf s) = s.size := by unfold bz; rw [(name_join s h).2.2]
theorem bz_num (n : Int) : bz (rnN n) = (Lib.itoa n).length := by unfold bz; rw [(itoa_join n).2.2]; simp [numB, ByteArray.size]
theorem lz_app (a b : List Rn.Sg) : lz (a ++ b) = lz a + lz b := by simp [lz]
theorem lz_cons (a : Rn.Sg) (b : List Rn.Sg) : lz (a :: b) = a.1.size + lz b := by simp [lz]
theorem bz_l3_0 : bz [111, 114, 40] = 3 := by decide +kernel
theorem bz_l3_1 : bz [105, 102, 40] = 3 := by decide +kernel
theorem bz_l4_0 : bz [102, 105, 120, 40] = 4 := by decide +kernel
theorem bz_l4_1 : bz [110, 101, 103, 40] = 4 := by decide +kernel
theorem bz_l4_2 : bz [97, 100, 100, 40] = 4 := by decide +kernel
theorem bz_l4_3 : bz [109, 117, 108, 40] = 4 := by decide +kernel
theorem bz_l4_4 : bz [109, 97, 120, 40] = 4 := by decide +kernel
theorem bz_l4_5 : bz [111, 110, 101, 40] = 4 := by decide +kernel
theorem bz_l4_6 : bz [97, 110, 100, 40] = 4 := by decide +kernel
theorem bz_l5_0 : bz [103, 105, 118, 101, 40] = 5 := by decide +kernel
theorem bz_l5_1 : bz [119, 104, 101, 110, 40] = 5 := by decide +kernel
theorem bz_l6_0 : bz [115, 99, 97, 108, 101, 40] = 6 := by decide +kernel
theorem bzO_const (n : Int) : bzO (.const n) = (Lib.itoa n).length := bz_num n
theorem bzO_fix (s : ByteArray) (h : nameGo 0 (runesOf s) = true) : bzO (.fix s) = 5 + s.size := by
  unfold bzO; simp only [rnO, bz_app, bz_41, bz_name s h]; simp only [bz_l3_0, bz_l3_1, bz_l4_0, bz_l4_1, bz_l4_2, bz_l4_3, bz_l4_4, bz_l4_5, bz_l4_6, bz_l5_0, bz_l5_1, bz_l6_0]; omega
theorem bzO_neg (o : O) : bzO (.neg o) = 5 + bzO o := by
  unfold bzO; simp only [rnO, bz_app, bz_41]; simp only [bz_l3_0, bz_l3_1, bz_l4_0, bz_l4_1, bz_l4_2, bz_l4_3, bz_l4_4, bz_l4_5, bz_l4_6, bz_l5_0, bz_l5_1, bz_l6_0]; omega
theorem bzO_add (a b : O) : bzO (.add a b) = 6 + bzO a + bzO b := by
  unfold bzO; simp only [rnO, bz_app, bz_41, bz_44]; simp only [bz_l3_0, bz_l3_1, bz_l4_0, bz_l4_1, bz_l4_2, bz_l4_3, bz_l4_4, bz_l4_5, bz_l4_6, bz_l5_0, bz_l5_1, bz_l6_0]; omega
theorem bzO_mul (a b : O) : bzO (.mul a b) = 6 + bzO a + bzO b := by
  unfold bzO; simp only [rnO, bz_app, bz_41, bz_44]; simp only [bz_l3_0, bz_l3_1, bz_l4_0, bz_l4_1, bz_l4_2, bz_l4_3, bz_l4_4, bz_l4_5, bz_l4_6, bz_l5_0, bz_l5_1, bz_l6_0]; omega
theorem bzO_max (a b : O) : bzO (.max a b) = 6 + bzO a + bzO b := by
  unfold bzO; simp only [rnO, bz_app, bz_41, bz_44]; simp only [bz_l3_0, bz_l3_1, bz_l4_0, bz_l4_1, bz_l4_2, bz_l4_3, bz_l4_4, bz_l4_5, bz_l4_6, bz_l5_0, bz_l5_1, bz_l6_0]; omega
theorem bzC_zero : bzC .zero = 4 := by decide +kernel
theorem bzC_one (s : ByteArray) (h : nameGo 0 (runesOf s) = true) : bzC (.one s) = 5 + s.size := by
  unfold bzC; simp only [rnC, bz_app, bz_41, bz_name s h]; simp only [bz_l3_0, bz_l3_1, bz_l4_0, bz_l4_1, bz_l4_2, bz_l4_3, bz_l4_4, bz_l4_5, bz_l4_6, bz_l5_0, bz_l5_1, bz_l6_0]; omega
theorem bzC_give (c : C) : bzC (.give c) = 6 + bzC c := by
  unfold bzC; simp only [rnC, bz_app, bz_41]; simp only [bz_l3_0, bz_l3_1, bz_l4_0, bz_l4_1, bz_l4_2, bz_l4_3, bz_l4_4, bz_l4_5, bz_l4_6, bz_l5_0, bz_l5_1, bz_l6_0]; omega
theorem bzC_and (a b : C) : bzC (.and a b) = 6 + bzC a + bzC b := by
  unfold bzC; simp only [rnC, bz_app, bz_41, bz_44]; simp only [bz_l3_0, bz_l3_1, bz_l4_0, bz_l4_1, bz_l4_2, bz_l4_3, bz_l4_4, bz_l4_5, bz_l4_6, bz_l5_0, bz_l5_1, bz_l6_0]; omega
theorem bzC_or (s : ByteArray) (a b : C) (h : nameGo 0 (runesOf s) = true) : bzC (.or s a b) = 6 + s.size + bzC a + bzC b := by
  unfold bzC; simp only [rnC, bz_app, bz_41, bz_44, bz_name s h]; simp only [bz_l3_0, bz_l3_1, bz_l4_0, bz_l4_1, bz_l4_2, bz_l4_3, bz_l4_4, bz_l4_5, bz_l4_6, bz_l5_0, bz_l5_1, bz_l6_0]; omega
theorem bzC_scale (o : O) (c : C) : bzC (.scale o c) = 8 + bzO o + bzC c := by
  unfold bzC bzO; simp only [rnC, bz_app, bz_41, bz_44]; simp only [bz_l3_0, bz_l3_1, bz_l4_0, bz_l4_1, bz_l4_2, bz_l4_3, bz_l4_4, bz_l4_5, bz_l4_6, bz_l5_0, bz_l5_1, bz_l6_0]; omega
theorem bzC_when (n : Int) (c : C) : bzC (.when n c) = 7 + (Lib.itoa n).length + bzC c := by
  unfold bzC; simp only [rnC, bz_app, bz_41, bz_44, bz_num]; simp only [bz_l3_0, bz_l3_1, bz_l4_0, bz_l4_1, bz_l4_2, bz_l4_3, bz_l4_4, bz_l4_5, bz_l4_6, bz_l5_0, bz_l5_1, bz_l6_0]; omega
theorem bzC_if (o : O) (a b : C) : bzC (.iff o a b) = 6 + bzO o + bzC a + bzC b := by
  unfold bzC bzO; simp only [rnC, bz_app, bz_41, bz_44]; simp only [bz_l3_0, bz_l3_1, bz_l4_0, bz_l4_1, bz_l4_2, bz_l4_3, bz_l4_4, bz_l4_5, bz_l4_6, bz_l5_0, bz_l5_1, bz_l6_0]; omega
theorem nat_long (l : List UInt8) (h : (Rn.natOf l).2 = true) : 0 ≤ (Rn.natOf l).1 ∧ (Lib.decDigits (Rn.natOf l).1.toNat).length ≤ l.length := by
  unfold Rn.natOf at h ⊢
  split at h
  · cases h
  rename_i h1
  rw [if_neg h1]
  split at h
  · rename_i h2
    rw [if_pos h2]
    split at h
    · cases h
    rename_i h3
    rw [if_neg h3]
    have hb := Rn.valB_bd l h2
    refine ⟨hb.1, ?_⟩
    have hl : l ≠ [] := fun e => h1 (.inl e)
    obtain ⟨k, hk⟩ : ∃ k, l.length = k + 1 := ⟨l.length - 1, by have := List.length_pos_iff.2 hl; omega⟩
    rw [hk]
    refine dec_long k _ ?_
    have h4 := hb.2
    rw [hk] at h4
    have h5 : (((10 : Nat) ^ (k + 1) : Nat) : Int) = (10 : Int) ^ (k + 1) := by simp
    omega
  · cases h
theorem itoa_nat (n : Int) (h : 0 ≤ n) : (Lib.itoa n).length = (Lib.decDigits n.toNat).length := by unfold Lib.itoa; rw [if_neg (by omega)]
theorem itoa_num (l : List UInt8) (h : (Rn.numOf l).2 = true) : (Lib.itoa (Rn.numOf l).1).length ≤ l.length := by
  cases l with
  | nil => cases h
  | cons c t =>
    unfold Rn.numOf at h ⊢
    by_cases hc : c = 45
    · simp only [hc, if_true] at h ⊢
      split at h
      · rename_i h1
        rw [if_pos h1]
        have h2 := nat_long t h1.1
        unfold Lib.itoa
        rw [if_pos (by have := h1.2; simp only; omega)]
        simp only [List.length_cons]
        rw [show (-(Rn.natOf t).1).natAbs = (Rn.natOf t).1.toNat by omega]
        omega
      · cases h
    · simp only [if_neg hc] at h ⊢
      have h2 := nat_long _ h
      rw [itoa_nat _ h2.1]
      exact h2.2
theorem size_list (s : ByteArray) : s.data.toList.length = s.size := by simp
theorem take_by {r : RS} (h : r.e = 0) : (takeS r).1.size + lz (takeR r).left = lz r.left := by
  unfold takeS takeR noS
  rw [if_pos h, if_pos h]
  cases hl : r.left with
  | nil => rfl
  | cons a l => rw [lz_cons]; rfl
theorem mark_by {r : RS} {t : ByteArray} (h : (markR r t).e = 0) (ht : t.size = 1 := by rfl) : r.e = 0 ∧ 1 + lz (markR r t).left = lz r.left := by
  have h1 := fit_z h
  rw [takeR_e] at h1
  have h2 := fit_zok h
  have h3 := take_by h1
  rw [of_decide_eq_true h2, ht] at h3
  exact ⟨h1, by unfold markR; rw [fitR_left]; exact h3⟩
theorem name_by {r : RS} (h : (nameR r).e = 0) : r.e = 0 ∧ (takeS r).1.size + lz (nameR r).left = lz r.left ∧ nameGo 0 (runesOf (takeS r).1) = true := by
  have h1 := fit_z h
  rw [takeR_e] at h1
  exact ⟨h1, by unfold nameR; rw [fitR_left]; exact take_by h1, fit_zok h⟩
theorem day_by {r : RS} (h : (dayR r).e = 0) : r.e = 0 ∧ (takeS r).1.data.toList.length + lz (dayR r).left = lz r.left ∧ (Rn.numOf (takeS r).1.data.toList).2 = true := by
  have h1 := fit_z h
  rw [takeR_e] at h1
  have h2 := fit_zok h
  unfold dayOkR at h2
  rw [Bool.and_eq_true] at h2
  exact ⟨h1, by unfold dayR; rw [fitR_left, size_list]; exact take_by h1, h2.1⟩
theorem pairF_by (rec : RS → O × RS) (hr : ∀ q, (rec q).2.e = 0 → q.e = 0 ∧ bzO (rec q).1 + lz (rec q).2.left ≤ lz q.left) (r : RS) (h : (pairF rec r).2.2.e = 0) :
    r.e = 0 ∧ 3 + bzO (pairF rec r).1 + bzO (pairF rec r).2.1 + lz (pairF rec r).2.2.left ≤ lz r.left := by
  unfold pairF at h ⊢
  have h1 := mark_by h
  have h2 := hr _ h1.1
  have h3 := mark_by h2.1
  have h4 := hr _ h3.1
  have h5 := mark_by h4.1
  exact ⟨h5.1, by simp only; omega⟩
theorem obsR_by (f : Nat) : ∀ r d, d + f = 15 → (14 ≤ d → r.e ≠ 0) → (obsR f r d).2.e = 0 → r.e = 0 ∧ bzO (obsR f r d).1 + lz (obsR f r d).2.left ≤ lz r.left := by
  induction f with
  | zero => intro r d hd he h; exact absurd h (he (by omega))
  | succ f ih =>
    intro r d hd he h
    have hfirst : ∀ x : RS, x.e = 0 → (∀ q : RS, q.e ≠ 0 → True) → True := fun _ _ _ => trivial
    have hfe : (firstR r d).e = 0 := by
      by_cases h0 : (firstR r d).e = 0
      · exact h0
      · exfalso
        have ih' : ∀ q, q.e ≠ 0 → ((fun q => obsR f q (d + 1)) q).2.e ≠ 0 := fun q hq => obsR_e f q (d + 1) hq
        unfold obsR at h
        revert h
        repeat' split
        · exact markR_e _ _ (nameR_e _ (markR_e _ _ h0))
        · exact pairF_e _ ih' _ h0
        · exact markR_e _ _ (obsR_e _ _ _ (markR_e _ _ h0))
        · exact pairF_e _ ih' _ h0
        · exact pairF_e _ ih' _ h0
        · exact fitR_e _ _ _ h0
    obtain ⟨he0, hd12, hft⟩ := first_z hfe
    have hrec : ∀ q, ((fun q => obsR f q (d + 1)) q).2.e = 0 → q.e = 0 ∧ bzO ((fun q => obsR f q (d + 1)) q).1 + lz ((fun q => obsR f q (d + 1)) q).2.left ≤ lz q.left := fun q hq => ih q (d + 1) (by omega) (fun hx => absurd hx (by omega)) hq
    have hts : (takeS r).1.size + lz (firstR r d).left = lz r.left := by rw [hft]; exact take_by he0
    refine ⟨he0, ?_⟩
    unfold obsR at h ⊢
    by_cases k0 : (takeS r).1 = wFix
    · rw [if_pos k0] at h ⊢
      have h1 := mark_by h
      have h2 := name_by h1.1
      have h3 := mark_by h2.1
      have h4 : 3 + lz (firstR r d).left = lz r.left := by have := hts; rw [k0] at this; exact this
      simp only [bzO_fix _ h2.2.2]; omega
    rw [if_neg k0] at h ⊢
    by_cases k1 : (takeS r).1 = wAdd
    · rw [if_pos k1] at h ⊢
      have h1 := pairF_by _ hrec _ h
      have h4 : 3 + lz (firstR r d).left = lz r.left := by have := hts; rw [k1] at this; exact this
      simp only [bzO_add]; omega
    rw [if_neg k1] at h ⊢
    by_cases k2 : (takeS r).1 = wNeg
    · rw [if_pos k2] at h ⊢
      have h1 := mark_by h
      have h2 := hrec _ h1.1
      have h3 := mark_by h2.1
      have h4 : 3 + lz (firstR r d).left = lz r.left := by have := hts; rw [k2] at this; exact this
      simp only [bzO_neg] at h2 ⊢; omega
    rw [if_neg k2] at h ⊢
    by_cases k3 : (takeS r).1 = wMul
    · rw [if_pos k3] at h ⊢
      have h1 := pairF_by _ hrec _ h
      have h4 : 3 + lz (firstR r d).left = lz r.left := by have := hts; rw [k3] at this; exact this
      simp only [bzO_mul]; omega
    rw [if_neg k3] at h ⊢
    by_cases k4 : (takeS r).1 = wMax
    · rw [if_pos k4] at h ⊢
      have h1 := pairF_by _ hrec _ h
      have h4 : 3 + lz (firstR r d).left = lz r.left := by have := hts; rw [k4] at this; exact this
      simp only [bzO_max]; omega
    rw [if_neg k4] at h ⊢
    have h1 := fit_zok h
    have h5 := itoa_num _ h1
    rw [size_list] at h5
    simp only [bzO_const]
    rw [fitR_left]
    omega
theorem lastF_by (rec : RS → C × RS) (hr : ∀ q, (rec q).2.e = 0 → q.e = 0 ∧ bzC (rec q).1 + lz (rec q).2.left ≤ lz q.left) (r : RS) (h : (lastF rec r).2.e = 0) :
    r.e = 0 ∧ 1 + bzC (lastF rec r).1 + lz (lastF rec r).2.left ≤ lz r.left := by
  unfold lastF at h ⊢
  have h1 := mark_by h
  have h2 := hr _ h1.1
  exact ⟨h2.1, by simp only; omega⟩
theorem lastsF_by (rec : RS → C × RS) (hr : ∀ q, (rec q).2.e = 0 → q.e = 0 ∧ bzC (rec q).1 + lz (rec q).2.left ≤ lz q.left) (r : RS) (h : (lastsF rec r).2.2.e = 0) :
    r.e = 0 ∧ 2 + bzC (lastsF rec r).1 + bzC (lastsF rec r).2.1 + lz (lastsF rec r).2.2.left ≤ lz r.left := by
  unfold lastsF at h ⊢
  have h1 := lastF_by rec hr _ h
  have h2 := mark_by h1.1
  have h3 := hr _ h2.1
  exact ⟨h3.1, by simp only; omega⟩
theorem termR_by (f : Nat) : ∀ r d, d + f = 15 → (14 ≤ d → r.e ≠ 0) → (termR f r d).2.e = 0 → r.e = 0 ∧ bzC (termR f r d).1 + lz (termR f r d).2.left ≤ lz r.left := by
  induction f with
  | zero => intro r d hd he h; exact absurd h (he (by omega))
  | succ f ih =>
    intro r d hd he h
    have hfe : (firstR r d).e = 0 := by
      by_cases h0 : (firstR r d).e = 0
      · exact h0
      · exfalso
        have h1 := h0
        have ih' : ∀ q, q.e ≠ 0 → ((fun q => termR f q (d + 1)) q).2.e ≠ 0 := fun q hq => termR_e f q (d + 1) hq
        unfold termR at h
        revert h
        repeat' split
        · exact h1
        · exact markR_e _ _ (nameR_e _ (markR_e _ _ h1))
        · exact lastF_e _ ih' _ (markR_e _ _ h1)
        · exact lastsF_e _ ih' _ (markR_e _ _ h1)
        · exact lastsF_e _ ih' _ (markR_e _ _ (nameR_e _ (markR_e _ _ h1)))
        · exact lastF_e _ ih' _ (markR_e _ _ (obsR_e _ _ _ (markR_e _ _ h1)))
        · exact lastF_e _ ih' _ (markR_e _ _ (dayR_e _ (markR_e _ _ h1)))
        · exact lastsF_e _ ih' _ (markR_e _ _ (obsR_e _ _ _ (markR_e _ _ h1)))
        · exact fitR_e _ _ _ h1
    obtain ⟨he0, hd12, hft⟩ := first_z hfe
    have hrec : ∀ q, ((fun q => termR f q (d + 1)) q).2.e = 0 → q.e = 0 ∧ bzC ((fun q => termR f q (d + 1)) q).1 + lz ((fun q => termR f q (d + 1)) q).2.left ≤ lz q.left := fun q hq => ih q (d + 1) (by omega) (fun hx => absurd hx (by omega)) hq
    have hobs : ∀ q, (obsR f q (d + 1)).2.e = 0 → q.e = 0 ∧ bzO (obsR f q (d + 1)).1 + lz (obsR f q (d + 1)).2.left ≤ lz q.left := fun q hq => obsR_by f q (d + 1) (by omega) (fun hx => absurd hx (by omega)) hq
    have hts : (takeS r).1.size + lz (firstR r d).left = lz r.left := by rw [hft]; exact take_by he0
    refine ⟨he0, ?_⟩
    unfold termR at h ⊢
    by_cases k0 : (takeS r).1 = wZero
    · rw [if_pos k0] at h ⊢
      have h4 : 4 + lz (firstR r d).left = lz r.left := by have := hts; rw [k0] at this; exact this
      simp only [bzC_zero]; omega
    rw [if_neg k0] at h ⊢
    by_cases k1 : (takeS r).1 = wOne
    · rw [if_pos k1] at h ⊢
      have h1 := mark_by h
      have h2 := name_by h1.1
      have h3 := mark_by h2.1
      have h4 : 3 + lz (firstR r d).left = lz r.left := by have := hts; rw [k1] at this; exact this
      simp only [bzC_one _ h2.2.2]; omega
    rw [if_neg k1] at h ⊢
    by_cases k2 : (takeS r).1 = wGive
    · rw [if_pos k2] at h ⊢
      have h1 := lastF_by _ hrec _ h
      have h2 := mark_by h1.1
      have h4 : 4 + lz (firstR r d).left = lz r.left := by have := hts; rw [k2] at this; exact this
      simp only [bzC_give]; omega
    rw [if_neg k2] at h ⊢
    by_cases k3 : (takeS r).1 = wAnd
    · rw [if_pos k3] at h ⊢
      have h1 := lastsF_by _ hrec _ h
      have h2 := mark_by h1.1
      have h4 : 3 + lz (firstR r d).left = lz r.left := by have := hts; rw [k3] at this; exact this
      simp only [bzC_and]; omega
    rw [if_neg k3] at h ⊢
    by_cases k4 : (takeS r).1 = wOr
    · rw [if_pos k4] at h ⊢
      have h1 := lastsF_by _ hrec _ h
      have h2 := mark_by h1.1
      have h3 := name_by h2.1
      have h5 := mark_by h3.1
      have h4 : 2 + lz (firstR r d).left = lz r.left := by have := hts; rw [k4] at this; exact this
      simp only [bzC_or _ _ _ h3.2.2]; omega
    rw [if_neg k4] at h ⊢
    by_cases k5 : (takeS r).1 = wScale
    · rw [if_pos k5] at h ⊢
      have h1 := lastF_by _ hrec _ h
      have h2 := mark_by h1.1
      have h3 := hobs _ h2.1
      have h5 := mark_by h3.1
      have h4 : 5 + lz (firstR r d).left = lz r.left := by have := hts; rw [k5] at this; exact this
      simp only [bzC_scale]; omega
    rw [if_neg k5] at h ⊢
    by_cases k6 : (takeS r).1 = wWhen
    · rw [if_pos k6] at h ⊢
      have h1 := lastF_by _ hrec _ h
      have h2 := mark_by h1.1
      have h3 := day_by h2.1
      have h5 := mark_by h3.1
      have h4 : 4 + lz (firstR r d).left = lz r.left := by have := hts; rw [k6] at this; exact this
      have h6 := itoa_num _ h3.2.2
      simp only [bzC_when]; unfold dayV; omega
    rw [if_neg k6] at h ⊢
    by_cases k7 : (takeS r).1 = wIf
    · rw [if_pos k7] at h ⊢
      have h1 := lastsF_by _ hrec _ h
      have h2 := mark_by h1.1
      have h3 := hobs _ h2.1
      have h5 := mark_by h3.1
      have h4 : 2 + lz (firstR r d).left = lz r.left := by have := hts; rw [k7] at this; exact this
      simp only [bzC_if]; omega
    rw [if_neg k7] at h ⊢
    have h1 := fit_zok h
    cases h1
theorem lz_end (l : List Rn.Sg) (run : List Int) (e : Int) : lz (Rn.endR l run e) ≤ lz l + bz run := by
  unfold Rn.endR
  split
  · omega
  · rw [lz_app, lz_cons]; show lz l + ((runesBytes run).size + 0) ≤ _; unfold bz; omega
theorem cut_by (rs : List Int) : ∀ (l : List Rn.Sg) (run : List Int) (p : Nat), lz (Rn.cutGo l run p rs) ≤ lz l + bz run + bz rs := by
  induction rs with
  | nil => intro l run p; have := lz_end l run (p + 1 : Nat); show lz (Rn.endR l run (p + 1 : Nat)) ≤ _; omega
  | cons r rs ih =>
    intro l run p
    have he := lz_end l run (p + 1 : Nat)
    rw [bz_cons]
    unfold Rn.cutGo
    split
    · have := ih l (run ++ [r]) (p + 1); rw [bz_app, bz_cons, bz_nil] at this; omega
    · split
      · have := ih (Rn.endR l run (p + 1 : Nat) ++ [(Utf8.encode r, ((p + 1 : Nat) : Int))]) [] (p + 1)
        rw [lz_app, lz_cons, bz_nil] at this
        have hz : lz ([] : List Rn.Sg) = 0 := rfl
        simp only at this
        omega
      · have := ih (Rn.endR l run (p + 1 : Nat)) [] (p + 1); rw [bz_nil] at this; omega
theorem bad_all (rs : List Int) : ∀ p, Rn.badGo p rs = 0 → ∀ r ∈ rs, Rn.okR r = true := by
  induction rs with
  | nil => intro p _ r hr; cases hr
  | cons a rs ih =>
    intro p h r hr
    unfold Rn.badGo at h
    split at h
    · rename_i ha
      rcases List.mem_cons.1 hr with rfl | hr
      · exact ha
      · exact ih _ h r hr
    · cases h
theorem ok_ne (r : Int) (h : Rn.okR r = true) : r ≠ 65533 := by
  intro e
  subst e
  exact absurd h (by decide)
theorem open_by (s : ByteArray) (h : (openR s).e = 0) : lz (openR s).left ≤ s.size ∧ s.size ≤ 1000 := by
  unfold openR at h ⊢
  split at h
  · cases h
  rename_i h1
  rw [if_neg h1]
  split at h
  · cases h
  rename_i h2
  rw [if_neg h2]
  have hb : Rn.badOf s = 0 := Classical.not_not.1 h2
  have h3 := cut_by (runesOf s) [] [] 0
  have h4 := round_at s s.size 0 (by omega) (fun r hr => ok_ne r (bad_all _ 0 hb r hr))
  have h5 : bz (runesOf s) = s.size := by
    have := congrArg List.length h4
    rw [List.drop_zero, size_list, size_list] at this
    exact this
  rw [bz_nil, h5] at h3
  have hz : lz ([] : List Rn.Sg) = 0 := rfl
  refine ⟨?_, by omega⟩
  show lz (Rn.cutGo [] [] 0 (runesOf s)) ≤ _
  omega
/-- What read.Term reads has a text no longer than what was read. -/
theorem rdT_by (s : ByteArray) (h : (rdT s).2.2 = 0) : chkC (rdT s).1 = 0 ∧ bzC (rdT s).1 ≤ s.size ∧ s.size ≤ 1000 := by
  unfold rdT at h ⊢
  split at h
  · rename_i h1
    rw [if_pos h1]
    split at h
    · rename_i h2
      rw [if_pos h2]
      have h3 := termR_by 14 (openR s) 1 rfl (fun hx => absurd hx (by omega)) (end_z h1)
      have h4 := open_by s h3.1
      exact ⟨h2, by simp only; omega, h4.2⟩
    · rename_i h2; exact absurd h h2
  · rename_i h1; exact absurd h h1

end Go.Proofs.YtfmjjfpajohihaaGreatDoor
namespace Go.Proofs.YtfmjjfpajohihaaGreatDoor
open Go.RowKit
set_option linter.unusedVariables false

theorem hidIn' {p : Prop} (h : p) : Hid p := h
/-- A word, and its parts. -/
def joinT (word : ByteArray) (xs : List ByteArray) : ByteArray := word ++ ⟨#[40]⟩ ++ ⟨(Lib.join (xs.map (·.data.toList)) [44]).toArray⟩ ++ ⟨#[41]⟩

set_option maxHeartbeats 1000000 in
set_option maxRecDepth 100000 in
theorem join_any (word : ByteArray) (bk c : Nat) (xs : List ByteArray) (w : World) (hcells : ∀ (j : Nat) x, xs[j]? = some x → w.cell? ⟨bk, j, none⟩ = some (.string x)) (hbk : bk < w.heap.size) (hcap : xs.length ≤ c) (hN : xs.length ≤ 10) (hw : word.size ≤ 10) (hlen : (Lib.join (xs.map (·.data.toList)) [44]).length ≤ 70368744177664) :
    Calls Tryz.prog 49 #[.string word, .slice (some ⟨bk, 0, none⟩) xs.length c] w fun e w' => e = .returned (.string (joinT word xs)) ∧ Below w.heap.size w w' := by
  have HJ : Hid (joinT word xs = word ++ ⟨#[40]⟩ ++ ⟨(Lib.join (xs.map (·.data.toList)) [44]).toArray⟩ ++ ⟨#[41]⟩) := rfl
  have HC : Hid (Calls Tryz.prog 74 #[.slice (some ⟨bk, 0, none⟩) xs.length c, .string ⟨#[44]⟩] w fun e w' => e = .returned (.string ⟨(Lib.join (xs.map (·.data.toList)) [44]).toArray⟩) ∧ Below w.heap.size w w') :=
    Tryz.strings_Join bk 0 c xs ⟨#[44]⟩ w (fun j x hj => by rw [Nat.zero_add]; exact hcells j x hj) hbk (by omega) hcap (by show (Lib.join _ [44]).length ≤ _; omega)
  have hl2 : (Lib.join (xs.map (·.data.toList)) [44]).toArray.size ≤ 70368744177664 := by simpa using hlen
  clear hcells
  generalize Lib.join (xs.map (·.data.toList)) [44] = L at *
  go_enter Tryz.func49, Tryz.ntmps49
  go_wp2_with fail
  refine HC.out.mono ?_
  rintro e w1 ⟨rfl, hb1⟩
  have HB1 := hidIn' hb1
  clear hb1
  have hs : (word ++ (⟨#[40]⟩ : ByteArray)).size = word.size + 1 := by rw [ByteArray.size_append]; rfl
  have hs2 : (⟨L.toArray⟩ : ByteArray).size ≤ 70368744177664 := hl2
  go_wp2_with fail
  go_ret
  exact ⟨by rw [HJ.out]; rfl, HB1.out⟩

end Go.Proofs.YtfmjjfpajohihaaGreatDoor
namespace Go.Proofs.YtfmjjfpajohihaaGreatDoor
open Go.RowKit
set_option linter.unusedVariables false

theorem below_growing (w : World) (k : Nat) (os : Array Obj) : Below w.heap.size w (Go.Sort.grow (w.drewN k) os) :=
  ⟨rfl, rfl, rfl, by show w.heap.size ≤ (w.heap ++ os).size; simp, fun i hi => by show (w.heap ++ os)[i]? = _; rw [Array.getElem?_append_left hi]⟩
/-- The text of a number that is none of the others. -/
def numT (n : Int) : ByteArray := ⟨(Lib.itoa n).toArray⟩
/-- The tables that strconv reads are as they were laid. -/
def TabW (w : World) : Prop := Lib.TabIs Tryz.prog w "internal/strconv.uint64pow10" .u64 Lib.pow10Tab
theorem itoa_any (n : Int) (h0 : -9223372036854775808 ≤ n) (h1 : n ≤ 9223372036854775807) (w : World) (h : TabW w) : Calls Tryz.prog 50 #[.int .i64 n] w fun e w' => e = .returned (.string (numT n)) ∧ Below w.heap.size w w' :=
  (Tryz.strconv_Itoa n h0 h1 w h).mono fun e w' ⟨he, k, os, hw⟩ => ⟨he, by rw [hw]; exact below_growing w k os⟩
theorem numT_size (n : Int) (h0 : -9223372036854775808 ≤ n) (h1 : n ≤ 9223372036854775807) : (numT n).size ≤ 21 := by
  have := Lib.itoa_length_le n h0 h1
  show (Lib.itoa n).toArray.size ≤ 21
  simpa using this
def textO : O → ByteArray
  | .const n => numT n
  | .fix s => joinT ⟨#[102, 105, 120]⟩ [s]
  | .add l r => joinT ⟨#[97, 100, 100]⟩ [textO l, textO r]
  | .neg o => joinT ⟨#[110, 101, 103]⟩ [textO o]
  | .mul l r => joinT ⟨#[109, 117, 108]⟩ [textO l, textO r]
  | .max l r => joinT ⟨#[109, 97, 120]⟩ [textO l, textO r]
  | .odd _ => ⟨#[]⟩
/-- An assertion with one value. -/
theorem assert_one {P : Program} {t : TypeId} {u : TypeDesc} (hu : P.underlying t = some u) (hn : ∀ m, u ≠ .interface m) (v : Value) (xT : TypeId) (w : World) :
    (Instr.typeAssert (.iface t v) xT t false).run P w = .ok v w := by
  cases u <;> first | (exfalso; exact hn _ rfl) | simp [Instr.typeAssert, run_underlying hu]

end Go.Proofs.YtfmjjfpajohihaaGreatDoor
