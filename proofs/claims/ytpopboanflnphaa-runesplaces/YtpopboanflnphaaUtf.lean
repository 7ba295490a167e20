/- Plain mathematics: a rune written as bytes is read as that rune, whatever stands ahead of it or behind. -/
import Derived.Test.YtpopboanflnphaaPlain
namespace Go.Proofs.Ytpopboanflnphaa
open Go.RowKit
set_option linter.unusedVariables false

theorem get_mk (l : List UInt8) (k : Nat) : (ByteArray.mk l.toArray).get! k = l.getD k 0 := by
  simp [ByteArray.get!, getElem!_def, List.getD]
  rfl
theorem mk_toList (s : ByteArray) : s = ByteArray.mk s.data.toList.toArray := by simp
theorem append_mk (l : List UInt8) (t : ByteArray) : ByteArray.mk l.toArray ++ t = ByteArray.mk (l ++ t.data.toList).toArray := by
  conv => lhs; rw [mk_toList t]
  rw [ByteArray.mk_append_mk]

theorem size_mk (l : List UInt8) : (ByteArray.mk l.toArray).size = l.length := by
  show l.toArray.size = l.length
  simp

theorem get_append (a t : ByteArray) (j : Nat) : (a ++ t).get! (a.size + j) = t.get! j := by
  have h1 : a ++ t = ByteArray.mk (a.data.toList ++ t.data.toList).toArray := by
    conv => lhs; rw [mk_toList a]
    rw [append_mk]
  have h2 : t = ByteArray.mk t.data.toList.toArray := mk_toList t
  rw [h1, get_mk]
  conv => rhs; rw [h2, get_mk]
  have hs : a.size = a.data.toList.length := by simp
  rw [hs]
  simp [List.getD, List.getElem?_append_right]

theorem decode_append (a t : ByteArray) (i : Nat) : Utf8.decode (a ++ t) (a.size + i) = Utf8.decode t i := by
  have hs : ∀ k, (a.size + i + k < (a ++ t).size) = (i + k < t.size) := by
    intro k; rw [ByteArray.size_append]; apply propext; omega
  simp only [Utf8.decode, Nat.add_assoc, get_append]
  simp only [← Nat.add_assoc, hs]

theorem rest_append (a t : ByteArray) (i : Nat) : rest (a ++ t) (a.size + i) = rest t i := by
  have key : ∀ f i, decs (a ++ t) f (a.size + i) = decs t f i := by
    intro f
    induction f with
    | zero => intro i; rfl
    | succ f ih =>
      intro i
      simp only [decs, decode_append]
      rw [Nat.add_assoc, ih]
      by_cases h : i < t.size
      · rw [if_pos h, if_pos (by rw [ByteArray.size_append]; omega)]
      · rw [if_neg h, if_neg (by rw [ByteArray.size_append]; omega)]
  unfold rest
  rw [key, ByteArray.size_append, show a.size + t.size - (a.size + i) = t.size - i by omega]

theorem decode_encode (r : Int) (t : ByteArray) (hv : Utf8.valid r = true) : Utf8.decode (Utf8.encode r ++ t) 0 = (r.toNat, (Utf8.encode r).size) := by
  have hb : (0 ≤ r ∧ r < 55296) ∨ (57344 ≤ r ∧ r ≤ 1114111) := by
    simpa [Utf8.valid] using hv
  have hc : ∀ n : Nat, n < 256 → (UInt8.ofNat n).toNat = n := by intro n h; simp; omega
  unfold Utf8.encode
  simp only [hv, if_true]
  by_cases h1 : r.toNat < 128
  · simp only [h1, if_true]
    rw [show (#[UInt8.ofNat r.toNat] : Array UInt8) = [UInt8.ofNat r.toNat].toArray from rfl, append_mk]
    simp only [Utf8.decode, get_mk]
    simp only [Nat.add_zero, List.cons_append, List.getD_cons_zero]
    rw [hc _ (by omega), if_pos h1]
    rfl
  simp only [h1, if_false]
  by_cases h2 : r.toNat < 2048
  · simp only [h2, if_true]
    rw [show (#[UInt8.ofNat (192 + r.toNat / 64), UInt8.ofNat (128 + r.toNat % 64)] : Array UInt8) = [UInt8.ofNat (192 + r.toNat / 64), UInt8.ofNat (128 + r.toNat % 64)].toArray from rfl, append_mk]
    simp only [Utf8.decode, get_mk]
    simp only [Nat.add_zero, List.cons_append, List.getD_cons_zero, Nat.zero_add, List.getD_cons_succ, List.nil_append]
    rw [hc _ (by omega), hc _ (by omega)]
    rw [if_neg (by omega)]
    rw [if_pos (by simp [size_mk]; omega)]
    rw [if_pos (by omega)]
    refine Prod.ext ?_ rfl
    show (192 + r.toNat / 64) % 32 * 64 + (128 + r.toNat % 64) % 64 = r.toNat
    omega
  simp only [h2, if_false]
  by_cases h3 : r.toNat < 65536
  · simp only [h3, if_true]
    rw [show (#[UInt8.ofNat (224 + r.toNat / 4096), UInt8.ofNat (128 + r.toNat / 64 % 64), UInt8.ofNat (128 + r.toNat % 64)] : Array UInt8) = [UInt8.ofNat (224 + r.toNat / 4096), UInt8.ofNat (128 + r.toNat / 64 % 64), UInt8.ofNat (128 + r.toNat % 64)].toArray from rfl, append_mk]
    simp only [Utf8.decode, get_mk]
    simp only [Nat.add_zero, List.cons_append, List.getD_cons_zero, Nat.zero_add, List.getD_cons_succ, List.nil_append]
    rw [hc _ (by omega), hc _ (by omega), hc _ (by omega)]
    have hval : (224 + r.toNat / 4096) % 16 * 4096 + (128 + r.toNat / 64 % 64) % 64 * 64 + (128 + r.toNat % 64) % 64 = r.toNat := by omega
    rw [hval]
    rw [if_neg (by omega)]
    rw [if_neg (by simp; omega)]
    rw [if_pos (by simp [size_mk]; omega)]
    rw [if_pos (by rw [Int.toNat_of_nonneg (by omega), hv]; simp; omega)]
    rfl
  · simp only [h3, if_false]
    rw [show (#[UInt8.ofNat (240 + r.toNat / 262144), UInt8.ofNat (128 + r.toNat / 4096 % 64), UInt8.ofNat (128 + r.toNat / 64 % 64), UInt8.ofNat (128 + r.toNat % 64)] : Array UInt8) = [UInt8.ofNat (240 + r.toNat / 262144), UInt8.ofNat (128 + r.toNat / 4096 % 64), UInt8.ofNat (128 + r.toNat / 64 % 64), UInt8.ofNat (128 + r.toNat % 64)].toArray from rfl, append_mk]
    simp only [Utf8.decode, get_mk]
    simp only [Nat.add_zero, List.cons_append, List.getD_cons_zero, Nat.zero_add, List.getD_cons_succ, List.nil_append]
    rw [hc _ (by omega), hc _ (by omega), hc _ (by omega), hc _ (by omega)]
    have hval : (240 + r.toNat / 262144) % 8 * 262144 + (128 + r.toNat / 4096 % 64) % 64 * 4096 + (128 + r.toNat / 64 % 64) % 64 * 64 + (128 + r.toNat % 64) % 64 = r.toNat := by omega
    rw [hval]
    rw [if_neg (by omega)]
    rw [if_neg (by simp; omega)]
    rw [if_neg (by simp; omega)]
    rw [if_pos (by simp [size_mk]; omega)]
    rw [if_pos (by rw [Int.toNat_of_nonneg (by omega), hv]; simp; omega)]
    rfl

theorem encode_size (r : Int) : 1 ≤ (Utf8.encode r).size ∧ (Utf8.encode r).size ≤ 4 := by
  unfold Utf8.encode
  generalize (if Utf8.valid r = true then r.toNat else Utf8.runeError) = c
  simp only []
  repeat' split
  all_goals exact ⟨Nat.le_of_ble_eq_true rfl, Nat.le_of_ble_eq_true rfl⟩

theorem runesOf_encode (r : Int) (t : ByteArray) (hv : Utf8.valid r = true) : runesOf (Utf8.encode r ++ t) = r :: runesOf t := by
  have hsz := encode_size r
  have h0 : (0 : Int) ≤ r := by
    have : (0 ≤ r ∧ r < 55296) ∨ (57344 ≤ r ∧ r ≤ 1114111) := by simpa [Utf8.valid] using hv
    omega
  unfold runesOf
  rw [rest_step _ 0 (by rw [ByteArray.size_append]; omega), decode_encode r t hv]
  simp only [Nat.zero_add]
  rw [show (Utf8.encode r).size = (Utf8.encode r).size + 0 from rfl, rest_append, Int.toNat_of_nonneg h0]

theorem runesBytes_cons (r : Int) (rs : List Int) : runesBytes (r :: rs) = Utf8.encode r ++ runesBytes rs := by
  have key : ∀ (l : List Int) (a : ByteArray), l.foldl (fun r n => r ++ Utf8.encode n) a = a ++ l.foldl (fun r n => r ++ Utf8.encode n) ByteArray.empty := by
    intro l
    induction l with
    | nil => intro a; simp
    | cons b l ih =>
      intro a
      simp only [List.foldl_cons]
      rw [ih, ih (ByteArray.empty ++ Utf8.encode b)]
      simp [ByteArray.append_assoc]
  unfold runesBytes
  rw [List.foldl_cons, key]
  simp
theorem runesBytes_append (a b : List Int) : runesBytes (a ++ b) = runesBytes a ++ runesBytes b := by
  induction a with
  | nil => simp [runesBytes]
  | cons r a ih => rw [List.cons_append, runesBytes_cons, runesBytes_cons, ih, ByteArray.append_assoc]
theorem runesBytes_one (r : Int) : runesBytes [r] = Utf8.encode r := by simp [runesBytes]

theorem runesOf_bytes (rs : List Int) (t : ByteArray) (hv : ∀ r ∈ rs, Utf8.valid r = true) : runesOf (runesBytes rs ++ t) = rs ++ runesOf t := by
  induction rs with
  | nil => simp [runesBytes]
  | cons r rs ih =>
    rw [runesBytes_cons, ByteArray.append_assoc, runesOf_encode r _ (hv r (by simp)), ih (fun x hx => hv x (by simp [hx]))]
    rfl
theorem runesOf_all (rs : List Int) (hv : ∀ r ∈ rs, Utf8.valid r = true) : runesOf (runesBytes rs) = rs := by
  have := runesOf_bytes rs ByteArray.empty hv
  simpa [runesOf, rest, decs] using this

def okPair (x : Nat × Nat) : Prop := Utf8.valid (x.1 : Int) = true
theorem okPair_ite {c : Prop} [Decidable c] {a b : Nat × Nat} (h1 : c → okPair a) (h2 : ¬ c → okPair b) : okPair (if c then a else b) := by
  by_cases h : c
  · rw [if_pos h]; exact h1 h
  · rw [if_neg h]; exact h2 h
theorem okPair_err (n : Nat) : okPair (Utf8.runeError, n) := by
  show Utf8.valid ((Utf8.runeError : Nat) : Int) = true
  decide
theorem okPair_small (n m : Nat) (h : n < 55296) : okPair (n, m) := by
  show Utf8.valid (n : Int) = true
  simp only [Utf8.valid, Bool.or_eq_true, Bool.and_eq_true, decide_eq_true_eq]
  left; omega
theorem okPair_valid (n m : Nat) (k : Nat) (h : (decide (n ≥ k) && Utf8.valid (n : Int)) = true) : okPair (n, m) := by
  rw [Bool.and_eq_true] at h; exact h.2
theorem decode_valid (s : ByteArray) (pos : Nat) : Utf8.valid ((Utf8.decode s pos).1 : Int) = true := by
  show okPair (Utf8.decode s pos)
  unfold Utf8.decode
  refine okPair_ite (fun h => okPair_small _ _ (by omega)) (fun _ => ?_)
  refine okPair_ite (fun _ => okPair_ite (fun _ => okPair_small _ _ ?_) (fun _ => okPair_err _)) (fun _ => ?_)
  · have h1 := Nat.mod_lt (s.get! (pos + 0)).toNat (show 32 > 0 by decide)
    have h2 := Nat.mod_lt (s.get! (pos + 1)).toNat (show 64 > 0 by decide)
    omega
  refine okPair_ite (fun _ => okPair_ite (fun h => okPair_valid _ _ _ h) (fun _ => okPair_err _)) (fun _ => ?_)
  exact okPair_ite (fun _ => okPair_ite (fun h => okPair_valid _ _ _ h) (fun _ => okPair_err _)) (fun _ => okPair_err _)

theorem rest_valid (s : ByteArray) (pos : Nat) : ∀ r ∈ rest s pos, Utf8.valid r = true := by
  have key : ∀ f p, ∀ r ∈ decs s f p, Utf8.valid r = true := by
    intro f
    induction f with
    | zero => intro p r hr; simp [decs] at hr
    | succ f ih =>
      intro p r hr
      unfold decs at hr
      split at hr
      · rcases List.mem_cons.1 hr with rfl | h
        · exact decode_valid s p
        · exact ih _ r h
      · simp at hr
  exact key _ _

end Go.Proofs.Ytpopboanflnphaa
