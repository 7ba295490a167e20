/- The walk of the statement RunesNumbers. -/
import Derived.Test.YtpopboanflnphaaDigits
namespace Go.Proofs.Ytpopboanflnphaa
open Go.RowKit
set_option linter.unusedVariables false

theorem head_app {a : List UInt8} (h : a ≠ []) (b : List UInt8) : (a ++ b).head? = a.head? := by
  cases a with
  | nil => exact absurd rfl h
  | cons x t => rfl
theorem isDig_of (d : Nat) (h : d < 10) : isDig (UInt8.ofNat (48 + d)) = true := by
  have : (UInt8.ofNat (48 + d)).toNat = 48 + d := by rw [UInt8.toNat_ofNat']; omega
  unfold isDig digB
  rw [this, Bool.and_eq_true, decide_eq_true_eq, decide_eq_true_eq]
  omega
theorem digVal (d : Nat) (h : d < 10) : ((UInt8.ofNat (48 + d)).toNat : Int) - 48 = d := by
  have : (UInt8.ofNat (48 + d)).toNat = 48 + d := by rw [UInt8.toNat_ofNat']; omega
  rw [this]; omega

theorem digN_spec (f : Nat) : ∀ n, n < 10 ^ (f + 1) → (digN f n).all isDig = true ∧ valB (digN f n) = n ∧ digN f n ≠ [] ∧ ((digN f n).head? = some 48 → n = 0) ∧ (n < 10 → (digN f n).length = 1) := by
  induction f with
  | zero =>
    intro n hn
    have hn' : n < 10 := by simpa using hn
    simp only [digN, Nat.mod_eq_of_lt hn']
    refine ⟨by rw [List.all_cons, isDig_of n hn']; rfl, ?_, by simp, ?_, fun _ => rfl⟩
    · simp only [valB, List.foldl_cons, List.foldl_nil]
      rw [digVal n hn']; omega
    · intro h
      simp only [List.head?_cons, Option.some.injEq] at h
      have := congrArg UInt8.toNat h
      rw [UInt8.toNat_ofNat'] at this
      have e : (48 : UInt8).toNat = 48 := rfl
      rw [e] at this
      omega
  | succ f ih =>
    intro n hn
    by_cases h10 : n < 10
    · simp only [digN, h10, if_true]
      refine ⟨by rw [List.all_cons, isDig_of n h10]; rfl, ?_, by simp, ?_, fun _ => rfl⟩
      · simp only [valB, List.foldl_cons, List.foldl_nil]
        rw [digVal n h10]; omega
      · intro h
        simp only [List.head?_cons, Option.some.injEq] at h
        have := congrArg UInt8.toNat h
        rw [UInt8.toNat_ofNat'] at this
        have e : (48 : UInt8).toNat = 48 := rfl
        rw [e] at this
        omega
    · obtain ⟨i1, i2, i3, i4, i5⟩ := ih (n / 10) (Nat.div_lt_of_lt_mul (by rw [Nat.mul_comm, ← Nat.pow_succ]; exact hn))
      have hd : digN (f + 1) n = digN f (n / 10) ++ [UInt8.ofNat (48 + n % 10)] := by simp only [digN, h10, if_false]
      rw [hd]
      refine ⟨?_, ?_, by simp, ?_, fun h => absurd h h10⟩
      · rw [List.all_append, i1, List.all_cons, isDig_of (n % 10) (by omega)]; rfl
      · rw [valB_snoc, i2, digVal (n % 10) (by omega)]; omega
      · intro h
        rw [head_app i3 _] at h
        have := i4 h
        omega

/-- What is said of a number's digits. -/
structure IsNum (D : List UInt8) (n : Nat) : Prop where
  dig : D.all isDig = true
  val : valB D = n
  ne : D ≠ []
  head : 1 < D.length → D.head? ≠ some 48
  len : D.length ≤ 13
  big : n ≤ 1000000000000

theorem isNum_digN (n : Nat) (h : n ≤ 1000000000000) : IsNum (digN 12 n) n := by
  have hp : n < 10 ^ (12 + 1) := by
    have : (10 : Nat) ^ (12 + 1) = 10000000000000 := by decide
    omega
  obtain ⟨h1, h2, h3, h4, h5⟩ := digN_spec 12 n hp
  refine ⟨h1, h2, h3, ?_, digN_len 12 n, h⟩
  intro hl hh
  have h0 := h4 hh
  have := h5 (by omega)
  omega

theorem natOf_num {D : List UInt8} {n : Nat} (h : IsNum D n) : natOf D = ((n : Int), true) := by
  rw [natOf_dig D (by
    rintro (h1 | h1 | h1)
    · exact h.ne h1
    · have := h.len; omega
    · exact h.head h1.1 h1.2) h.dig, h.val, if_neg (by have := h.big; omega)]

theorem dig_ne {D : List UInt8} (h : D.all isDig = true) (c : UInt8) (hc : isDig c = false) : D.head? ≠ some c := by
  intro e
  cases D with
  | nil => simp at e
  | cons a t =>
    simp at e
    subst e
    simp [hc] at h

theorem numOf_num {D : List UInt8} {n : Nat} (h : IsNum D n) : numOf D = ((n : Int), true) := by
  rw [numOf_pos D (dig_ne h.dig 45 (by decide)), natOf_num h]
theorem numOf_minus {D : List UInt8} {n : Nat} (h : IsNum D n) : numOf (45 :: D) = (-(n : Int), decide (n ≠ 0)) := by
  rw [numOf_neg, natOf_num h]
  by_cases h0 : n = 0
  · subst h0; simp
  · have : (n : Int) ≠ 0 := by omega
    simp [h0]

theorem num_none_head (c : UInt8) (D : List UInt8) (h1 : c ≠ 45) (h2 : isDig c = false) : numOf (c :: D) = (0, false) := by
  rw [numOf_pos _ (by simpa using h1), natOf_nodig _ (by simp [h2])]
theorem num_none_zero (D : List UInt8) (h : D ≠ []) : numOf (48 :: D) = (0, false) := by
  rw [numOf_pos _ (by simp), natOf_short _ (.inr (.inr ⟨by simp; exact List.length_pos_iff.2 h, rfl⟩))]
theorem num_none_two (D : List UInt8) : numOf (45 :: 45 :: D) = (0, false) := by
  rw [numOf_neg, natOf_nodig _ (by simp [show isDig 45 = false from by decide])]
  simp
theorem num_none_last {D : List UInt8} {n : Nat} (h : IsNum D n) (c : UInt8) (hc : isDig c = false) : numOf (D ++ [c]) = (0, false) := by
  rw [numOf_pos _ (by rw [head_app h.ne _]; exact dig_ne h.dig 45 (by decide)), natOf_nodig _ (by simp [hc])]

/-- The texts that are no numbers. -/
def nones (D : List UInt8) : List ByteArray :=
  [⟨#[]⟩, ⟨#[45]⟩, ⟨#[43]⟩ ++ ⟨D.toArray⟩, ⟨#[48]⟩ ++ ⟨D.toArray⟩, ⟨#[45, 45]⟩ ++ ⟨D.toArray⟩, ⟨D.toArray⟩ ++ ⟨#[32]⟩, ⟨#[32]⟩ ++ ⟨D.toArray⟩, ⟨D.toArray⟩ ++ ⟨#[120]⟩,
    ⟨#[49, 48, 48, 48, 48, 48, 48, 48, 48, 48, 48, 48, 49]⟩, ⟨#[45, 49, 48, 48, 48, 48, 48, 48, 48, 48, 48, 48, 48, 49]⟩, ⟨#[57, 57, 57, 57, 57, 57, 57, 57, 57, 57, 57, 57, 57]⟩, ⟨#[49, 48, 48, 48, 48, 48, 48, 48, 48, 48, 48, 48, 48, 48]⟩, ⟨#[45, 48]⟩]

theorem ahead_mk (l D : List UInt8) : (⟨l.toArray⟩ ++ ⟨D.toArray⟩ : ByteArray).data.toList = l ++ D := by rw [ByteArray.mk_append_mk]

theorem nones_none {D : List UInt8} {n : Nat} (h : IsNum D n) : ∀ x ∈ nones D, numOf x.data.toList = (0, false) ∧ x.size ≤ maxLen := by
  have hl := h.len
  have sz : ∀ l : List UInt8, l.length ≤ 20 → (⟨l.toArray⟩ : ByteArray).size ≤ maxLen := by
    intro l hl
    show l.toArray.size ≤ maxLen
    unfold maxLen; simp; omega
  have sz2 : ∀ l m : List UInt8, l.length + m.length ≤ 20 → (⟨l.toArray⟩ ++ ⟨m.toArray⟩ : ByteArray).size ≤ maxLen := by
    intro l m hl
    rw [ByteArray.mk_append_mk]
    exact sz _ (by simpa using hl)
  intro x hx
  simp only [nones, List.mem_cons, List.not_mem_nil, or_false] at hx
  rcases hx with rfl | rfl | rfl | rfl | rfl | rfl | rfl | rfl | rfl | rfl | rfl | rfl | rfl
  · exact ⟨by decide +kernel, sz [] (by simp)⟩
  · exact ⟨by decide +kernel, sz [45] (by simp)⟩
  · exact ⟨by rw [ahead_mk [43] D]; exact num_none_head 43 D (by decide) (by decide), sz2 [43] D (by simp; omega)⟩
  · exact ⟨by rw [ahead_mk [48] D]; exact num_none_zero D h.ne, sz2 [48] D (by simp; omega)⟩
  · exact ⟨by rw [ahead_mk [45, 45] D]; exact num_none_two D, sz2 [45, 45] D (by simp; omega)⟩
  · exact ⟨by rw [ahead_mk D [32]]; exact num_none_last h 32 (by decide), sz2 D [32] (by simp; omega)⟩
  · exact ⟨by rw [ahead_mk [32] D]; exact num_none_head 32 D (by decide) (by decide), sz2 [32] D (by simp; omega)⟩
  · exact ⟨by rw [ahead_mk D [120]]; exact num_none_last h 120 (by decide), sz2 D [120] (by simp; omega)⟩
  · exact ⟨by decide +kernel, sz [49, 48, 48, 48, 48, 48, 48, 48, 48, 48, 48, 48, 49] (by simp)⟩
  · exact ⟨by decide +kernel, sz [45, 49, 48, 48, 48, 48, 48, 48, 48, 48, 48, 48, 48, 49] (by simp)⟩
  · exact ⟨by decide +kernel, sz [57, 57, 57, 57, 57, 57, 57, 57, 57, 57, 57, 57, 57] (by simp)⟩
  · exact ⟨by decide +kernel, sz [49, 48, 48, 48, 48, 48, 48, 48, 48, 48, 48, 48, 48, 48] (by simp)⟩
  · exact ⟨by decide +kernel, sz [45, 48] (by simp)⟩

set_option maxHeartbeats 1000000 in
set_option maxRecDepth 100000 in
theorem numbers_walk (a : Int) (w : World) (h1 : -9223372036854775808 ≤ a) (h2 : a ≤ 9223372036854775807) :
    Calls Try.prog 7 #[.int .i64 a] w fun e w' => e = .returned (.bool true) ∧ Below w.heap.size w w' := by
  obtain ⟨n, hn⟩ : ∃ n : Nat, a % 1000000000001 = n := ⟨(a % 1000000000001).toNat, by omega⟩
  have hnb : n ≤ 1000000000000 := by omega
  have hnum := isNum_digN n hnb
  go_enter Try.func7, Try.ntmps7
  go_wp2_with fail
  refine calls_same (within_any a 1000000000001 _ (by omega) (by omega) h1 h2) ?_
  rw [hn]
  have HN : Hid (a % 1000000000001 = n) := hn
  clear hn
  go_wp2_with fail
  refine (digits_any 12 n _ (by have : (10 : Nat) ^ (12 + 1) = 10000000000000 := by decide
                                omega) (by omega) (by omega)).mono ?_
  rintro e w1 ⟨rfl, hb1⟩
  generalize digN 12 n = D at *
  have HQ : Hid (IsNum D n) := hnum
  have hDl : D.length ≤ 13 := hnum.len
  clear hnum
  go_wp2_with fail
  refine (number_any _ _ ?_).mono ?_
  · show D.toArray.size ≤ maxLen
    unfold maxLen; simp; omega
  rintro e w2 ⟨rfl, hb2⟩
  rw [show (⟨D.toArray⟩ : ByteArray).data.toList = D from rfl, numOf_num HQ.out]
  go_wp2_with fail
  refine (number_any _ _ ?_).mono ?_
  · rw [show (⟨#[45]⟩ : ByteArray) = ⟨[45].toArray⟩ from rfl, ByteArray.mk_append_mk]
    show ([45] ++ D).toArray.size ≤ maxLen
    unfold maxLen; simp; omega
  rintro e w3 ⟨rfl, hb3⟩
  rw [show (⟨#[45]⟩ ++ ⟨D.toArray⟩ : ByteArray).data.toList = 45 :: D from ahead_mk [45] D, numOf_minus HQ.out]
  go_wp2_with fail
  have hcells : ∀ k, k < 13 → (w3.alloc (.cells ((nones D).map Value.string).toArray 9)).cell? ⟨w3.heap.size, k, none⟩ = some (.string ((nones D).getD k ⟨#[]⟩)) := by
    intro k hk
    rw [World.cell?_alloc_mark]
    have hk' : k < (nones D).length := hk
    simp [List.getD, List.getElem?_eq_getElem hk']
  have hb4 : Below w.heap.size w (w3.alloc (.cells ((nones D).map Value.string).toArray 9)) := by
    have s1 := hb1.size
    have s2 := hb2.size
    have s3 := hb3.size
    exact ((hb1.trans (hb2.mono s1)).trans (hb3.mono (by omega))).alloc (by omega) _
  have hsz : w3.heap.size < (w3.alloc (.cells ((nones D).map Value.string).toArray 9)).heap.size := by simp
  change Code.wp _ _ _ _ (w3.alloc (.cells ((nones D).map Value.string).toArray 9))
  generalize w3.alloc (.cells ((nones D).map Value.string).toArray 9) = wA at *
  generalize w3.heap.size = g at *
  clear hb1 hb2 hb3
  have HC : Hid (∀ k, k < 13 → wA.cell? ⟨g, k, none⟩ = some (.string ((nones D).getD k ⟨#[]⟩))) := hcells
  clear hcells
  have HNo : Hid (∀ x ∈ nones D, numOf x.data.toList = (0, false) ∧ x.size ≤ maxLen) := nones_none HQ.out
  go_loopw [41] (fun i wr => ∃ k : Nat, k ≤ 13 ∧ i = .int .i64 k ∧ Below wA.heap.size wA wr) (fun i _ => 13 - (intOf i).toNat)
  case atStart => exact ⟨0, by omega, rfl, Below.refl _ _⟩
  case round =>
    obtain ⟨k, hk, rfl, hbr⟩ := hrel
    by_cases hlt : k < 13
    · have hlt' : (k : Int) < 13 := by omega
      obtain ⟨x, hx⟩ : ∃ x, x = (nones D).getD k ⟨#[]⟩ := ⟨_, rfl⟩
      have hmem : x ∈ nones D := by
        rw [hx, List.getD, List.getElem?_eq_getElem (show k < (nones D).length from hlt)]
        exact List.getElem_mem _
      have hcell : wr.cell? ⟨g, k, none⟩ = some (.string x) := by
        rw [hbr.cell (p := ⟨g, k, none⟩) hsz, HC.out k hlt, hx]
      have hno := HNo.out x hmem
      have HX : Hid (numOf x.data.toList = (0, false)) := hno.1
      have HS : Hid (x.size ≤ maxLen) := hno.2
      clear hno hmem hx
      go_wp2_with fail
      refine (number_any _ _ HS.out).mono ?_
      rintro e wn ⟨rfl, hbn⟩
      rw [HX.out]
      have hbr2 := hbr.trans (hbn.mono hbr.size)
      clear hcell hbn hbr
      go_wp2_with fail
      go_roundw
      case rel => exact ⟨k + 1, by omega, by go_num, hbr2⟩
      case measure => simp [intOf]; omega
    · have hk13 : k = 13 := by omega
      subst hk13
      by_cases hn0 : n = 0
      · subst hn0
        go_wp2_with fail
        refine (wakes_any _).mono ?_
        rintro e wz ⟨rfl, hbz⟩
        go_wp2_with fail
        go_ret
        exact ⟨rfl, hb4.trans ((hbr.trans (hbz.mono hbr.size)).mono hb4.size)⟩
      · have hne : ((n : Int) != 0) = true := by rw [bne_iff_ne]; omega
        go_wp2_with fail
        refine (wakes_any _).mono ?_
        rintro e wz ⟨rfl, hbz⟩
        go_wp2_with fail
        go_ret
        exact ⟨rfl, hb4.trans ((hbr.trans (hbz.mono hbr.size)).mono hb4.size)⟩

end Go.Proofs.Ytpopboanflnphaa
