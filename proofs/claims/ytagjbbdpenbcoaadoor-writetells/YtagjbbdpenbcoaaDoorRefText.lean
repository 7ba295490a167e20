/- The document's own answer: a tree's text. -/
import Derived.Test.YtagjbbdpenbcoaaDoorRefDig
import Derived.Test.YtagjbbdpenbcoaaDoorRefChk
import Derived.Test.YtagjbbdpenbcoaaDoorWTop
namespace Go.Proofs.YtagjbbdpenbcoaaDoor
open Go.RowKit
set_option linter.unusedVariables false

/-- The word of a kind. -/
def wordB (k : Int) : ByteArray := ([⟨#[]⟩, ⟨#[122, 101, 114, 111]⟩, ⟨#[111, 110, 101]⟩, ⟨#[103, 105, 118, 101]⟩, ⟨#[97, 110, 100]⟩, ⟨#[111, 114]⟩, ⟨#[115, 99, 97, 108, 101]⟩, ⟨#[119, 104, 101, 110]⟩, ⟨#[105, 102]⟩, ⟨#[]⟩, ⟨#[]⟩, ⟨#[]⟩, ⟨#[102, 105, 120]⟩, ⟨#[97, 100, 100]⟩, ⟨#[110, 101, 103]⟩, ⟨#[109, 117, 108]⟩, ⟨#[109, 97, 120]⟩] : List ByteArray).getD k.toNat ⟨#[]⟩
theorem wordB_size : ∀ k : Nat, k < 17 → (wordB k).size ≤ 5 := by decide +kernel

set_option maxHeartbeats 1000000 in
set_option maxRecDepth 100000 in
theorem word_0 (w : World) : Calls Tryd.prog 59 #[.int .i64 0] w fun e w' => e = .returned (.string (wordB 0)) ∧ Below w.heap.size w w' := by
  go_enter Tryd.func59, Tryd.ntmps59
  go_wp2_with fail
  go_ret
  exact ⟨rfl, below_alloc (Below.refl _ _) _⟩
set_option maxHeartbeats 1000000 in
set_option maxRecDepth 100000 in
theorem word_1 (w : World) : Calls Tryd.prog 59 #[.int .i64 1] w fun e w' => e = .returned (.string (wordB 1)) ∧ Below w.heap.size w w' := by
  go_enter Tryd.func59, Tryd.ntmps59
  go_wp2_with fail
  go_ret
  exact ⟨rfl, below_alloc (Below.refl _ _) _⟩
set_option maxHeartbeats 1000000 in
set_option maxRecDepth 100000 in
theorem word_2 (w : World) : Calls Tryd.prog 59 #[.int .i64 2] w fun e w' => e = .returned (.string (wordB 2)) ∧ Below w.heap.size w w' := by
  go_enter Tryd.func59, Tryd.ntmps59
  go_wp2_with fail
  go_ret
  exact ⟨rfl, below_alloc (Below.refl _ _) _⟩
set_option maxHeartbeats 1000000 in
set_option maxRecDepth 100000 in
theorem word_3 (w : World) : Calls Tryd.prog 59 #[.int .i64 3] w fun e w' => e = .returned (.string (wordB 3)) ∧ Below w.heap.size w w' := by
  go_enter Tryd.func59, Tryd.ntmps59
  go_wp2_with fail
  go_ret
  exact ⟨rfl, below_alloc (Below.refl _ _) _⟩
set_option maxHeartbeats 1000000 in
set_option maxRecDepth 100000 in
theorem word_4 (w : World) : Calls Tryd.prog 59 #[.int .i64 4] w fun e w' => e = .returned (.string (wordB 4)) ∧ Below w.heap.size w w' := by
  go_enter Tryd.func59, Tryd.ntmps59
  go_wp2_with fail
  go_ret
  exact ⟨rfl, below_alloc (Below.refl _ _) _⟩
set_option maxHeartbeats 1000000 in
set_option maxRecDepth 100000 in
theorem word_5 (w : World) : Calls Tryd.prog 59 #[.int .i64 5] w fun e w' => e = .returned (.string (wordB 5)) ∧ Below w.heap.size w w' := by
  go_enter Tryd.func59, Tryd.ntmps59
  go_wp2_with fail
  go_ret
  exact ⟨rfl, below_alloc (Below.refl _ _) _⟩
set_option maxHeartbeats 1000000 in
set_option maxRecDepth 100000 in
theorem word_6 (w : World) : Calls Tryd.prog 59 #[.int .i64 6] w fun e w' => e = .returned (.string (wordB 6)) ∧ Below w.heap.size w w' := by
  go_enter Tryd.func59, Tryd.ntmps59
  go_wp2_with fail
  go_ret
  exact ⟨rfl, below_alloc (Below.refl _ _) _⟩
set_option maxHeartbeats 1000000 in
set_option maxRecDepth 100000 in
theorem word_7 (w : World) : Calls Tryd.prog 59 #[.int .i64 7] w fun e w' => e = .returned (.string (wordB 7)) ∧ Below w.heap.size w w' := by
  go_enter Tryd.func59, Tryd.ntmps59
  go_wp2_with fail
  go_ret
  exact ⟨rfl, below_alloc (Below.refl _ _) _⟩
set_option maxHeartbeats 1000000 in
set_option maxRecDepth 100000 in
theorem word_8 (w : World) : Calls Tryd.prog 59 #[.int .i64 8] w fun e w' => e = .returned (.string (wordB 8)) ∧ Below w.heap.size w w' := by
  go_enter Tryd.func59, Tryd.ntmps59
  go_wp2_with fail
  go_ret
  exact ⟨rfl, below_alloc (Below.refl _ _) _⟩
set_option maxHeartbeats 1000000 in
set_option maxRecDepth 100000 in
theorem word_9 (w : World) : Calls Tryd.prog 59 #[.int .i64 9] w fun e w' => e = .returned (.string (wordB 9)) ∧ Below w.heap.size w w' := by
  go_enter Tryd.func59, Tryd.ntmps59
  go_wp2_with fail
  go_ret
  exact ⟨rfl, below_alloc (Below.refl _ _) _⟩
set_option maxHeartbeats 1000000 in
set_option maxRecDepth 100000 in
theorem word_10 (w : World) : Calls Tryd.prog 59 #[.int .i64 10] w fun e w' => e = .returned (.string (wordB 10)) ∧ Below w.heap.size w w' := by
  go_enter Tryd.func59, Tryd.ntmps59
  go_wp2_with fail
  go_ret
  exact ⟨rfl, below_alloc (Below.refl _ _) _⟩
set_option maxHeartbeats 1000000 in
set_option maxRecDepth 100000 in
theorem word_11 (w : World) : Calls Tryd.prog 59 #[.int .i64 11] w fun e w' => e = .returned (.string (wordB 11)) ∧ Below w.heap.size w w' := by
  go_enter Tryd.func59, Tryd.ntmps59
  go_wp2_with fail
  go_ret
  exact ⟨rfl, below_alloc (Below.refl _ _) _⟩
set_option maxHeartbeats 1000000 in
set_option maxRecDepth 100000 in
theorem word_12 (w : World) : Calls Tryd.prog 59 #[.int .i64 12] w fun e w' => e = .returned (.string (wordB 12)) ∧ Below w.heap.size w w' := by
  go_enter Tryd.func59, Tryd.ntmps59
  go_wp2_with fail
  go_ret
  exact ⟨rfl, below_alloc (Below.refl _ _) _⟩
set_option maxHeartbeats 1000000 in
set_option maxRecDepth 100000 in
theorem word_13 (w : World) : Calls Tryd.prog 59 #[.int .i64 13] w fun e w' => e = .returned (.string (wordB 13)) ∧ Below w.heap.size w w' := by
  go_enter Tryd.func59, Tryd.ntmps59
  go_wp2_with fail
  go_ret
  exact ⟨rfl, below_alloc (Below.refl _ _) _⟩
set_option maxHeartbeats 1000000 in
set_option maxRecDepth 100000 in
theorem word_14 (w : World) : Calls Tryd.prog 59 #[.int .i64 14] w fun e w' => e = .returned (.string (wordB 14)) ∧ Below w.heap.size w w' := by
  go_enter Tryd.func59, Tryd.ntmps59
  go_wp2_with fail
  go_ret
  exact ⟨rfl, below_alloc (Below.refl _ _) _⟩
set_option maxHeartbeats 1000000 in
set_option maxRecDepth 100000 in
theorem word_15 (w : World) : Calls Tryd.prog 59 #[.int .i64 15] w fun e w' => e = .returned (.string (wordB 15)) ∧ Below w.heap.size w w' := by
  go_enter Tryd.func59, Tryd.ntmps59
  go_wp2_with fail
  go_ret
  exact ⟨rfl, below_alloc (Below.refl _ _) _⟩
set_option maxHeartbeats 1000000 in
set_option maxRecDepth 100000 in
theorem word_16 (w : World) : Calls Tryd.prog 59 #[.int .i64 16] w fun e w' => e = .returned (.string (wordB 16)) ∧ Below w.heap.size w w' := by
  go_enter Tryd.func59, Tryd.ntmps59
  go_wp2_with fail
  go_ret
  exact ⟨rfl, below_alloc (Below.refl _ _) _⟩
theorem word_any (k : Int) (h0 : 0 ≤ k) (hk : k ≤ 16) (w : World) : Calls Tryd.prog 59 #[.int .i64 k] w fun e w' => e = .returned (.string (wordB k)) ∧ Below w.heap.size w w' := by
  have h : k = 0 ∨ k = 1 ∨ k = 2 ∨ k = 3 ∨ k = 4 ∨ k = 5 ∨ k = 6 ∨ k = 7 ∨ k = 8 ∨ k = 9 ∨ k = 10 ∨ k = 11 ∨ k = 12 ∨ k = 13 ∨ k = 14 ∨ k = 15 ∨ k = 16 := by omega
  rcases h with rfl | rfl | rfl | rfl | rfl | rfl | rfl | rfl | rfl | rfl | rfl | rfl | rfl | rfl | rfl | rfl | rfl
  · exact word_0 w
  · exact word_1 w
  · exact word_2 w
  · exact word_3 w
  · exact word_4 w
  · exact word_5 w
  · exact word_6 w
  · exact word_7 w
  · exact word_8 w
  · exact word_9 w
  · exact word_10 w
  · exact word_11 w
  · exact word_12 w
  · exact word_13 w
  · exact word_14 w
  · exact word_15 w
  · exact word_16 w

/-- What stands in a tree's text ahead of its parts. -/
def headP (kind : Int) (s : ByteArray) (n : Int) : List ByteArray := if kind = 2 ∨ kind = 5 ∨ kind = 12 then [s] else if kind = 7 then [numT n] else []
mutual
/-- A tree's text. -/
def textT : T → ByteArray
  | .mk kind s n k => if kind = 11 then numT n else if kind = 1 then ⟨#[122, 101, 114, 111]⟩ else joinT (wordB kind) (headP kind s n ++ textTL k)
def textTL : List T → List ByteArray
  | [] => []
  | t :: l => textT t :: textTL l
end
mutual
/-- A tree whose kinds are some, whose numbers have 64 bits. -/
def T.wk : T → Prop
  | .mk kind s n k => (0 ≤ kind ∧ kind ≤ 16) ∧ (-9223372036854775808 ≤ n ∧ n ≤ 9223372036854775807) ∧ wkL k
def wkL : List T → Prop
  | [] => True
  | t :: l => t.wk ∧ wkL l
end
theorem wkL_mem : ∀ {l : List T}, wkL l → ∀ t ∈ l, t.wk := by
  intro l
  induction l with
  | nil => intro _ t h; cases h
  | cons a l ih =>
    intro h t ht
    unfold wkL at h
    rcases List.mem_cons.1 ht with rfl | ht
    · exact h.1
    · exact ih h.2 t ht
theorem textTL_map (l : List T) : textTL l = l.map textT := by
  induction l with
  | nil => simp [textTL]
  | cons a l ih => simp [textTL, ih]
/-- The parts put together, from the word on. -/
def putT (word : ByteArray) (xs : List ByteArray) : ByteArray := word ++ ⟨#[40]⟩ ++ ⟨(Lib.join (xs.map (·.data.toList)) [44]).toArray⟩
def sepT (xs : List ByteArray) : ByteArray := if xs = [] then ⟨#[]⟩ else ⟨#[44]⟩
theorem joinTail_snoc (sep : List UInt8) (r : List (List UInt8)) (x : List UInt8) : Lib.joinTail sep (r ++ [x]) = Lib.joinTail sep r ++ (sep ++ x) := by
  simp [Lib.joinTail]
theorem ba_ext {a b : ByteArray} (h : a.data.toList = b.data.toList) : a = b := by
  cases a with | mk a => cases b with | mk b => simp only [ByteArray.mk.injEq]; exact Array.toList_inj.1 h
theorem ba_app (a b : ByteArray) : (a ++ b).data.toList = a.data.toList ++ b.data.toList := by simp
theorem putT_snoc (word : ByteArray) (xs : List ByteArray) (x : ByteArray) : putT word (xs ++ [x]) = putT word xs ++ sepT xs ++ x := by
  apply ba_ext
  unfold putT
  simp only [ba_app]
  cases xs with
  | nil => simp [sepT, Lib.join_one, Lib.join_nil]
  | cons a r =>
    rw [sepT, if_neg (by simp)]
    simp only [List.cons_append, List.map_cons, List.map_append, List.map_nil, Lib.join_cons, joinTail_snoc, List.append_assoc]
theorem sepT_snoc (xs : List ByteArray) (x : ByteArray) : sepT (xs ++ [x]) = ⟨#[44]⟩ := by rw [sepT, if_neg (by simp)]
theorem putT_size (word : ByteArray) (xs : List ByteArray) : (putT word xs).size = word.size + 1 + (Lib.join (xs.map (·.data.toList)) [44]).length := by
  have e1 : (ByteArray.mk #[40]).size = 1 := rfl
  have e3 : (ByteArray.mk (Lib.join (xs.map (·.data.toList)) [44]).toArray).size = (Lib.join (xs.map (·.data.toList)) [44]).length := by simp [ByteArray.size]
  unfold putT
  rw [ByteArray.size_append, ByteArray.size_append, e1, e3]
theorem putT_join (word : ByteArray) (xs : List ByteArray) : putT word xs ++ ⟨#[41]⟩ = joinT word xs := rfl
theorem putT_mono (word : ByteArray) (xs ys : List ByteArray) : (putT word xs).size ≤ (putT word (xs ++ ys)).size := by
  induction ys generalizing xs with
  | nil => simp
  | cons y ys ih =>
    have h := ih (xs ++ [y])
    rw [List.append_assoc] at h
    have h2 : (putT word (xs ++ [y])).size = (putT word xs).size + (sepT xs).size + y.size := by rw [putT_snoc, ByteArray.size_append, ByteArray.size_append]
    have h3 : xs ++ ([y] ++ ys) = xs ++ y :: ys := by simp
    rw [h3] at h
    omega

set_option maxHeartbeats 4000000 in
set_option maxRecDepth 100000 in
theorem refText_any (t : T) : t.wk → (textT t).size ≤ 70368744177664 → ∀ (w : World) (v : Value), TIn w 0 t v → Calls Tryd.prog 38 #[v] w fun e w' => e = .returned (.string (textT t)) ∧ Below w.heap.size w w' := by
  induction t using T.ind with
  | _ kind s n k ih =>
  intro hwk hsz w v hv
  have hkl := len_cap hv
  obtain ⟨a, cap, rfl, hc1, hc2, hK⟩ := hv
  simp only [T.kind, T.s, T.n, T.k] at hc1 hK hkl ⊢
  have hwk' := hwk
  unfold T.wk at hwk'
  obtain ⟨⟨hk0, hk16⟩, ⟨hn0, hn1⟩, hwl⟩ := hwk'
  have HNB : Hid (-9223372036854775808 ≤ n ∧ n ≤ 9223372036854775807) := ⟨hn0, hn1⟩
  have HTT : Hid (textT (.mk kind s n k) = if kind = 11 then numT n else if kind = 1 then ⟨#[122, 101, 114, 111]⟩ else joinT (wordB kind) (headP kind s n ++ textTL k)) := by show _ = _; rw [textT]
  have HIH0 : Hid (∀ t ∈ k, (textT t).size ≤ 70368744177664 → ∀ (w : World) (v : Value), TIn w 0 t v → Calls Tryd.prog 38 #[v] w fun e w' => e = .returned (.string (textT t)) ∧ Below w.heap.size w w') := fun t ht => ih t ht (wkL_mem hwl t ht)
  have HK := hidIn hK
  have HSZ := hidIn hsz
  clear ih hK hwk hwl hn0 hn1 hsz
  go_enter Tryd.func38, Tryd.ntmps38
  by_cases h11 : kind = 11
  · have HE : Hid (textT (.mk kind s n k) = numT n) := by show _ = _; rw [HTT.out, if_pos h11]
    subst h11
    go_wp2_with fail
    refine (digAny n HNB.out.1 HNB.out.2 _).mono ?_
    rintro e w1 ⟨rfl, hb1⟩
    go_wp2_with fail
    go_ret
    exact ⟨by rw [HE.out]; rfl, (below_alloc (Below.refl _ _) _).trans (hb1.mono (by simp))⟩
  by_cases h1 : kind = 1
  · have HE : Hid (textT (.mk kind s n k) = ⟨#[122, 101, 114, 111]⟩) := by show _ = _; rw [HTT.out, if_neg h11, if_pos h1]
    subst h1
    go_wp2_with fail
    go_ret
    exact ⟨by rw [HE.out]; rfl, below_alloc (Below.refl _ _) _⟩
  have HE : Hid (textT (.mk kind s n k) = joinT (wordB kind) (headP kind s n ++ textTL k)) := by show _ = _; rw [HTT.out, if_neg h11, if_neg h1]
  have HW : Hid ((wordB kind).size ≤ 5) := by have := wordB_size kind.toNat (by omega); rw [Int.toNat_of_nonneg hk0] at this; exact this
  have HSZ2 : Hid ((putT (wordB kind) (headP kind s n ++ textTL k)).size ≤ 70368744177664) := by
    have h := HSZ.out
    rw [HE.out, ← putT_join, ByteArray.size_append] at h
    show _ ≤ _
    omega
  have HWD := hidIn (word_any kind hk0 hk16)
  clear HTT HSZ
  have h11' : (kind == 11) = false := by simp [h11]
  have h1' : (kind == 1) = false := by simp [h1]
  go_wp2_with fail
  obtain ⟨W, hW⟩ : ∃ W, W = w.alloc (.cells #[.int .i64 kind, .string s, .int .i64 n, .slice a k.length cap] 30) := ⟨_, rfl⟩
  have HB : Hid (Below w.heap.size w W) := by rw [hW]; exact below_alloc (Below.refl _ _) _
  have HBK : Hid (W.heap[w.heap.size]? = some (.cells #[.int .i64 kind, .string s, .int .i64 n, .slice a k.length cap] 30 (0, 0))) := by rw [hW]; exact heap_alloc_new _ _
  rw [← hW]
  clear hW
  refine (HWD.out _).mono ?_
  rintro e w1 ⟨rfl, hb1⟩
  have HB1 := hidIn hb1
  have HG0 : Hid (∀ X, Below W.heap.size W X → X.cell? ⟨w.heap.size, 0, none⟩ = some (.int .i64 kind)) := fun X hX => (cell_of_row _ _ _ _ _ _ ((hX.block _ (Array.getElem?_eq_some_iff.1 HBK.out).1).trans HBK.out)).trans rfl
  have HG1 : Hid (∀ X, Below W.heap.size W X → X.cell? ⟨w.heap.size, 1, none⟩ = some (.string s)) := fun X hX => (cell_of_row _ _ _ _ _ _ ((hX.block _ (Array.getElem?_eq_some_iff.1 HBK.out).1).trans HBK.out)).trans rfl
  have HG2 : Hid (∀ X, Below W.heap.size W X → X.cell? ⟨w.heap.size, 2, none⟩ = some (.int .i64 n)) := fun X hX => (cell_of_row _ _ _ _ _ _ ((hX.block _ (Array.getElem?_eq_some_iff.1 HBK.out).1).trans HBK.out)).trans rfl
  have HG3 : Hid (∀ X, Below W.heap.size W X → X.cell? ⟨w.heap.size, 3, none⟩ = some (.slice a k.length cap)) := fun X hX => (cell_of_row _ _ _ _ _ _ ((hX.block _ (Array.getElem?_eq_some_iff.1 HBK.out).1).trans HBK.out)).trans rfl
  have HKW : Hid (KAt W 0 k a 0) := HK.out.below HB.out
  clear HBK HK hb1
  obtain ⟨wd, hwd⟩ : ∃ wd, wordB kind = wd := ⟨_, rfl⟩
  rw [hwd] at HW HSZ2 HE
  rw [hwd]
  clear hwd HWD
  have hw5 := HW.out
  have g0 := HG0.out w1 HB1.out
  have g1 := HG1.out w1 HB1.out
  have g2 := HG2.out w1 HB1.out
  have hws : (wd ++ (⟨#[40]⟩ : ByteArray)).size = wd.size + 1 := by rw [ByteArray.size_append]; rfl
  have HHS : Hid ((putT wd (headP kind s n)).size ≤ 70368744177664) := Nat.le_trans (putT_mono wd (headP kind s n) (textTL k)) HSZ2.out
  have HP0 : Hid (wd ++ ⟨#[40]⟩ = putT wd []) := by apply ba_ext; unfold putT; simp [Lib.join_nil]
  by_cases h2 : kind = 2
  · have HH : Hid (headP kind s n = [s]) := by show _ = _; unfold headP; rw [if_pos (by omega)]
    rw [HH.out] at HSZ2 HE HHS
    have hhs := HHS.out
    rw [show putT wd [s] = wd ++ ⟨#[40]⟩ ++ s from by rw [show [s] = [] ++ [s] from rfl, putT_snoc, ← HP0.out]; apply ba_ext; simp [sepT]] at hhs
    have hs3 := hhs
    rw [ByteArray.size_append] at hs3
    have HS0 : Hid (wd ++ ⟨#[40]⟩ ++ s = putT wd [s]) := by show _ = _; rw [show [s] = [] ++ [s] from rfl, putT_snoc, ← HP0.out]; apply ba_ext; simp [sepT]
    have HSP0 : Hid ((⟨#[44]⟩ : ByteArray) = sepT [s]) := rfl
    have HBX := HB1
    subst h2
    have g3 := HG3.out w1 HBX.out
    go_wp2_with fail
    clear g3
    rw [HS0.out, HSP0.out]
    go_loopw [47, 3, 4] (fun s47 s3 s4 wr => ∃ i : Nat, i ≤ k.length ∧ s47 = .int .i64 i ∧ s3 = .string (putT wd ([s] ++ textTL (k.take i))) ∧ s4 = .string (sepT ([s] ++ textTL (k.take i))) ∧ Below W.heap.size W wr) (fun s47 _ _ _ => k.length - (intOf s47).toNat)
    case atStart => exact ⟨0, by omega, rfl, by simp [textTL], by simp [textTL], HBX.out⟩
    case round =>
      clear HBX HS0 HSP0
      obtain ⟨i, hi, rfl, rfl, rfl, hbr⟩ := hrel
      have HBR := hidIn hbr
      by_cases hlt : i < k.length
      · have hlt' : (i : Int) < (k.length : Int) := by omega
        obtain ⟨t, hti⟩ : ∃ t, k[i]? = some t := ⟨_, List.getElem?_eq_getElem hlt⟩
        obtain ⟨b, o, ka, ca, rfl, c0, c1, c2, c3, ht⟩ := (HKW.out.below hbr).cells hti
        have g3 := HG3.out wr hbr
        have HM : Hid (t ∈ k) := List.mem_of_getElem? hti
        have HTI := hidIn ht
        have htk := take_more _ _ _ hti
        have HT3 : Hid ([s] ++ textTL (k.take (i + 1)) = ([s] ++ textTL (k.take i)) ++ [textT t]) := by show _ = _; rw [htk, textTL_map, textTL_map, List.map_append, List.append_assoc]; rfl
        have HLEN : Hid ((putT wd (([s] ++ textTL (k.take i)) ++ [textT t])).size ≤ 70368744177664) := by
          rw [← HT3.out]
          refine Nat.le_trans ?_ HSZ2.out
          have h2 : [s] ++ textTL k = ([s] ++ textTL (k.take (i + 1))) ++ textTL (k.drop (i + 1)) := by
            rw [textTL_map, textTL_map, textTL_map, List.append_assoc, ← List.map_append, List.take_append_drop]
          rw [h2]
          exact putT_mono _ _ _
        clear hti htk ht hbr
        have hsz : (putT wd ([s] ++ textTL (k.take i)) ++ sepT ([s] ++ textTL (k.take i)) ++ textT t).size ≤ 70368744177664 := by rw [← putT_snoc]; exact HLEN.out
        have hsn := putT_snoc wd ([s] ++ textTL (k.take i)) (textT t)
        have HSN : Hid (putT wd ([s] ++ textTL (k.take (i + 1))) = putT wd ([s] ++ textTL (k.take i)) ++ sepT ([s] ++ textTL (k.take i)) ++ textT t) := by show _ = _; rw [HT3.out, putT_snoc]
        have HSP : Hid (sepT ([s] ++ textTL (k.take (i + 1))) = ⟨#[44]⟩) := by show _ = _; rw [HT3.out, sepT_snoc]
        clear hsn HT3 HLEN
        obtain ⟨A, hA⟩ : ∃ A, putT wd ([s] ++ textTL (k.take i)) = A := ⟨_, rfl⟩
        obtain ⟨B, hB⟩ : ∃ B, sepT ([s] ++ textTL (k.take i)) = B := ⟨_, rfl⟩
        obtain ⟨X, hX⟩ : ∃ X, textT t = X := ⟨_, rfl⟩
        rw [hA, hB, hX] at hsz HSN
        rw [hA, hB]
        have HCX : Hid (∀ (w : World) (v : Value), TIn w 0 t v → Calls Tryd.prog 38 #[v] w fun e w' => e = .returned (.string X) ∧ Below w.heap.size w w') := by
          show ∀ _, _
          have h := HIH0.out t HM.out (by rw [hX]; rw [ByteArray.size_append] at hsz; omega)
          rw [hX] at h
          exact h
        clear hA hB hX
        rw [ByteArray.size_append] at hsz
        have hs1 : (A ++ B).size ≤ 70368744177664 := by omega
        have hs2 := hs1
        rw [ByteArray.size_append] at hs2
        go_wp2_with fail
        refine (HCX.out wr _ HTI.out).mono ?_
        rintro e w4 ⟨rfl, hb4⟩
        have HB4 := hidIn (HBR.out.trans (hb4.mono HBR.out.size))
        clear hb4 c0 c1 c2 c3 g3 HTI
        go_wp2_with fail
        go_roundw
        case rel => exact ⟨i + 1, by omega, by go_num, by rw [HSN.out], by first | (rw [HSP.out]; done) | (rw [HSP.out]; rfl), HB4.out⟩
        case measure => simp [intOf]; omega
      · have hle : i = k.length := by omega
        subst hle
        rw [List.take_length]
        have hsz := HSZ2.out
        have HPJ := hidIn (putT_join wd ([s] ++ textTL k))
        obtain ⟨A, hA⟩ : ∃ A, putT wd ([s] ++ textTL k) = A := ⟨_, rfl⟩
        rw [hA] at hsz HPJ
        rw [hA]
        clear hA
        go_wp2_with fail
        go_ret
        exact ⟨by rw [HE.out, ← HPJ.out]; rfl, HB.out.trans (HBR.out.mono HB.out.size)⟩
  by_cases h5 : kind = 5
  · have HH : Hid (headP kind s n = [s]) := by show _ = _; unfold headP; rw [if_pos (by omega)]
    rw [HH.out] at HSZ2 HE HHS
    have hhs := HHS.out
    rw [show putT wd [s] = wd ++ ⟨#[40]⟩ ++ s from by rw [show [s] = [] ++ [s] from rfl, putT_snoc, ← HP0.out]; apply ba_ext; simp [sepT]] at hhs
    have hs3 := hhs
    rw [ByteArray.size_append] at hs3
    have HS0 : Hid (wd ++ ⟨#[40]⟩ ++ s = putT wd [s]) := by show _ = _; rw [show [s] = [] ++ [s] from rfl, putT_snoc, ← HP0.out]; apply ba_ext; simp [sepT]
    have HSP0 : Hid ((⟨#[44]⟩ : ByteArray) = sepT [s]) := rfl
    have HBX := HB1
    subst h5
    have g3 := HG3.out w1 HBX.out
    go_wp2_with fail
    clear g3
    rw [HS0.out, HSP0.out]
    go_loopw [47, 3, 4] (fun s47 s3 s4 wr => ∃ i : Nat, i ≤ k.length ∧ s47 = .int .i64 i ∧ s3 = .string (putT wd ([s] ++ textTL (k.take i))) ∧ s4 = .string (sepT ([s] ++ textTL (k.take i))) ∧ Below W.heap.size W wr) (fun s47 _ _ _ => k.length - (intOf s47).toNat)
    case atStart => exact ⟨0, by omega, rfl, by simp [textTL], by simp [textTL], HBX.out⟩
    case round =>
      clear HBX HS0 HSP0
      obtain ⟨i, hi, rfl, rfl, rfl, hbr⟩ := hrel
      have HBR := hidIn hbr
      by_cases hlt : i < k.length
      · have hlt' : (i : Int) < (k.length : Int) := by omega
        obtain ⟨t, hti⟩ : ∃ t, k[i]? = some t := ⟨_, List.getElem?_eq_getElem hlt⟩
        obtain ⟨b, o, ka, ca, rfl, c0, c1, c2, c3, ht⟩ := (HKW.out.below hbr).cells hti
        have g3 := HG3.out wr hbr
        have HM : Hid (t ∈ k) := List.mem_of_getElem? hti
        have HTI := hidIn ht
        have htk := take_more _ _ _ hti
        have HT3 : Hid ([s] ++ textTL (k.take (i + 1)) = ([s] ++ textTL (k.take i)) ++ [textT t]) := by show _ = _; rw [htk, textTL_map, textTL_map, List.map_append, List.append_assoc]; rfl
        have HLEN : Hid ((putT wd (([s] ++ textTL (k.take i)) ++ [textT t])).size ≤ 70368744177664) := by
          rw [← HT3.out]
          refine Nat.le_trans ?_ HSZ2.out
          have h2 : [s] ++ textTL k = ([s] ++ textTL (k.take (i + 1))) ++ textTL (k.drop (i + 1)) := by
            rw [textTL_map, textTL_map, textTL_map, List.append_assoc, ← List.map_append, List.take_append_drop]
          rw [h2]
          exact putT_mono _ _ _
        clear hti htk ht hbr
        have hsz : (putT wd ([s] ++ textTL (k.take i)) ++ sepT ([s] ++ textTL (k.take i)) ++ textT t).size ≤ 70368744177664 := by rw [← putT_snoc]; exact HLEN.out
        have hsn := putT_snoc wd ([s] ++ textTL (k.take i)) (textT t)
        have HSN : Hid (putT wd ([s] ++ textTL (k.take (i + 1))) = putT wd ([s] ++ textTL (k.take i)) ++ sepT ([s] ++ textTL (k.take i)) ++ textT t) := by show _ = _; rw [HT3.out, putT_snoc]
        have HSP : Hid (sepT ([s] ++ textTL (k.take (i + 1))) = ⟨#[44]⟩) := by show _ = _; rw [HT3.out, sepT_snoc]
        clear hsn HT3 HLEN
        obtain ⟨A, hA⟩ : ∃ A, putT wd ([s] ++ textTL (k.take i)) = A := ⟨_, rfl⟩
        obtain ⟨B, hB⟩ : ∃ B, sepT ([s] ++ textTL (k.take i)) = B := ⟨_, rfl⟩
        obtain ⟨X, hX⟩ : ∃ X, textT t = X := ⟨_, rfl⟩
        rw [hA, hB, hX] at hsz HSN
        rw [hA, hB]
        have HCX : Hid (∀ (w : World) (v : Value), TIn w 0 t v → Calls Tryd.prog 38 #[v] w fun e w' => e = .returned (.string X) ∧ Below w.heap.size w w') := by
          show ∀ _, _
          have h := HIH0.out t HM.out (by rw [hX]; rw [ByteArray.size_append] at hsz; omega)
          rw [hX] at h
          exact h
        clear hA hB hX
        rw [ByteArray.size_append] at hsz
        have hs1 : (A ++ B).size ≤ 70368744177664 := by omega
        have hs2 := hs1
        rw [ByteArray.size_append] at hs2
        go_wp2_with fail
        refine (HCX.out wr _ HTI.out).mono ?_
        rintro e w4 ⟨rfl, hb4⟩
        have HB4 := hidIn (HBR.out.trans (hb4.mono HBR.out.size))
        clear hb4 c0 c1 c2 c3 g3 HTI
        go_wp2_with fail
        go_roundw
        case rel => exact ⟨i + 1, by omega, by go_num, by rw [HSN.out], by first | (rw [HSP.out]; done) | (rw [HSP.out]; rfl), HB4.out⟩
        case measure => simp [intOf]; omega
      · have hle : i = k.length := by omega
        subst hle
        rw [List.take_length]
        have hsz := HSZ2.out
        have HPJ := hidIn (putT_join wd ([s] ++ textTL k))
        obtain ⟨A, hA⟩ : ∃ A, putT wd ([s] ++ textTL k) = A := ⟨_, rfl⟩
        rw [hA] at hsz HPJ
        rw [hA]
        clear hA
        go_wp2_with fail
        go_ret
        exact ⟨by rw [HE.out, ← HPJ.out]; rfl, HB.out.trans (HBR.out.mono HB.out.size)⟩
  by_cases h12 : kind = 12
  · have HH : Hid (headP kind s n = [s]) := by show _ = _; unfold headP; rw [if_pos (by omega)]
    rw [HH.out] at HSZ2 HE HHS
    have hhs := HHS.out
    rw [show putT wd [s] = wd ++ ⟨#[40]⟩ ++ s from by rw [show [s] = [] ++ [s] from rfl, putT_snoc, ← HP0.out]; apply ba_ext; simp [sepT]] at hhs
    have hs3 := hhs
    rw [ByteArray.size_append] at hs3
    have HS0 : Hid (wd ++ ⟨#[40]⟩ ++ s = putT wd [s]) := by show _ = _; rw [show [s] = [] ++ [s] from rfl, putT_snoc, ← HP0.out]; apply ba_ext; simp [sepT]
    have HSP0 : Hid ((⟨#[44]⟩ : ByteArray) = sepT [s]) := rfl
    have HBX := HB1
    subst h12
    have g3 := HG3.out w1 HBX.out
    go_wp2_with fail
    clear g3
    rw [HS0.out, HSP0.out]
    go_loopw [47, 3, 4] (fun s47 s3 s4 wr => ∃ i : Nat, i ≤ k.length ∧ s47 = .int .i64 i ∧ s3 = .string (putT wd ([s] ++ textTL (k.take i))) ∧ s4 = .string (sepT ([s] ++ textTL (k.take i))) ∧ Below W.heap.size W wr) (fun s47 _ _ _ => k.length - (intOf s47).toNat)
    case atStart => exact ⟨0, by omega, rfl, by simp [textTL], by simp [textTL], HBX.out⟩
    case round =>
      clear HBX HS0 HSP0
      obtain ⟨i, hi, rfl, rfl, rfl, hbr⟩ := hrel
      have HBR := hidIn hbr
      by_cases hlt : i < k.length
      · have hlt' : (i : Int) < (k.length : Int) := by omega
        obtain ⟨t, hti⟩ : ∃ t, k[i]? = some t := ⟨_, List.getElem?_eq_getElem hlt⟩
        obtain ⟨b, o, ka, ca, rfl, c0, c1, c2, c3, ht⟩ := (HKW.out.below hbr).cells hti
        have g3 := HG3.out wr hbr
        have HM : Hid (t ∈ k) := List.mem_of_getElem? hti
        have HTI := hidIn ht
        have htk := take_more _ _ _ hti
        have HT3 : Hid ([s] ++ textTL (k.take (i + 1)) = ([s] ++ textTL (k.take i)) ++ [textT t]) := by show _ = _; rw [htk, textTL_map, textTL_map, List.map_append, List.append_assoc]; rfl
        have HLEN : Hid ((putT wd (([s] ++ textTL (k.take i)) ++ [textT t])).size ≤ 70368744177664) := by
          rw [← HT3.out]
          refine Nat.le_trans ?_ HSZ2.out
          have h2 : [s] ++ textTL k = ([s] ++ textTL (k.take (i + 1))) ++ textTL (k.drop (i + 1)) := by
            rw [textTL_map, textTL_map, textTL_map, List.append_assoc, ← List.map_append, List.take_append_drop]
          rw [h2]
          exact putT_mono _ _ _
        clear hti htk ht hbr
        have hsz : (putT wd ([s] ++ textTL (k.take i)) ++ sepT ([s] ++ textTL (k.take i)) ++ textT t).size ≤ 70368744177664 := by rw [← putT_snoc]; exact HLEN.out
        have hsn := putT_snoc wd ([s] ++ textTL (k.take i)) (textT t)
        have HSN : Hid (putT wd ([s] ++ textTL (k.take (i + 1))) = putT wd ([s] ++ textTL (k.take i)) ++ sepT ([s] ++ textTL (k.take i)) ++ textT t) := by show _ = _; rw [HT3.out, putT_snoc]
        have HSP : Hid (sepT ([s] ++ textTL (k.take (i + 1))) = ⟨#[44]⟩) := by show _ = _; rw [HT3.out, sepT_snoc]
        clear hsn HT3 HLEN
        obtain ⟨A, hA⟩ : ∃ A, putT wd ([s] ++ textTL (k.take i)) = A := ⟨_, rfl⟩
        obtain ⟨B, hB⟩ : ∃ B, sepT ([s] ++ textTL (k.take i)) = B := ⟨_, rfl⟩
        obtain ⟨X, hX⟩ : ∃ X, textT t = X := ⟨_, rfl⟩
        rw [hA, hB, hX] at hsz HSN
        rw [hA, hB]
        have HCX : Hid (∀ (w : World) (v : Value), TIn w 0 t v → Calls Tryd.prog 38 #[v] w fun e w' => e = .returned (.string X) ∧ Below w.heap.size w w') := by
          show ∀ _, _
          have h := HIH0.out t HM.out (by rw [hX]; rw [ByteArray.size_append] at hsz; omega)
          rw [hX] at h
          exact h
        clear hA hB hX
        rw [ByteArray.size_append] at hsz
        have hs1 : (A ++ B).size ≤ 70368744177664 := by omega
        have hs2 := hs1
        rw [ByteArray.size_append] at hs2
        go_wp2_with fail
        refine (HCX.out wr _ HTI.out).mono ?_
        rintro e w4 ⟨rfl, hb4⟩
        have HB4 := hidIn (HBR.out.trans (hb4.mono HBR.out.size))
        clear hb4 c0 c1 c2 c3 g3 HTI
        go_wp2_with fail
        go_roundw
        case rel => exact ⟨i + 1, by omega, by go_num, by rw [HSN.out], by first | (rw [HSP.out]; done) | (rw [HSP.out]; rfl), HB4.out⟩
        case measure => simp [intOf]; omega
      · have hle : i = k.length := by omega
        subst hle
        rw [List.take_length]
        have hsz := HSZ2.out
        have HPJ := hidIn (putT_join wd ([s] ++ textTL k))
        obtain ⟨A, hA⟩ : ∃ A, putT wd ([s] ++ textTL k) = A := ⟨_, rfl⟩
        rw [hA] at hsz HPJ
        rw [hA]
        clear hA
        go_wp2_with fail
        go_ret
        exact ⟨by rw [HE.out, ← HPJ.out]; rfl, HB.out.trans (HBR.out.mono HB.out.size)⟩
  by_cases h7 : kind = 7
  · have HH : Hid (headP kind s n = [numT n]) := by show _ = _; unfold headP; rw [if_neg (by omega), if_pos h7]
    rw [HH.out] at HSZ2 HE HHS
    have hhs := HHS.out
    have HS0 : Hid (wd ++ ⟨#[40]⟩ ++ numT n = putT wd [numT n]) := by show _ = _; rw [show [numT n] = [] ++ [numT n] from rfl, putT_snoc, ← HP0.out]; apply ba_ext; simp [sepT]
    have HSP0 : Hid ((⟨#[44]⟩ : ByteArray) = sepT [numT n]) := rfl
    rw [← HS0.out] at hhs
    have hs3 := hhs
    rw [ByteArray.size_append] at hs3
    subst h7
    go_wp2_with fail
    refine (digAny n HNB.out.1 HNB.out.2 _).mono ?_
    rintro e w2 ⟨rfl, hb2⟩
    have HBX := hidIn (HB1.out.trans (hb2.mono HB1.out.size))
    clear hb2 g0 g1 g2
    have g3 := HG3.out w2 HBX.out
    go_wp2_with fail
    clear g3
    rw [HS0.out, HSP0.out]
    go_loopw [47, 3, 4] (fun s47 s3 s4 wr => ∃ i : Nat, i ≤ k.length ∧ s47 = .int .i64 i ∧ s3 = .string (putT wd ([numT n] ++ textTL (k.take i))) ∧ s4 = .string (sepT ([numT n] ++ textTL (k.take i))) ∧ Below W.heap.size W wr) (fun s47 _ _ _ => k.length - (intOf s47).toNat)
    case atStart => exact ⟨0, by omega, rfl, by simp [textTL], by simp [textTL], HBX.out⟩
    case round =>
      clear HBX HS0 HSP0
      obtain ⟨i, hi, rfl, rfl, rfl, hbr⟩ := hrel
      have HBR := hidIn hbr
      by_cases hlt : i < k.length
      · have hlt' : (i : Int) < (k.length : Int) := by omega
        obtain ⟨t, hti⟩ : ∃ t, k[i]? = some t := ⟨_, List.getElem?_eq_getElem hlt⟩
        obtain ⟨b, o, ka, ca, rfl, c0, c1, c2, c3, ht⟩ := (HKW.out.below hbr).cells hti
        have g3 := HG3.out wr hbr
        have HM : Hid (t ∈ k) := List.mem_of_getElem? hti
        have HTI := hidIn ht
        have htk := take_more _ _ _ hti
        have HT3 : Hid ([numT n] ++ textTL (k.take (i + 1)) = ([numT n] ++ textTL (k.take i)) ++ [textT t]) := by show _ = _; rw [htk, textTL_map, textTL_map, List.map_append, List.append_assoc]; rfl
        have HLEN : Hid ((putT wd (([numT n] ++ textTL (k.take i)) ++ [textT t])).size ≤ 70368744177664) := by
          rw [← HT3.out]
          refine Nat.le_trans ?_ HSZ2.out
          have h2 : [numT n] ++ textTL k = ([numT n] ++ textTL (k.take (i + 1))) ++ textTL (k.drop (i + 1)) := by
            rw [textTL_map, textTL_map, textTL_map, List.append_assoc, ← List.map_append, List.take_append_drop]
          rw [h2]
          exact putT_mono _ _ _
        clear hti htk ht hbr
        have hsz : (putT wd ([numT n] ++ textTL (k.take i)) ++ sepT ([numT n] ++ textTL (k.take i)) ++ textT t).size ≤ 70368744177664 := by rw [← putT_snoc]; exact HLEN.out
        have hsn := putT_snoc wd ([numT n] ++ textTL (k.take i)) (textT t)
        have HSN : Hid (putT wd ([numT n] ++ textTL (k.take (i + 1))) = putT wd ([numT n] ++ textTL (k.take i)) ++ sepT ([numT n] ++ textTL (k.take i)) ++ textT t) := by show _ = _; rw [HT3.out, putT_snoc]
        have HSP : Hid (sepT ([numT n] ++ textTL (k.take (i + 1))) = ⟨#[44]⟩) := by show _ = _; rw [HT3.out, sepT_snoc]
        clear hsn HT3 HLEN
        obtain ⟨A, hA⟩ : ∃ A, putT wd ([numT n] ++ textTL (k.take i)) = A := ⟨_, rfl⟩
        obtain ⟨B, hB⟩ : ∃ B, sepT ([numT n] ++ textTL (k.take i)) = B := ⟨_, rfl⟩
        obtain ⟨X, hX⟩ : ∃ X, textT t = X := ⟨_, rfl⟩
        rw [hA, hB, hX] at hsz HSN
        rw [hA, hB]
        have HCX : Hid (∀ (w : World) (v : Value), TIn w 0 t v → Calls Tryd.prog 38 #[v] w fun e w' => e = .returned (.string X) ∧ Below w.heap.size w w') := by
          show ∀ _, _
          have h := HIH0.out t HM.out (by rw [hX]; rw [ByteArray.size_append] at hsz; omega)
          rw [hX] at h
          exact h
        clear hA hB hX
        rw [ByteArray.size_append] at hsz
        have hs1 : (A ++ B).size ≤ 70368744177664 := by omega
        have hs2 := hs1
        rw [ByteArray.size_append] at hs2
        go_wp2_with fail
        refine (HCX.out wr _ HTI.out).mono ?_
        rintro e w4 ⟨rfl, hb4⟩
        have HB4 := hidIn (HBR.out.trans (hb4.mono HBR.out.size))
        clear hb4 c0 c1 c2 c3 g3 HTI
        go_wp2_with fail
        go_roundw
        case rel => exact ⟨i + 1, by omega, by go_num, by rw [HSN.out], by first | (rw [HSP.out]; done) | (rw [HSP.out]; rfl), HB4.out⟩
        case measure => simp [intOf]; omega
      · have hle : i = k.length := by omega
        subst hle
        rw [List.take_length]
        have hsz := HSZ2.out
        have HPJ := hidIn (putT_join wd ([numT n] ++ textTL k))
        obtain ⟨A, hA⟩ : ∃ A, putT wd ([numT n] ++ textTL k) = A := ⟨_, rfl⟩
        rw [hA] at hsz HPJ
        rw [hA]
        clear hA
        go_wp2_with fail
        go_ret
        exact ⟨by rw [HE.out, ← HPJ.out]; rfl, HB.out.trans (HBR.out.mono HB.out.size)⟩
  have HH : Hid (headP kind s n = []) := by show _ = _; unfold headP; rw [if_neg (by omega), if_neg h7]
  rw [HH.out] at HSZ2 HE HHS
  have HS0 : Hid (wd ++ ⟨#[40]⟩ = putT wd []) := HP0.out
  have HSP0 : Hid ((⟨#[]⟩ : ByteArray) = sepT []) := rfl
  have HBX := HB1
  have q2 : (kind == 2) = false := by simp [h2]
  have q5 : (kind == 5) = false := by simp [h5]
  have q12 : (kind == 12) = false := by simp [h12]
  have q7 : (kind == 7) = false := by simp [h7]
  have g3 := HG3.out w1 HBX.out
  go_wp2_with fail
  clear g3
  rw [HS0.out, HSP0.out]
  go_loopw [47, 3, 4] (fun s47 s3 s4 wr => ∃ i : Nat, i ≤ k.length ∧ s47 = .int .i64 i ∧ s3 = .string (putT wd (([] : List ByteArray) ++ textTL (k.take i))) ∧ s4 = .string (sepT (([] : List ByteArray) ++ textTL (k.take i))) ∧ Below W.heap.size W wr) (fun s47 _ _ _ => k.length - (intOf s47).toNat)
  case atStart => exact ⟨0, by omega, rfl, by simp [textTL], by simp [textTL], HBX.out⟩
  case round =>
    clear HBX HS0 HSP0
    obtain ⟨i, hi, rfl, rfl, rfl, hbr⟩ := hrel
    have HBR := hidIn hbr
    by_cases hlt : i < k.length
    · have hlt' : (i : Int) < (k.length : Int) := by omega
      obtain ⟨t, hti⟩ : ∃ t, k[i]? = some t := ⟨_, List.getElem?_eq_getElem hlt⟩
      obtain ⟨b, o, ka, ca, rfl, c0, c1, c2, c3, ht⟩ := (HKW.out.below hbr).cells hti
      have g3 := HG3.out wr hbr
      have HM : Hid (t ∈ k) := List.mem_of_getElem? hti
      have HTI := hidIn ht
      have htk := take_more _ _ _ hti
      have HT3 : Hid (([] : List ByteArray) ++ textTL (k.take (i + 1)) = (([] : List ByteArray) ++ textTL (k.take i)) ++ [textT t]) := by show _ = _; rw [htk, textTL_map, textTL_map, List.map_append, List.append_assoc]; rfl
      have HLEN : Hid ((putT wd ((([] : List ByteArray) ++ textTL (k.take i)) ++ [textT t])).size ≤ 70368744177664) := by
        rw [← HT3.out]
        refine Nat.le_trans ?_ HSZ2.out
        have h2 : ([] : List ByteArray) ++ textTL k = (([] : List ByteArray) ++ textTL (k.take (i + 1))) ++ textTL (k.drop (i + 1)) := by
          rw [textTL_map, textTL_map, textTL_map, List.append_assoc, ← List.map_append, List.take_append_drop]
        rw [h2]
        exact putT_mono _ _ _
      clear hti htk ht hbr
      have hsz : (putT wd (([] : List ByteArray) ++ textTL (k.take i)) ++ sepT (([] : List ByteArray) ++ textTL (k.take i)) ++ textT t).size ≤ 70368744177664 := by rw [← putT_snoc]; exact HLEN.out
      have hsn := putT_snoc wd (([] : List ByteArray) ++ textTL (k.take i)) (textT t)
      have HSN : Hid (putT wd (([] : List ByteArray) ++ textTL (k.take (i + 1))) = putT wd (([] : List ByteArray) ++ textTL (k.take i)) ++ sepT (([] : List ByteArray) ++ textTL (k.take i)) ++ textT t) := by show _ = _; rw [HT3.out, putT_snoc]
      have HSP : Hid (sepT (([] : List ByteArray) ++ textTL (k.take (i + 1))) = ⟨#[44]⟩) := by show _ = _; rw [HT3.out, sepT_snoc]
      clear hsn HT3 HLEN
      obtain ⟨A, hA⟩ : ∃ A, putT wd (([] : List ByteArray) ++ textTL (k.take i)) = A := ⟨_, rfl⟩
      obtain ⟨B, hB⟩ : ∃ B, sepT (([] : List ByteArray) ++ textTL (k.take i)) = B := ⟨_, rfl⟩
      obtain ⟨X, hX⟩ : ∃ X, textT t = X := ⟨_, rfl⟩
      rw [hA, hB, hX] at hsz HSN
      rw [hA, hB]
      have HCX : Hid (∀ (w : World) (v : Value), TIn w 0 t v → Calls Tryd.prog 38 #[v] w fun e w' => e = .returned (.string X) ∧ Below w.heap.size w w') := by
        show ∀ _, _
        have h := HIH0.out t HM.out (by rw [hX]; rw [ByteArray.size_append] at hsz; omega)
        rw [hX] at h
        exact h
      clear hA hB hX
      rw [ByteArray.size_append] at hsz
      have hs1 : (A ++ B).size ≤ 70368744177664 := by omega
      have hs2 := hs1
      rw [ByteArray.size_append] at hs2
      go_wp2_with fail
      refine (HCX.out wr _ HTI.out).mono ?_
      rintro e w4 ⟨rfl, hb4⟩
      have HB4 := hidIn (HBR.out.trans (hb4.mono HBR.out.size))
      clear hb4 c0 c1 c2 c3 g3 HTI
      go_wp2_with fail
      go_roundw
      case rel => exact ⟨i + 1, by omega, by go_num, by rw [HSN.out], by first | (rw [HSP.out]; done) | (rw [HSP.out]; rfl), HB4.out⟩
      case measure => simp [intOf]; omega
    · have hle : i = k.length := by omega
      subst hle
      rw [List.take_length]
      have hsz := HSZ2.out
      have HPJ := hidIn (putT_join wd (([] : List ByteArray) ++ textTL k))
      obtain ⟨A, hA⟩ : ∃ A, putT wd (([] : List ByteArray) ++ textTL k) = A := ⟨_, rfl⟩
      rw [hA] at hsz HPJ
      rw [hA]
      clear hA
      go_wp2_with fail
      go_ret
      exact ⟨by rw [HE.out, ← HPJ.out]; rfl, HB.out.trans (HBR.out.mono HB.out.size)⟩


end Go.Proofs.YtagjbbdpenbcoaaDoor
