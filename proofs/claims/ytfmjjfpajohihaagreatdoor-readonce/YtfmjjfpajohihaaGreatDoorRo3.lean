/- The document's own answer: a tree's text. -/
import Derived.Test.YtfmjjfpajohihaaGreatDoorRo2
import Derived.Test.YtfmjjfpajohihaaGreatDoorRefT
import Derived.Test.YtfmjjfpajohihaaGreatDoorFormA
import Derived.Test.YtfmjjfpajohihaaGreatDoorRo1
import Derived.Test.YtfmjjfpajohihaaGreatDoorRefO
import Derived.Test.YtfmjjfpajohihaaGreatDoorMakerC1
import Derived.Test.YtfmjjfpajohihaaGreatDoorMakerC2
import Derived.Test.YtfmjjfpajohihaaGreatDoorMakerC4
import Derived.Test.YtfmjjfpajohihaaGreatDoorMakerC5
import Derived.Test.YtfmjjfpajohihaaGreatDoorMakerC6
import Derived.Test.YtfmjjfpajohihaaGreatDoorTermSize
import Derived.Test.YtfmjjfpajohihaaGreatDoorTermP
namespace Go.Proofs.YtfmjjfpajohihaaGreatDoor
open Go.RowKit
set_option linter.unusedVariables false

/-- The word of a kind. -/
def wordB (k : Int) : ByteArray := ([⟨#[]⟩, ⟨#[122, 101, 114, 111]⟩, ⟨#[111, 110, 101]⟩, ⟨#[103, 105, 118, 101]⟩, ⟨#[97, 110, 100]⟩, ⟨#[111, 114]⟩, ⟨#[115, 99, 97, 108, 101]⟩, ⟨#[119, 104, 101, 110]⟩, ⟨#[105, 102]⟩, ⟨#[]⟩, ⟨#[]⟩, ⟨#[]⟩, ⟨#[102, 105, 120]⟩, ⟨#[97, 100, 100]⟩, ⟨#[110, 101, 103]⟩, ⟨#[109, 117, 108]⟩, ⟨#[109, 97, 120]⟩] : List ByteArray).getD k.toNat ⟨#[]⟩
theorem wordB_size : ∀ k : Nat, k < 17 → (wordB k).size ≤ 5 := by decide +kernel

set_option maxHeartbeats 1000000 in
set_option maxRecDepth 100000 in
theorem word_0 (w : World) : Calls Tryz.prog 62 #[.int .i64 0] w fun e w' => e = .returned (.string (wordB 0)) ∧ Below w.heap.size w w' := by
  go_enter Tryz.func62, Tryz.ntmps62
  go_wp2_with fail
  go_ret
  exact ⟨rfl, below_alloc (Below.refl _ _) _⟩
set_option maxHeartbeats 1000000 in
set_option maxRecDepth 100000 in
theorem word_1 (w : World) : Calls Tryz.prog 62 #[.int .i64 1] w fun e w' => e = .returned (.string (wordB 1)) ∧ Below w.heap.size w w' := by
  go_enter Tryz.func62, Tryz.ntmps62
  go_wp2_with fail
  go_ret
  exact ⟨rfl, below_alloc (Below.refl _ _) _⟩
set_option maxHeartbeats 1000000 in
set_option maxRecDepth 100000 in
theorem word_2 (w : World) : Calls Tryz.prog 62 #[.int .i64 2] w fun e w' => e = .returned (.string (wordB 2)) ∧ Below w.heap.size w w' := by
  go_enter Tryz.func62, Tryz.ntmps62
  go_wp2_with fail
  go_ret
  exact ⟨rfl, below_alloc (Below.refl _ _) _⟩
set_option maxHeartbeats 1000000 in
set_option maxRecDepth 100000 in
theorem word_3 (w : World) : Calls Tryz.prog 62 #[.int .i64 3] w fun e w' => e = .returned (.string (wordB 3)) ∧ Below w.heap.size w w' := by
  go_enter Tryz.func62, Tryz.ntmps62
  go_wp2_with fail
  go_ret
  exact ⟨rfl, below_alloc (Below.refl _ _) _⟩
set_option maxHeartbeats 1000000 in
set_option maxRecDepth 100000 in
theorem word_4 (w : World) : Calls Tryz.prog 62 #[.int .i64 4] w fun e w' => e = .returned (.string (wordB 4)) ∧ Below w.heap.size w w' := by
  go_enter Tryz.func62, Tryz.ntmps62
  go_wp2_with fail
  go_ret
  exact ⟨rfl, below_alloc (Below.refl _ _) _⟩
set_option maxHeartbeats 1000000 in
set_option maxRecDepth 100000 in
theorem word_5 (w : World) : Calls Tryz.prog 62 #[.int .i64 5] w fun e w' => e = .returned (.string (wordB 5)) ∧ Below w.heap.size w w' := by
  go_enter Tryz.func62, Tryz.ntmps62
  go_wp2_with fail
  go_ret
  exact ⟨rfl, below_alloc (Below.refl _ _) _⟩
set_option maxHeartbeats 1000000 in
set_option maxRecDepth 100000 in
theorem word_6 (w : World) : Calls Tryz.prog 62 #[.int .i64 6] w fun e w' => e = .returned (.string (wordB 6)) ∧ Below w.heap.size w w' := by
  go_enter Tryz.func62, Tryz.ntmps62
  go_wp2_with fail
  go_ret
  exact ⟨rfl, below_alloc (Below.refl _ _) _⟩
set_option maxHeartbeats 1000000 in
set_option maxRecDepth 100000 in
theorem word_7 (w : World) : Calls Tryz.prog 62 #[.int .i64 7] w fun e w' => e = .returned (.string (wordB 7)) ∧ Below w.heap.size w w' := by
  go_enter Tryz.func62, Tryz.ntmps62
  go_wp2_with fail
  go_ret
  exact ⟨rfl, below_alloc (Below.refl _ _) _⟩
set_option maxHeartbeats 1000000 in
set_option maxRecDepth 100000 in
theorem word_8 (w : World) : Calls Tryz.prog 62 #[.int .i64 8] w fun e w' => e = .returned (.string (wordB 8)) ∧ Below w.heap.size w w' := by
  go_enter Tryz.func62, Tryz.ntmps62
  go_wp2_with fail
  go_ret
  exact ⟨rfl, below_alloc (Below.refl _ _) _⟩
set_option maxHeartbeats 1000000 in
set_option maxRecDepth 100000 in
theorem word_9 (w : World) : Calls Tryz.prog 62 #[.int .i64 9] w fun e w' => e = .returned (.string (wordB 9)) ∧ Below w.heap.size w w' := by
  go_enter Tryz.func62, Tryz.ntmps62
  go_wp2_with fail
  go_ret
  exact ⟨rfl, below_alloc (Below.refl _ _) _⟩
set_option maxHeartbeats 1000000 in
set_option maxRecDepth 100000 in
theorem word_10 (w : World) : Calls Tryz.prog 62 #[.int .i64 10] w fun e w' => e = .returned (.string (wordB 10)) ∧ Below w.heap.size w w' := by
  go_enter Tryz.func62, Tryz.ntmps62
  go_wp2_with fail
  go_ret
  exact ⟨rfl, below_alloc (Below.refl _ _) _⟩
set_option maxHeartbeats 1000000 in
set_option maxRecDepth 100000 in
theorem word_11 (w : World) : Calls Tryz.prog 62 #[.int .i64 11] w fun e w' => e = .returned (.string (wordB 11)) ∧ Below w.heap.size w w' := by
  go_enter Tryz.func62, Tryz.ntmps62
  go_wp2_with fail
  go_ret
  exact ⟨rfl, below_alloc (Below.refl _ _) _⟩
set_option maxHeartbeats 1000000 in
set_option maxRecDepth 100000 in
theorem word_12 (w : World) : Calls Tryz.prog 62 #[.int .i64 12] w fun e w' => e = .returned (.string (wordB 12)) ∧ Below w.heap.size w w' := by
  go_enter Tryz.func62, Tryz.ntmps62
  go_wp2_with fail
  go_ret
  exact ⟨rfl, below_alloc (Below.refl _ _) _⟩
set_option maxHeartbeats 1000000 in
set_option maxRecDepth 100000 in
theorem word_13 (w : World) : Calls Tryz.prog 62 #[.int .i64 13] w fun e w' => e = .returned (.string (wordB 13)) ∧ Below w.heap.size w w' := by
  go_enter Tryz.func62, Tryz.ntmps62
  go_wp2_with fail
  go_ret
  exact ⟨rfl, below_alloc (Below.refl _ _) _⟩
set_option maxHeartbeats 1000000 in
set_option maxRecDepth 100000 in
theorem word_14 (w : World) : Calls Tryz.prog 62 #[.int .i64 14] w fun e w' => e = .returned (.string (wordB 14)) ∧ Below w.heap.size w w' := by
  go_enter Tryz.func62, Tryz.ntmps62
  go_wp2_with fail
  go_ret
  exact ⟨rfl, below_alloc (Below.refl _ _) _⟩
set_option maxHeartbeats 1000000 in
set_option maxRecDepth 100000 in
theorem word_15 (w : World) : Calls Tryz.prog 62 #[.int .i64 15] w fun e w' => e = .returned (.string (wordB 15)) ∧ Below w.heap.size w w' := by
  go_enter Tryz.func62, Tryz.ntmps62
  go_wp2_with fail
  go_ret
  exact ⟨rfl, below_alloc (Below.refl _ _) _⟩
set_option maxHeartbeats 1000000 in
set_option maxRecDepth 100000 in
theorem word_16 (w : World) : Calls Tryz.prog 62 #[.int .i64 16] w fun e w' => e = .returned (.string (wordB 16)) ∧ Below w.heap.size w w' := by
  go_enter Tryz.func62, Tryz.ntmps62
  go_wp2_with fail
  go_ret
  exact ⟨rfl, below_alloc (Below.refl _ _) _⟩
theorem word_any (k : Int) (h0 : 0 ≤ k) (hk : k ≤ 16) (w : World) : Calls Tryz.prog 62 #[.int .i64 k] w fun e w' => e = .returned (.string (wordB k)) ∧ Below w.heap.size w w' := by
  have h : k = 0 ∨ k = 1 ∨ k = 2 ∨ k = 3 ∨ k = 4 ∨ k = 5 ∨ k = 6 ∨ k = 7 ∨ k = 8 ∨ k = 9 ∨ k = 10 ∨ k = 11 ∨ k = 12 ∨ k = 13 ∨ k = 14 ∨ k = 15 ∨ k = 16 := by omega
  rcases h with rfl | rfl | rfl | rfl | rfl | rfl | rfl | rfl | rfl | rfl | rfl | rfl | rfl | rfl | rfl | rfl | rfl
  · exact word_0 w
  · exact word_1 w
  · exact word_2 w
  · exact word_3 w
  · exact word_4 w
  · exact word_5 w
  · exact word_6 w
  · exact word_7 w
  · exact word_8 w
  · exact word_9 w
  · exact word_10 w
  · exact word_11 w
  · exact word_12 w
  · exact word_13 w
  · exact word_14 w
  · exact word_15 w
  · exact word_16 w

/-- What stands in a tree's text ahead of its parts. -/
def headP (kind : Int) (s : ByteArray) (n : Int) : List ByteArray := if kind = 2 ∨ kind = 5 ∨ kind = 12 then [s] else if kind = 7 then [numT n] else []
mutual
/-- A tree's text. -/
def textT : T → ByteArray
  | .mk kind s n k => if kind = 11 then numT n else if kind = 1 then ⟨#[122, 101, 114, 111]⟩ else joinT (wordB kind) (headP kind s n ++ textTL k)
def textTL : List T → List ByteArray
  | [] => []
  | t :: l => textT t :: textTL l
end
mutual
/-- A tree whose kinds are some, whose numbers have 64 bits. -/
def T.wk : T → Prop
  | .mk kind s n k => (0 ≤ kind ∧ kind ≤ 16) ∧ (-9223372036854775808 ≤ n ∧ n ≤ 9223372036854775807) ∧ wkL k
def wkL : List T → Prop
  | [] => True
  | t :: l => t.wk ∧ wkL l
end
theorem wkL_mem : ∀ {l : List T}, wkL l → ∀ t ∈ l, t.wk := by
  intro l
  induction l with
  | nil => intro _ t h; cases h
  | cons a l ih =>
    intro h t ht
    unfold wkL at h
    rcases List.mem_cons.1 ht with rfl | ht
    · exact h.1
    · exact ih h.2 t ht
theorem textTL_map (l : List T) : textTL l = l.map textT := by
  induction l with
  | nil => simp [textTL]
  | cons a l ih => simp [textTL, ih]
/-- The parts put together, from the word on. -/
def putT (word : ByteArray) (xs : List ByteArray) : ByteArray := word ++ ⟨#[40]⟩ ++ ⟨(Lib.join (xs.map (·.data.toList)) [44]).toArray⟩
def sepT (xs : List ByteArray) : ByteArray := if xs = [] then ⟨#[]⟩ else ⟨#[44]⟩
theorem joinTail_snoc (sep : List UInt8) (r : List (List UInt8)) (x : List UInt8) : Lib.joinTail sep (r ++ [x]) = Lib.joinTail sep r ++ (sep ++ x) := by
  simp [Lib.joinTail]
theorem ba_ext {a b : ByteArray} (h : a.data.toList = b.data.toList) : a = b := by
  cases a with | mk a => cases b with | mk b => simp only [ByteArray.mk.injEq]; exact Array.toList_inj.1 h
theorem ba_app (a b : ByteArray) : (a ++ b).data.toList = a.data.toList ++ b.data.toList := by simp
theorem putT_snoc (word : ByteArray) (xs : List ByteArray) (x : ByteArray) : putT word (xs ++ [x]) = putT word xs ++ sepT xs ++ x := by
  apply ba_ext
  unfold putT
  simp only [ba_app]
  cases xs with
  | nil => simp [sepT, Lib.join_one, Lib.join_nil]
  | cons a r =>
    rw [sepT, if_neg (by simp)]
    simp only [List.cons_append, List.map_cons, List.map_append, List.map_nil, Lib.join_cons, joinTail_snoc, List.append_assoc]
theorem sepT_snoc (xs : List ByteArray) (x : ByteArray) : sepT (xs ++ [x]) = ⟨#[44]⟩ := by rw [sepT, if_neg (by simp)]
theorem putT_size (word : ByteArray) (xs : List ByteArray) : (putT word xs).size = word.size + 1 + (Lib.join (xs.map (·.data.toList)) [44]).length := by
  have e1 : (ByteArray.mk #[40]).size = 1 := rfl
  have e3 : (ByteArray.mk (Lib.join (xs.map (·.data.toList)) [44]).toArray).size = (Lib.join (xs.map (·.data.toList)) [44]).length := by simp [ByteArray.size]
  unfold putT
  rw [ByteArray.size_append, ByteArray.size_append, e1, e3]
theorem putT_join (word : ByteArray) (xs : List ByteArray) : putT word xs ++ ⟨#[41]⟩ = joinT word xs := rfl
theorem putT_mono (word : ByteArray) (xs ys : List ByteArray) : (putT word xs).size ≤ (putT word (xs ++ ys)).size := by
  induction ys generalizing xs with
  | nil => simp
  | cons y ys ih =>
    have h := ih (xs ++ [y])
    rw [List.append_assoc] at h
    have h2 : (putT word (xs ++ [y])).size = (putT word xs).size + (sepT xs).size + y.size := by rw [putT_snoc, ByteArray.size_append, ByteArray.size_append]
    have h3 : xs ++ ([y] ++ ys) = xs ++ y :: ys := by simp
    rw [h3] at h
    omega

set_option maxHeartbeats 4000000 in
set_option maxRecDepth 100000 in
theorem refText_any (t : T) : t.wk → (textT t).size ≤ 70368744177664 → ∀ (w : World) (v : Value), TIn w 0 t v → Calls Tryz.prog 34 #[v] w fun e w' => e = .returned (.string (textT t)) ∧ Below w.heap.size w w' := by
  induction t using T.ind with
  | _ kind s n k ih =>
  intro hwk hsz w v hv
  have hkl := len_cap hv
  obtain ⟨a, cap, rfl, hc1, hc2, hK⟩ := hv
  simp only [T.kind, T.s, T.n, T.k] at hc1 hK hkl ⊢
  have hwk' := hwk
  unfold T.wk at hwk'
  obtain ⟨⟨hk0, hk16⟩, ⟨hn0, hn1⟩, hwl⟩ := hwk'
  have HNB : Hid (-9223372036854775808 ≤ n ∧ n ≤ 9223372036854775807) := ⟨hn0, hn1⟩
  have HTT : Hid (textT (.mk kind s n k) = if kind = 11 then numT n else if kind = 1 then ⟨#[122, 101, 114, 111]⟩ else joinT (wordB kind) (headP kind s n ++ textTL k)) := by show _ = _; rw [textT]
  have HIH0 : Hid (∀ t ∈ k, (textT t).size ≤ 70368744177664 → ∀ (w : World) (v : Value), TIn w 0 t v → Calls Tryz.prog 34 #[v] w fun e w' => e = .returned (.string (textT t)) ∧ Below w.heap.size w w') := fun t ht => ih t ht (wkL_mem hwl t ht)
  have HK := hidIn hK
  have HSZ := hidIn hsz
  clear ih hK hwk hwl hn0 hn1 hsz
  go_enter Tryz.func34, Tryz.ntmps34
  by_cases h11 : kind = 11
  · have HE : Hid (textT (.mk kind s n k) = numT n) := by show _ = _; rw [HTT.out, if_pos h11]
    subst h11
    go_wp2_with fail
    refine (digAny n HNB.out.1 HNB.out.2 _).mono ?_
    rintro e w1 ⟨rfl, hb1⟩
    go_wp2_with fail
    go_ret
    exact ⟨by rw [HE.out]; rfl, (below_alloc (Below.refl _ _) _).trans (hb1.mono (by simp))⟩
  by_cases h1 : kind = 1
  · have HE : Hid (textT (.mk kind s n k) = ⟨#[122, 101, 114, 111]⟩) := by show _ = _; rw [HTT.out, if_neg h11, if_pos h1]
    subst h1
    go_wp2_with fail
    go_ret
    exact ⟨by rw [HE.out]; rfl, below_alloc (Below.refl _ _) _⟩
  have HE : Hid (textT (.mk kind s n k) = joinT (wordB kind) (headP kind s n ++ textTL k)) := by show _ = _; rw [HTT.out, if_neg h11, if_neg h1]
  have HW : Hid ((wordB kind).size ≤ 5) := by have := wordB_size kind.toNat (by omega); rw [Int.toNat_of_nonneg hk0] at this; exact this
  have HSZ2 : Hid ((putT (wordB kind) (headP kind s n ++ textTL k)).size ≤ 70368744177664) := by
    have h := HSZ.out
    rw [HE.out, ← putT_join, ByteArray.size_append] at h
    show _ ≤ _
    omega
  have HWD := hidIn (word_any kind hk0 hk16)
  clear HTT HSZ
  have h11' : (kind == 11) = false := by simp [h11]
  have h1' : (kind == 1) = false := by simp [h1]
  go_wp2_with fail
  obtain ⟨W, hW⟩ : ∃ W, W = w.alloc (.cells #[.int .i64 kind, .string s, .int .i64 n, .slice a k.length cap] 44) := ⟨_, rfl⟩
  have HB : Hid (Below w.heap.size w W) := by rw [hW]; exact below_alloc (Below.refl _ _) _
  have HBK : Hid (W.heap[w.heap.size]? = some (.cells #[.int .i64 kind, .string s, .int .i64 n, .slice a k.length cap] 44 (0, 0))) := by rw [hW]; exact heap_alloc_new _ _
  rw [← hW]
  clear hW
  refine (HWD.out _).mono ?_
  rintro e w1 ⟨rfl, hb1⟩
  have HB1 := hidIn hb1
  have HG0 : Hid (∀ X, Below W.heap.size W X → X.cell? ⟨w.heap.size, 0, none⟩ = some (.int .i64 kind)) := fun X hX => (cell_of_row _ _ _ _ _ _ ((hX.block _ (Array.getElem?_eq_some_iff.1 HBK.out).1).trans HBK.out)).trans rfl
  have HG1 : Hid (∀ X, Below W.heap.size W X → X.cell? ⟨w.heap.size, 1, none⟩ = some (.string s)) := fun X hX => (cell_of_row _ _ _ _ _ _ ((hX.block _ (Array.getElem?_eq_some_iff.1 HBK.out).1).trans HBK.out)).trans rfl
  have HG2 : Hid (∀ X, Below W.heap.size W X → X.cell? ⟨w.heap.size, 2, none⟩ = some (.int .i64 n)) := fun X hX => (cell_of_row _ _ _ _ _ _ ((hX.block _ (Array.getElem?_eq_some_iff.1 HBK.out).1).trans HBK.out)).trans rfl
  have HG3 : Hid (∀ X, Below W.heap.size W X → X.cell? ⟨w.heap.size, 3, none⟩ = some (.slice a k.length cap)) := fun X hX => (cell_of_row _ _ _ _ _ _ ((hX.block _ (Array.getElem?_eq_some_iff.1 HBK.out).1).trans HBK.out)).trans rfl
  have HKW : Hid (KAt W 0 k a 0) := HK.out.below HB.out
  clear HBK HK hb1
  obtain ⟨wd, hwd⟩ : ∃ wd, wordB kind = wd := ⟨_, rfl⟩
  rw [hwd] at HW HSZ2 HE
  rw [hwd]
  clear hwd HWD
  have hw5 := HW.out
  have g0 := HG0.out w1 HB1.out
  have g1 := HG1.out w1 HB1.out
  have g2 := HG2.out w1 HB1.out
  have hws : (wd ++ (⟨#[40]⟩ : ByteArray)).size = wd.size + 1 := by rw [ByteArray.size_append]; rfl
  have HHS : Hid ((putT wd (headP kind s n)).size ≤ 70368744177664) := Nat.le_trans (putT_mono wd (headP kind s n) (textTL k)) HSZ2.out
  have HP0 : Hid (wd ++ ⟨#[40]⟩ = putT wd []) := by apply ba_ext; unfold putT; simp [Lib.join_nil]
  by_cases h2 : kind = 2
  · have HH : Hid (headP kind s n = [s]) := by show _ = _; unfold headP; rw [if_pos (by omega)]
    rw [HH.out] at HSZ2 HE HHS
    have hhs := HHS.out
    rw [show putT wd [s] = wd ++ ⟨#[40]⟩ ++ s from by rw [show [s] = [] ++ [s] from rfl, putT_snoc, ← HP0.out]; apply ba_ext; simp [sepT]] at hhs
    have hs3 := hhs
    rw [ByteArray.size_append] at hs3
    have HS0 : Hid (wd ++ ⟨#[40]⟩ ++ s = putT wd [s]) := by show _ = _; rw [show [s] = [] ++ [s] from rfl, putT_snoc, ← HP0.out]; apply ba_ext; simp [sepT]
    have HSP0 : Hid ((⟨#[44]⟩ : ByteArray) = sepT [s]) := rfl
    have HBX := HB1
    subst h2
    have g3 := HG3.out w1 HBX.out
    go_wp2_with fail
    clear g3
    rw [HS0.out, HSP0.out]
    go_loopw [47, 3, 4] (fun s47 s3 s4 wr => ∃ i : Nat, i ≤ k.length ∧ s47 = .int .i64 i ∧ s3 = .string (putT wd ([s] ++ textTL (k.take i))) ∧ s4 = .string (sepT ([s] ++ textTL (k.take i))) ∧ Below W.heap.size W wr) (fun s47 _ _ _ => k.length - (intOf s47).toNat)
    case atStart => exact ⟨0, by omega, rfl, by simp [textTL], by simp [textTL], HBX.out⟩
    case round =>
      clear HBX HS0 HSP0
      obtain ⟨i, hi, rfl, rfl, rfl, hbr⟩ := hrel
      have HBR := hidIn hbr
      by_cases hlt : i < k.length
      · have hlt' : (i : Int) < (k.length : Int) := by omega
        obtain ⟨t, hti⟩ : ∃ t, k[i]? = some t := ⟨_, List.getElem?_eq_getElem hlt⟩
        obtain ⟨b, o, ka, ca, rfl, c0, c1, c2, c3, ht⟩ := (HKW.out.below hbr).cells hti
        have g3 := HG3.out wr hbr
        have HM : Hid (t ∈ k) := List.mem_of_getElem? hti
        have HTI := hidIn ht
        have htk := take_more _ _ _ hti
        have HT3 : Hid ([s] ++ textTL (k.take (i + 1)) = ([s] ++ textTL (k.take i)) ++ [textT t]) := by show _ = _; rw [htk, textTL_map, textTL_map, List.map_append, List.append_assoc]; rfl
        have HLEN : Hid ((putT wd (([s] ++ textTL (k.take i)) ++ [textT t])).size ≤ 70368744177664) := by
          rw [← HT3.out]
          refine Nat.le_trans ?_ HSZ2.out
          have h2 : [s] ++ textTL k = ([s] ++ textTL (k.take (i + 1))) ++ textTL (k.drop (i + 1)) := by
            rw [textTL_map, textTL_map, textTL_map, List.append_assoc, ← List.map_append, List.take_append_drop]
          rw [h2]
          exact putT_mono _ _ _
        clear hti htk ht hbr
        have hsz : (putT wd ([s] ++ textTL (k.take i)) ++ sepT ([s] ++ textTL (k.take i)) ++ textT t).size ≤ 70368744177664 := by rw [← putT_snoc]; exact HLEN.out
        have hsn := putT_snoc wd ([s] ++ textTL (k.take i)) (textT t)
        have HSN : Hid (putT wd ([s] ++ textTL (k.take (i + 1))) = putT wd ([s] ++ textTL (k.take i)) ++ sepT ([s] ++ textTL (k.take i)) ++ textT t) := by show _ = _; rw [HT3.out, putT_snoc]
        have HSP : Hid (sepT ([s] ++ textTL (k.take (i + 1))) = ⟨#[44]⟩) := by show _ = _; rw [HT3.out, sepT_snoc]
        clear hsn HT3 HLEN
        obtain ⟨A, hA⟩ : ∃ A, putT wd ([s] ++ textTL (k.take i)) = A := ⟨_, rfl⟩
        obtain ⟨B, hB⟩ : ∃ B, sepT ([s] ++ textTL (k.take i)) = B := ⟨_, rfl⟩
        obtain ⟨X, hX⟩ : ∃ X, textT t = X := ⟨_, rfl⟩
        rw [hA, hB, hX] at hsz HSN
        rw [hA, hB]
        have HCX : Hid (∀ (w : World) (v : Value), TIn w 0 t v → Calls Tryz.prog 34 #[v] w fun e w' => e = .returned (.string X) ∧ Below w.heap.size w w') := by
          show ∀ _, _
          have h := HIH0.out t HM.out (by rw [hX]; rw [ByteArray.size_append] at hsz; omega)
          rw [hX] at h
          exact h
        clear hA hB hX
        rw [ByteArray.size_append] at hsz
        have hs1 : (A ++ B).size ≤ 70368744177664 := by omega
        have hs2 := hs1
        rw [ByteArray.size_append] at hs2
        go_wp2_with fail
        refine (HCX.out wr _ HTI.out).mono ?_
        rintro e w4 ⟨rfl, hb4⟩
        have HB4 := hidIn (HBR.out.trans (hb4.mono HBR.out.size))
        clear hb4 c0 c1 c2 c3 g3 HTI
        go_wp2_with fail
        go_roundw
        case rel => exact ⟨i + 1, by omega, by go_num, by rw [HSN.out], by first | (rw [HSP.out]; done) | (rw [HSP.out]; rfl), HB4.out⟩
        case measure => simp [intOf]; omega
      · have hle : i = k.length := by omega
        subst hle
        rw [List.take_length]
        have hsz := HSZ2.out
        have HPJ := hidIn (putT_join wd ([s] ++ textTL k))
        obtain ⟨A, hA⟩ : ∃ A, putT wd ([s] ++ textTL k) = A := ⟨_, rfl⟩
        rw [hA] at hsz HPJ
        rw [hA]
        clear hA
        go_wp2_with fail
        go_ret
        exact ⟨by rw [HE.out, ← HPJ.out]; rfl, HB.out.trans (HBR.out.mono HB.out.size)⟩
  by_cases h5 : kind = 5
  · have HH : Hid (headP kind s n = [s]) := by show _ = _; unfold headP; rw [if_pos (by omega)]
    rw [HH.out] at HSZ2 HE HHS
    have hhs := HHS.out
    rw [show putT wd [s] = wd ++ ⟨#[40]⟩ ++ s from by rw [show [s] = [] ++ [s] from rfl, putT_snoc, ← HP0.out]; apply ba_ext; simp [sepT]] at hhs
    have hs3 := hhs
    rw [ByteArray.size_append] at hs3
    have HS0 : Hid (wd ++ ⟨#[40]⟩ ++ s = putT wd [s]) := by show _ = _; rw [show [s] = [] ++ [s] from rfl, putT_snoc, ← HP0.out]; apply ba_ext; simp [sepT]
    have HSP0 : Hid ((⟨#[44]⟩ : ByteArray) = sepT [s]) := rfl
    have HBX := HB1
    subst h5
    have g3 := HG3.out w1 HBX.out
    go_wp2_with fail
    clear g3
    rw [HS0.out, HSP0.out]
    go_loopw [47, 3, 4] (fun s47 s3 s4 wr => ∃ i : Nat, i ≤ k.length ∧ s47 = .int .i64 i ∧ s3 = .string (putT wd ([s] ++ textTL (k.take i))) ∧ s4 = .string (sepT ([s] ++ textTL (k.take i))) ∧ Below W.heap.size W wr) (fun s47 _ _ _ => k.length - (intOf s47).toNat)
    case atStart => exact ⟨0, by omega, rfl, by simp [textTL], by simp [textTL], HBX.out⟩
    case round =>
      clear HBX HS0 HSP0
      obtain ⟨i, hi, rfl, rfl, rfl, hbr⟩ := hrel
      have HBR := hidIn hbr
      by_cases hlt : i < k.length
      · have hlt' : (i : Int) < (k.length : Int) := by omega
        obtain ⟨t, hti⟩ : ∃ t, k[i]? = some t := ⟨_, List.getElem?_eq_getElem hlt⟩
        obtain ⟨b, o, ka, ca, rfl, c0, c1, c2, c3, ht⟩ := (HKW.out.below hbr).cells hti
        have g3 := HG3.out wr hbr
        have HM : Hid (t ∈ k) := List.mem_of_getElem? hti
        have HTI := hidIn ht
        have htk := take_more _ _ _ hti
        have HT3 : Hid ([s] ++ textTL (k.take (i + 1)) = ([s] ++ textTL (k.take i)) ++ [textT t]) := by show _ = _; rw [htk, textTL_map, textTL_map, List.map_append, List.append_assoc]; rfl
        have HLEN : Hid ((putT wd (([s] ++ textTL (k.take i)) ++ [textT t])).size ≤ 70368744177664) := by
          rw [← HT3.out]
          refine Nat.le_trans ?_ HSZ2.out
          have h2 : [s] ++ textTL k = ([s] ++ textTL (k.take (i + 1))) ++ textTL (k.drop (i + 1)) := by
            rw [textTL_map, textTL_map, textTL_map, List.append_assoc, ← List.map_append, List.take_append_drop]
          rw [h2]
          exact putT_mono _ _ _
        clear hti htk ht hbr
        have hsz : (putT wd ([s] ++ textTL (k.take i)) ++ sepT ([s] ++ textTL (k.take i)) ++ textT t).size ≤ 70368744177664 := by rw [← putT_snoc]; exact HLEN.out
        have hsn := putT_snoc wd ([s] ++ textTL (k.take i)) (textT t)
        have HSN : Hid (putT wd ([s] ++ textTL (k.take (i + 1))) = putT wd ([s] ++ textTL (k.take i)) ++ sepT ([s] ++ textTL (k.take i)) ++ textT t) := by show _ = _; rw [HT3.out, putT_snoc]
        have HSP : Hid (sepT ([s] ++ textTL (k.take (i + 1))) = ⟨#[44]⟩) := by show _ = _; rw [HT3.out, sepT_snoc]
        clear hsn HT3 HLEN
        obtain ⟨A, hA⟩ : ∃ A, putT wd ([s] ++ textTL (k.take i)) = A := ⟨_, rfl⟩
        obtain ⟨B, hB⟩ : ∃ B, sepT ([s] ++ textTL (k.take i)) = B := ⟨_, rfl⟩
        obtain ⟨X, hX⟩ : ∃ X, textT t = X := ⟨_, rfl⟩
        rw [hA, hB, hX] at hsz HSN
        rw [hA, hB]
        have HCX : Hid (∀ (w : World) (v : Value), TIn w 0 t v → Calls Tryz.prog 34 #[v] w fun e w' => e = .returned (.string X) ∧ Below w.heap.size w w') := by
          show ∀ _, _
          have h := HIH0.out t HM.out (by rw [hX]; rw [ByteArray.size_append] at hsz; omega)
          rw [hX] at h
          exact h
        clear hA hB hX
        rw [ByteArray.size_append] at hsz
        have hs1 : (A ++ B).size ≤ 70368744177664 := by omega
        have hs2 := hs1
        rw [ByteArray.size_append] at hs2
        go_wp2_with fail
        refine (HCX.out wr _ HTI.out).mono ?_
        rintro e w4 ⟨rfl, hb4⟩
        have HB4 := hidIn (HBR.out.trans (hb4.mono HBR.out.size))
        clear hb4 c0 c1 c2 c3 g3 HTI
        go_wp2_with fail
        go_roundw
        case rel => exact ⟨i + 1, by omega, by go_num, by rw [HSN.out], by first | (rw [HSP.out]; done) | (rw [HSP.out]; rfl), HB4.out⟩
        case measure => simp [intOf]; omega
      · have hle : i = k.length := by omega
        subst hle
        rw [List.take_length]
        have hsz := HSZ2.out
        have HPJ := hidIn (putT_join wd ([s] ++ textTL k))
        obtain ⟨A, hA⟩ : ∃ A, putT wd ([s] ++ textTL k) = A := ⟨_, rfl⟩
        rw [hA] at hsz HPJ
        rw [hA]
        clear hA
        go_wp2_with fail
        go_ret
        exact ⟨by rw [HE.out, ← HPJ.out]; rfl, HB.out.trans (HBR.out.mono HB.out.size)⟩
  by_cases h12 : kind = 12
  · have HH : Hid (headP kind s n = [s]) := by show _ = _; unfold headP; rw [if_pos (by omega)]
    rw [HH.out] at HSZ2 HE HHS
    have hhs := HHS.out
    rw [show putT wd [s] = wd ++ ⟨#[40]⟩ ++ s from by rw [show [s] = [] ++ [s] from rfl, putT_snoc, ← HP0.out]; apply ba_ext; simp [sepT]] at hhs
    have hs3 := hhs
    rw [ByteArray.size_append] at hs3
    have HS0 : Hid (wd ++ ⟨#[40]⟩ ++ s = putT wd [s]) := by show _ = _; rw [show [s] = [] ++ [s] from rfl, putT_snoc, ← HP0.out]; apply ba_ext; simp [sepT]
    have HSP0 : Hid ((⟨#[44]⟩ : ByteArray) = sepT [s]) := rfl
    have HBX := HB1
    subst h12
    have g3 := HG3.out w1 HBX.out
    go_wp2_with fail
    clear g3
    rw [HS0.out, HSP0.out]
    go_loopw [47, 3, 4] (fun s47 s3 s4 wr => ∃ i : Nat, i ≤ k.length ∧ s47 = .int .i64 i ∧ s3 = .string (putT wd ([s] ++ textTL (k.take i))) ∧ s4 = .string (sepT ([s] ++ textTL (k.take i))) ∧ Below W.heap.size W wr) (fun s47 _ _ _ => k.length - (intOf s47).toNat)
    case atStart => exact ⟨0, by omega, rfl, by simp [textTL], by simp [textTL], HBX.out⟩
    case round =>
      clear HBX HS0 HSP0
      obtain ⟨i, hi, rfl, rfl, rfl, hbr⟩ := hrel
      have HBR := hidIn hbr
      by_cases hlt : i < k.length
      · have hlt' : (i : Int) < (k.length : Int) := by omega
        obtain ⟨t, hti⟩ : ∃ t, k[i]? = some t := ⟨_, List.getElem?_eq_getElem hlt⟩
        obtain ⟨b, o, ka, ca, rfl, c0, c1, c2, c3, ht⟩ := (HKW.out.below hbr).cells hti
        have g3 := HG3.out wr hbr
        have HM : Hid (t ∈ k) := List.mem_of_getElem? hti
        have HTI := hidIn ht
        have htk := take_more _ _ _ hti
        have HT3 : Hid ([s] ++ textTL (k.take (i + 1)) = ([s] ++ textTL (k.take i)) ++ [textT t]) := by show _ = _; rw [htk, textTL_map, textTL_map, List.map_append, List.append_assoc]; rfl
        have HLEN : Hid ((putT wd (([s] ++ textTL (k.take i)) ++ [textT t])).size ≤ 70368744177664) := by
          rw [← HT3.out]
          refine Nat.le_trans ?_ HSZ2.out
          have h2 : [s] ++ textTL k = ([s] ++ textTL (k.take (i + 1))) ++ textTL (k.drop (i + 1)) := by
            rw [textTL_map, textTL_map, textTL_map, List.append_assoc, ← List.map_append, List.take_append_drop]
          rw [h2]
          exact putT_mono _ _ _
        clear hti htk ht hbr
        have hsz : (putT wd ([s] ++ textTL (k.take i)) ++ sepT ([s] ++ textTL (k.take i)) ++ textT t).size ≤ 70368744177664 := by rw [← putT_snoc]; exact HLEN.out
        have hsn := putT_snoc wd ([s] ++ textTL (k.take i)) (textT t)
        have HSN : Hid (putT wd ([s] ++ textTL (k.take (i + 1))) = putT wd ([s] ++ textTL (k.take i)) ++ sepT ([s] ++ textTL (k.take i)) ++ textT t) := by show _ = _; rw [HT3.out, putT_snoc]
        have HSP : Hid (sepT ([s] ++ textTL (k.take (i + 1))) = ⟨#[44]⟩) := by show _ = _; rw [HT3.out, sepT_snoc]
        clear hsn HT3 HLEN
        obtain ⟨A, hA⟩ : ∃ A, putT wd ([s] ++ textTL (k.take i)) = A := ⟨_, rfl⟩
        obtain ⟨B, hB⟩ : ∃ B, sepT ([s] ++ textTL (k.take i)) = B := ⟨_, rfl⟩
        obtain ⟨X, hX⟩ : ∃ X, textT t = X := ⟨_, rfl⟩
        rw [hA, hB, hX] at hsz HSN
        rw [hA, hB]
        have HCX : Hid (∀ (w : World) (v : Value), TIn w 0 t v → Calls Tryz.prog 34 #[v] w fun e w' => e = .returned (.string X) ∧ Below w.heap.size w w') := by
          show ∀ _, _
          have h := HIH0.out t HM.out (by rw [hX]; rw [ByteArray.size_append] at hsz; omega)
          rw [hX] at h
          exact h
        clear hA hB hX
        rw [ByteArray.size_append] at hsz
        have hs1 : (A ++ B).size ≤ 70368744177664 := by omega
        have hs2 := hs1
        rw [ByteArray.size_append] at hs2
        go_wp2_with fail
        refine (HCX.out wr _ HTI.out).mono ?_
        rintro e w4 ⟨rfl, hb4⟩
        have HB4 := hidIn (HBR.out.trans (hb4.mono HBR.out.size))
        clear hb4 c0 c1 c2 c3 g3 HTI
        go_wp2_with fail
        go_roundw
        case rel => exact ⟨i + 1, by omega, by go_num, by rw [HSN.out], by first | (rw [HSP.out]; done) | (rw [HSP.out]; rfl), HB4.out⟩
        case measure => simp [intOf]; omega
      · have hle : i = k.length := by omega
        subst hle
        rw [List.take_length]
        have hsz := HSZ2.out
        have HPJ := hidIn (putT_join wd ([s] ++ textTL k))
        obtain ⟨A, hA⟩ : ∃ A, putT wd ([s] ++ textTL k) = A := ⟨_, rfl⟩
        rw [hA] at hsz HPJ
        rw [hA]
        clear hA
        go_wp2_with fail
        go_ret
        exact ⟨by rw [HE.out, ← HPJ.out]; rfl, HB.out.trans (HBR.out.mono HB.out.size)⟩
  by_cases h7 : kind = 7
  · have HH : Hid (headP kind s n = [numT n]) := by show _ = _; unfold headP; rw [if_neg (by omega), if_pos h7]
    rw [HH.out] at HSZ2 HE HHS
    have hhs := HHS.out
    have HS0 : Hid (wd ++ ⟨#[40]⟩ ++ numT n = putT wd [numT n]) := by show _ = _; rw [show [numT n] = [] ++ [numT n] from rfl, putT_snoc, ← HP0.out]; apply ba_ext; simp [sepT]
    have HSP0 : Hid ((⟨#[44]⟩ : ByteArray) = sepT [numT n]) := rfl
    rw [← HS0.out] at hhs
    have hs3 := hhs
    rw [ByteArray.size_append] at hs3
    subst h7
    go_wp2_with fail
    refine (digAny n HNB.out.1 HNB.out.2 _).mono ?_
    rintro e w2 ⟨rfl, hb2⟩
    have HBX := hidIn (HB1.out.trans (hb2.mono HB1.out.size))
    clear hb2 g0 g1 g2
    have g3 := HG3.out w2 HBX.out
    go_wp2_with fail
    clear g3
    rw [HS0.out, HSP0.out]
    go_loopw [47, 3, 4] (fun s47 s3 s4 wr => ∃ i : Nat, i ≤ k.length ∧ s47 = .int .i64 i ∧ s3 = .string (putT wd ([numT n] ++ textTL (k.take i))) ∧ s4 = .string (sepT ([numT n] ++ textTL (k.take i))) ∧ Below W.heap.size W wr) (fun s47 _ _ _ => k.length - (intOf s47).toNat)
    case atStart => exact ⟨0, by omega, rfl, by simp [textTL], by simp [textTL], HBX.out⟩
    case round =>
      clear HBX HS0 HSP0
      obtain ⟨i, hi, rfl, rfl, rfl, hbr⟩ := hrel
      have HBR := hidIn hbr
      by_cases hlt : i < k.length
      · have hlt' : (i : Int) < (k.length : Int) := by omega
        obtain ⟨t, hti⟩ : ∃ t, k[i]? = some t := ⟨_, List.getElem?_eq_getElem hlt⟩
        obtain ⟨b, o, ka, ca, rfl, c0, c1, c2, c3, ht⟩ := (HKW.out.below hbr).cells hti
        have g3 := HG3.out wr hbr
        have HM : Hid (t ∈ k) := List.mem_of_getElem? hti
        have HTI := hidIn ht
        have htk := take_more _ _ _ hti
        have HT3 : Hid ([numT n] ++ textTL (k.take (i + 1)) = ([numT n] ++ textTL (k.take i)) ++ [textT t]) := by show _ = _; rw [htk, textTL_map, textTL_map, List.map_append, List.append_assoc]; rfl
        have HLEN : Hid ((putT wd (([numT n] ++ textTL (k.take i)) ++ [textT t])).size ≤ 70368744177664) := by
          rw [← HT3.out]
          refine Nat.le_trans ?_ HSZ2.out
          have h2 : [numT n] ++ textTL k = ([numT n] ++ textTL (k.take (i + 1))) ++ textTL (k.drop (i + 1)) := by
            rw [textTL_map, textTL_map, textTL_map, List.append_assoc, ← List.map_append, List.take_append_drop]
          rw [h2]
          exact putT_mono _ _ _
        clear hti htk ht hbr
        have hsz : (putT wd ([numT n] ++ textTL (k.take i)) ++ sepT ([numT n] ++ textTL (k.take i)) ++ textT t).size ≤ 70368744177664 := by rw [← putT_snoc]; exact HLEN.out
        have hsn := putT_snoc wd ([numT n] ++ textTL (k.take i)) (textT t)
        have HSN : Hid (putT wd ([numT n] ++ textTL (k.take (i + 1))) = putT wd ([numT n] ++ textTL (k.take i)) ++ sepT ([numT n] ++ textTL (k.take i)) ++ textT t) := by show _ = _; rw [HT3.out, putT_snoc]
        have HSP : Hid (sepT ([numT n] ++ textTL (k.take (i + 1))) = ⟨#[44]⟩) := by show _ = _; rw [HT3.out, sepT_snoc]
        clear hsn HT3 HLEN
        obtain ⟨A, hA⟩ : ∃ A, putT wd ([numT n] ++ textTL (k.take i)) = A := ⟨_, rfl⟩
        obtain ⟨B, hB⟩ : ∃ B, sepT ([numT n] ++ textTL (k.take i)) = B := ⟨_, rfl⟩
        obtain ⟨X, hX⟩ : ∃ X, textT t = X := ⟨_, rfl⟩
        rw [hA, hB, hX] at hsz HSN
        rw [hA, hB]
        have HCX : Hid (∀ (w : World) (v : Value), TIn w 0 t v → Calls Tryz.prog 34 #[v] w fun e w' => e = .returned (.string X) ∧ Below w.heap.size w w') := by
          show ∀ _, _
          have h := HIH0.out t HM.out (by rw [hX]; rw [ByteArray.size_append] at hsz; omega)
          rw [hX] at h
          exact h
        clear hA hB hX
        rw [ByteArray.size_append] at hsz
        have hs1 : (A ++ B).size ≤ 70368744177664 := by omega
        have hs2 := hs1
        rw [ByteArray.size_append] at hs2
        go_wp2_with fail
        refine (HCX.out wr _ HTI.out).mono ?_
        rintro e w4 ⟨rfl, hb4⟩
        have HB4 := hidIn (HBR.out.trans (hb4.mono HBR.out.size))
        clear hb4 c0 c1 c2 c3 g3 HTI
        go_wp2_with fail
        go_roundw
        case rel => exact ⟨i + 1, by omega, by go_num, by rw [HSN.out], by first | (rw [HSP.out]; done) | (rw [HSP.out]; rfl), HB4.out⟩
        case measure => simp [intOf]; omega
      · have hle : i = k.length := by omega
        subst hle
        rw [List.take_length]
        have hsz := HSZ2.out
        have HPJ := hidIn (putT_join wd ([numT n] ++ textTL k))
        obtain ⟨A, hA⟩ : ∃ A, putT wd ([numT n] ++ textTL k) = A := ⟨_, rfl⟩
        rw [hA] at hsz HPJ
        rw [hA]
        clear hA
        go_wp2_with fail
        go_ret
        exact ⟨by rw [HE.out, ← HPJ.out]; rfl, HB.out.trans (HBR.out.mono HB.out.size)⟩
  have HH : Hid (headP kind s n = []) := by show _ = _; unfold headP; rw [if_neg (by omega), if_neg h7]
  rw [HH.out] at HSZ2 HE HHS
  have HS0 : Hid (wd ++ ⟨#[40]⟩ = putT wd []) := HP0.out
  have HSP0 : Hid ((⟨#[]⟩ : ByteArray) = sepT []) := rfl
  have HBX := HB1
  have q2 : (kind == 2) = false := by simp [h2]
  have q5 : (kind == 5) = false := by simp [h5]
  have q12 : (kind == 12) = false := by simp [h12]
  have q7 : (kind == 7) = false := by simp [h7]
  have g3 := HG3.out w1 HBX.out
  go_wp2_with fail
  clear g3
  rw [HS0.out, HSP0.out]
  go_loopw [47, 3, 4] (fun s47 s3 s4 wr => ∃ i : Nat, i ≤ k.length ∧ s47 = .int .i64 i ∧ s3 = .string (putT wd (([] : List ByteArray) ++ textTL (k.take i))) ∧ s4 = .string (sepT (([] : List ByteArray) ++ textTL (k.take i))) ∧ Below W.heap.size W wr) (fun s47 _ _ _ => k.length - (intOf s47).toNat)
  case atStart => exact ⟨0, by omega, rfl, by simp [textTL], by simp [textTL], HBX.out⟩
  case round =>
    clear HBX HS0 HSP0
    obtain ⟨i, hi, rfl, rfl, rfl, hbr⟩ := hrel
    have HBR := hidIn hbr
    by_cases hlt : i < k.length
    · have hlt' : (i : Int) < (k.length : Int) := by omega
      obtain ⟨t, hti⟩ : ∃ t, k[i]? = some t := ⟨_, List.getElem?_eq_getElem hlt⟩
      obtain ⟨b, o, ka, ca, rfl, c0, c1, c2, c3, ht⟩ := (HKW.out.below hbr).cells hti
      have g3 := HG3.out wr hbr
      have HM : Hid (t ∈ k) := List.mem_of_getElem? hti
      have HTI := hidIn ht
      have htk := take_more _ _ _ hti
      have HT3 : Hid (([] : List ByteArray) ++ textTL (k.take (i + 1)) = (([] : List ByteArray) ++ textTL (k.take i)) ++ [textT t]) := by show _ = _; rw [htk, textTL_map, textTL_map, List.map_append, List.append_assoc]; rfl
      have HLEN : Hid ((putT wd ((([] : List ByteArray) ++ textTL (k.take i)) ++ [textT t])).size ≤ 70368744177664) := by
        rw [← HT3.out]
        refine Nat.le_trans ?_ HSZ2.out
        have h2 : ([] : List ByteArray) ++ textTL k = (([] : List ByteArray) ++ textTL (k.take (i + 1))) ++ textTL (k.drop (i + 1)) := by
          rw [textTL_map, textTL_map, textTL_map, List.append_assoc, ← List.map_append, List.take_append_drop]
        rw [h2]
        exact putT_mono _ _ _
      clear hti htk ht hbr
      have hsz : (putT wd (([] : List ByteArray) ++ textTL (k.take i)) ++ sepT (([] : List ByteArray) ++ textTL (k.take i)) ++ textT t).size ≤ 70368744177664 := by rw [← putT_snoc]; exact HLEN.out
      have hsn := putT_snoc wd (([] : List ByteArray) ++ textTL (k.take i)) (textT t)
      have HSN : Hid (putT wd (([] : List ByteArray) ++ textTL (k.take (i + 1))) = putT wd (([] : List ByteArray) ++ textTL (k.take i)) ++ sepT (([] : List ByteArray) ++ textTL (k.take i)) ++ textT t) := by show _ = _; rw [HT3.out, putT_snoc]
      have HSP : Hid (sepT (([] : List ByteArray) ++ textTL (k.take (i + 1))) = ⟨#[44]⟩) := by show _ = _; rw [HT3.out, sepT_snoc]
      clear hsn HT3 HLEN
      obtain ⟨A, hA⟩ : ∃ A, putT wd (([] : List ByteArray) ++ textTL (k.take i)) = A := ⟨_, rfl⟩
      obtain ⟨B, hB⟩ : ∃ B, sepT (([] : List ByteArray) ++ textTL (k.take i)) = B := ⟨_, rfl⟩
      obtain ⟨X, hX⟩ : ∃ X, textT t = X := ⟨_, rfl⟩
      rw [hA, hB, hX] at hsz HSN
      rw [hA, hB]
      have HCX : Hid (∀ (w : World) (v : Value), TIn w 0 t v → Calls Tryz.prog 34 #[v] w fun e w' => e = .returned (.string X) ∧ Below w.heap.size w w') := by
        show ∀ _, _
        have h := HIH0.out t HM.out (by rw [hX]; rw [ByteArray.size_append] at hsz; omega)
        rw [hX] at h
        exact h
      clear hA hB hX
      rw [ByteArray.size_append] at hsz
      have hs1 : (A ++ B).size ≤ 70368744177664 := by omega
      have hs2 := hs1
      rw [ByteArray.size_append] at hs2
      go_wp2_with fail
      refine (HCX.out wr _ HTI.out).mono ?_
      rintro e w4 ⟨rfl, hb4⟩
      have HB4 := hidIn (HBR.out.trans (hb4.mono HBR.out.size))
      clear hb4 c0 c1 c2 c3 g3 HTI
      go_wp2_with fail
      go_roundw
      case rel => exact ⟨i + 1, by omega, by go_num, by rw [HSN.out], by first | (rw [HSP.out]; done) | (rw [HSP.out]; rfl), HB4.out⟩
      case measure => simp [intOf]; omega
    · have hle : i = k.length := by omega
      subst hle
      rw [List.take_length]
      have hsz := HSZ2.out
      have HPJ := hidIn (putT_join wd (([] : List ByteArray) ++ textTL k))
      obtain ⟨A, hA⟩ : ∃ A, putT wd (([] : List ByteArray) ++ textTL k) = A := ⟨_, rfl⟩
      rw [hA] at hsz HPJ
      rw [hA]
      clear hA
      go_wp2_with fail
      go_ret
      exact ⟨by rw [HE.out, ← HPJ.out]; rfl, HB.out.trans (HBR.out.mono HB.out.size)⟩


end Go.Proofs.YtfmjjfpajohihaaGreatDoor
namespace Go.Proofs.YtfmjjfpajohihaaGreatDoor
open Go.RowKit
set_option linter.unusedVariables false

mutual
/-- Two trees are the same, and none of them is, or has, nothing. -/
def sameTr : T → T → Bool
  | .mk kind s n k, u => decide (kind ≠ 0) && (decide (kind = u.kind) && (decide (s = u.s) && (decide (n = u.n) && (decide (k.length = u.k.length) && sameTL k u.k))))
def sameTL : List T → List T → Bool
  | a :: l, m => match m with
    | b :: m => sameTr a b && sameTL l m
    | [] => true
  | [], _ => true
end
theorem sameTL_take (l m : List T) (i : Nat) (a b : T) (h1 : l[i]? = some a) (h2 : m[i]? = some b) : sameTL (l.take (i + 1)) (m.take (i + 1)) = (sameTL (l.take i) (m.take i) && sameTr a b) := by
  induction l generalizing m i with
  | nil => simp at h1
  | cons x l ih =>
    cases m with
    | nil => simp at h2
    | cons y m =>
      cases i with
      | zero => simp at h1 h2; subst h1 h2; simp [sameTL]
      | succ i =>
        simp at h1 h2
        simp only [List.take_succ_cons, sameTL]
        rw [ih m i h1 h2, Bool.and_assoc]
theorem sameTL_false (l m : List T) (i : Nat) (a b : T) (h1 : l[i]? = some a) (h2 : m[i]? = some b) (h : sameTr a b = false) : sameTL l m = false := by
  induction l generalizing m i with
  | nil => simp at h1
  | cons x l ih =>
    cases m with
    | nil => simp at h2
    | cons y m =>
      cases i with
      | zero => simp at h1 h2; subst h1 h2; simp [sameTL, h]
      | succ i =>
        simp at h1 h2
        simp only [sameTL]
        rw [ih m i h1 h2, Bool.and_false]

end Go.Proofs.YtfmjjfpajohihaaGreatDoor
namespace Go.Proofs.YtfmjjfpajohihaaGreatDoor
open Go.RowKit
set_option linter.unusedVariables false

mutual
/-- The names of a tree's Fixes, in order. -/
def T.nams : T → List ByteArray
  | .mk kind s _ k => if kind = 12 then [s] else namsL k
def namsL : List T → List ByteArray
  | [] => []
  | t :: l => t.nams ++ namsL l
end
theorem namsL_snoc (l : List T) (k : T) : namsL (l ++ [k]) = namsL l ++ k.nams := by
  induction l with
  | nil => simp [namsL]
  | cons a l ih => simp [namsL, ih]
theorem nams_cnt : ∀ t : T, t.nams.length ≤ t.cnt := by
  intro t
  induction t using T.ind with
  | _ kind s n k ih =>
    have h : (namsL k).length ≤ cntL k := by
      induction k with
      | nil => simp [namsL]
      | cons a l ihl =>
        have h1 := ih a (by simp)
        have h2 := ihl (fun t ht => ih t (by simp [ht]))
        simp only [namsL, cntL, List.length_append]
        omega
    unfold T.nams T.cnt
    split
    · simp
    · omega
theorem namsL_cnt (l : List T) : (namsL l).length ≤ cntL l := by
  induction l with
  | nil => simp [namsL]
  | cons a l ih => have := nams_cnt a; simp only [namsL, cntL, List.length_append]; omega
/-- A new list of one text is a row of the call's own. -/
theorem own_one (w : World) (s : ByteArray) : (w.alloc (.cells #[.string s] 9)).ownsRow w.heap.size 9 1 (.slice (some ⟨w.heap.size, 0, none⟩) 1 1) [s].length (strCells [s]) := by
  refine ⟨by simp [strCells], .inr ⟨w.heap.size, 1, #[.string s], rfl, Nat.le_refl _, heap_alloc_new _ _, by simp, by unfold maxLen; omega, by simp, by simp [strCells]⟩⟩

end Go.Proofs.YtfmjjfpajohihaaGreatDoor
namespace Go.Proofs.YtfmjjfpajohihaaGreatDoor
open Go.RowKit
set_option linter.unusedVariables false

/-- A text is among the first of a list. -/
def inFirst (L : List ByteArray) (s : ByteArray) (j : Nat) : Bool := (L.take j).any (fun x => decide (x = s))
theorem inFirst_next (L : List ByteArray) (s : ByteArray) (j : Nat) (x : ByteArray) (h : L[j]? = some x) : inFirst L s (j + 1) = (inFirst L s j || decide (x = s)) := by
  unfold inFirst
  rw [take_more _ _ _ h, List.any_append]
  simp

theorem addAll_le (acc l : List ByteArray) : (addAll acc l).length ≤ acc.length + l.length := by
  induction l generalizing acc with
  | nil => simp [addAll]
  | cons x l ih =>
    have h1 := ih (addN acc x)
    have h2 := addN_length acc x
    have e : addAll acc (x :: l) = addAll (addN acc x) l := rfl
    rw [e]
    simp only [List.length_cons]
    omega

end Go.Proofs.YtfmjjfpajohihaaGreatDoor
namespace Go.Proofs.YtfmjjfpajohihaaGreatDoor
open Go.RowKit
set_option linter.unusedVariables false

theorem plain_labs (o : O) : (plain o).labs = [] := by
  induction o <;> simp_all [plain, T.labs, labsL]
theorem plain_cnt (o : O) : (plain o).cnt ≤ 2 * o.nodes + 1 := by
  induction o <;> simp only [plain, T.cnt, cntL, O.nodes] at * <;> omega
theorem plain_sized (o : O) (h : o.Ok) : (plain o).Sized := by
  have he : (⟨#[]⟩ : ByteArray).size ≤ 2147483648 := by decide
  induction o with
  | const n => simp only [plain, T.Sized, SizedL]; exact ⟨he, trivial⟩
  | fix s => simp only [plain, T.Sized, SizedL]; exact ⟨h, trivial⟩
  | odd v => simp only [plain, T.Sized, SizedL]; exact ⟨he, trivial⟩
  | neg o h1 => simp only [plain, T.Sized, SizedL]; exact ⟨he, h1 h, trivial⟩
  | add l r h1 h2 => simp only [plain, T.Sized, SizedL]; exact ⟨he, h1 h.1, h2 h.2, trivial⟩
  | mul l r h1 h2 => simp only [plain, T.Sized, SizedL]; exact ⟨he, h1 h.1, h2 h.2, trivial⟩
  | max l r h1 h2 => simp only [plain, T.Sized, SizedL]; exact ⟨he, h1 h.1, h2 h.2, trivial⟩
theorem plain_form (o : O) : formT (plain o) true = formB o := by
  induction o <;> simp_all [plain, formT, formTL, headOk, partB, formB]

end Go.Proofs.YtfmjjfpajohihaaGreatDoor
namespace Go.Proofs.YtfmjjfpajohihaaGreatDoor
open Go.RowKit
set_option linter.unusedVariables false

theorem sameTr_mk (kind : Int) (s : ByteArray) (n : Int) (k : List T) (u : T) : sameTr (.mk kind s n k) u = (decide (kind ≠ 0) && (decide (kind = u.kind) && (decide (s = u.s) && (decide (n = u.n) && (decide (k.length = u.k.length) && sameTL k u.k))))) := by rw [sameTr]
theorem plain_same (a : O) : ∀ b, sameTr (plain a) (plain b) = sameO a b := by
  induction a with
  | const n => intro b; cases b <;> simp [plain, sameTr_mk, sameTL, sameO, T.kind, T.s, T.n, T.k] <;> (first | rfl | congr)
  | fix s => intro b; cases b <;> simp [plain, sameTr_mk, sameTL, sameO, T.kind, T.s, T.n, T.k] <;> (first | rfl | congr)
  | odd v => intro b; cases b <;> simp [plain, sameTr_mk, sameTL, sameO, T.kind, T.s, T.n, T.k]
  | neg o ih => intro b; cases b <;> simp [plain, sameTr_mk, sameTL, sameO, T.kind, T.s, T.n, T.k, ih]
  | add l r h1 h2 => intro b; cases b <;> simp [plain, sameTr_mk, sameTL, sameO, T.kind, T.s, T.n, T.k, h1, h2]
  | mul l r h1 h2 => intro b; cases b <;> simp [plain, sameTr_mk, sameTL, sameO, T.kind, T.s, T.n, T.k, h1, h2]
  | max l r h1 h2 => intro b; cases b <;> simp [plain, sameTr_mk, sameTL, sameO, T.kind, T.s, T.n, T.k, h1, h2]
theorem sameO_comm (a : O) : ∀ b, sameO a b = sameO b a := by
  induction a with
  | const n => intro b; cases b <;> simp [sameO, eq_comm]
  | fix s => intro b; cases b <;> simp [sameO, eq_comm]
  | odd v => intro b; cases b <;> simp [sameO]
  | neg o ih => intro b; cases b <;> simp [sameO, ih]
  | add l r h1 h2 => intro b; cases b <;> simp [sameO, h1, h2]
  | mul l r h1 h2 => intro b; cases b <;> simp [sameO, h1, h2]
  | max l r h1 h2 => intro b; cases b <;> simp [sameO, h1, h2]
theorem plain_nams (o : O) : (plain o).nams = o.all := by
  induction o <;> simp_all [plain, T.nams, namsL, O.all]
theorem plain_names (o : O) : addAll [] (plain o).nams = o.names := by rw [plain_nams]; rfl
theorem plain_chk (o : O) : chkT (plain o) true = chk o := by
  unfold chkT chk
  rw [plain_form, plain_nodes, plain_depth, plain_labs]
  simp [twice]
theorem plain_back (o : O) : plain (obsOf (plain o)) = plain o := by
  induction o with
  | const n => rfl
  | fix s => rfl
  | odd v => rfl
  | neg o ih => simp [plain, obsOf, obsL, ih]
  | add l r h1 h2 => simp [plain, obsOf, obsL, h1, h2]
  | mul l r h1 h2 => simp [plain, obsOf, obsL, h1, h2]
  | max l r h1 h2 => simp [plain, obsOf, obsL, h1, h2]

end Go.Proofs.YtfmjjfpajohihaaGreatDoor
namespace Go.Proofs.YtfmjjfpajohihaaGreatDoor
open Go.RowKit
set_option linter.unusedVariables false

/-- How far a contract goes. -/
def rC : Nat → Nat
  | 0 => 40
  | d + 1 => 4 * rC d + 40
theorem rC_pos : ∀ d, 40 ≤ rC d
  | 0 => Nat.le_refl _
  | d + 1 => by have := rC_pos d; simp only [rC]; omega
theorem rC_le (d : Nat) (h : d ≤ 5) : rC d ≤ 60000 := by
  have : d = 0 ∨ d = 1 ∨ d = 2 ∨ d = 3 ∨ d = 4 ∨ d = 5 := by omega
  rcases this with rfl | rfl | rfl | rfl | rfl | rfl <;> decide
theorem reach_min (d : Nat) : reach (min d 2) ≤ 11 := by
  have : min d 2 = 0 ∨ min d 2 = 1 ∨ min d 2 = 2 := by omega
  rcases this with h | h | h <;> rw [h] <;> decide
theorem conO_reach (p : Pl) : ∀ d i left label, (conO p d i left label).2.1 ≤ i + rC d ∧ left - rC d ≤ (conO p d i left label).2.2.1 ∧ (conO p d i left label).2.2.1 ≤ left ∧ (conO p d i left label).2.2.2 ≤ label + rC d := by
  intro d
  induction d with
  | zero =>
    intro i left label
    unfold conO
    simp only [rC]
    split <;> simp only <;> omega
  | succ d ih =>
    intro i left label
    have hr := rC_pos d
    have h1 := ih (i + 1) (left - 1) label
    have h2 := ih (conO p d (i + 1) (left - 1) label).2.1 (conO p d (i + 1) (left - 1) label).2.2.1 (conO p d (i + 1) (left - 1) label).2.2.2
    have h3 := ih (i + 2) (left - 1) (label + 1)
    have h4 := ih (conO p d (i + 2) (left - 1) (label + 1)).2.1 (conO p d (i + 2) (left - 1) (label + 1)).2.2.1 (conO p d (i + 2) (left - 1) (label + 1)).2.2.2
    have h5 := ih (i + 2) (left - 1) label
    have ho := numO_reach p (min d 2) (i + 1) (left - 1)
    have hm := reach_min d
    have h6 := ih (numO p (min d 2) (i + 1) (left - 1)).2.1 (numO p (min d 2) (i + 1) (left - 1)).2.2 label
    have h7 := ih (conO p d (numO p (min d 2) (i + 1) (left - 1)).2.1 (numO p (min d 2) (i + 1) (left - 1)).2.2 label).2.1 (conO p d (numO p (min d 2) (i + 1) (left - 1)).2.1 (numO p (min d 2) (i + 1) (left - 1)).2.2 label).2.2.1 (conO p d (numO p (min d 2) (i + 1) (left - 1)).2.1 (numO p (min d 2) (i + 1) (left - 1)).2.2 label).2.2.2
    unfold conO
    simp only [rC]
    split
    · simp only; omega
    · split
      · simp only; omega
      · split
        · simp only; omega
        · split
          · simp only; omega
          · split
            · simp only; omega
            · split
              · simp only; omega
              · split
                · simp only; omega
                · simp only; omega

theorem mterm_any (w0 : World) (M : Nat) (p : Pl) : ∀ d, d ≤ 5 → LessC w0 M p d (rC d) := by
  intro d
  induction d with
  | zero =>
    intro _ w i left label h hi hl1 hl2 hlb
    have hk := kT_zero p i left
    simp only [rC] at hi hl1 hlb
    exact mterm_leaf w0 w M p 0 i left label h (by omega) (by omega) hl2 (by omega) hk _ rfl
  | succ d ih =>
    intro hd w i left label h hi hl1 hl2 hlb
    have hr := rC_pos d
    have hr2 := rC_le d (by omega)
    have ih' := ih (by omega)
    have hb1 := conO_reach p d
    simp only [rC] at hi hl1 hlb
    have hk := kT_lt p (d + 1) i left
    by_cases h2 : kT p (d + 1) i left ≤ 2
    · have := mterm_leaf w0 w M p (d + 1) i left label h (by omega) (by omega) hl2 (by omega) h2 _ rfl
      have e : conO p (d + 1) i left label = if kT p (d + 1) i left ≤ 1 then (.one (curOf p (i + 1)), i + 2, left - 1, label) else (.zero, i + 1, left - 1, label) := by
        rw [conO]
        split
        · rfl
        · rw [if_pos (by omega)]
      rw [e]
      exact this
    · by_cases h4 : kT p (d + 1) i left ≤ 4
      · exact mterm_give w0 w M p d i left label (rC d) ih' h (by omega) (by omega) (by omega) hl2 (by omega) (by omega) hb1 (by omega) _ rfl
      by_cases h6 : kT p (d + 1) i left ≤ 6
      · exact mterm_and w0 w M p d i left label (rC d) ih' h (by omega) (by omega) (by omega) hl2 (by omega) (by omega) hb1 (by omega) _ rfl
      by_cases h8 : kT p (d + 1) i left ≤ 8
      · exact mterm_or w0 w M p d i left label (rC d) ih' h (by omega) (by omega) (by omega) hl2 (by omega) (by omega) hb1 (by omega) _ rfl
      by_cases h10 : kT p (d + 1) i left ≤ 10
      · exact mterm_scale w0 w M p d i left label (rC d) ih' h (by omega) (by omega) (by omega) hl2 (by omega) (by omega) hb1 (by omega) _ rfl
      by_cases h11 : kT p (d + 1) i left = 11
      · exact mterm_when w0 w M p d i left label (rC d) ih' h (by omega) (by omega) (by omega) hl2 (by omega) (by omega) hb1 h11 _ rfl
      · exact mterm_iff w0 w M p d i left label (rC d) ih' h (by omega) (by omega) (by omega) hl2 (by omega) (by omega) hb1 (by omega) _ rfl

/-- A contract in which nothing is none. -/
def C.whole : C → Prop
  | .zero => True
  | .one s => s.size ≤ 2147483648
  | .give c => c.whole
  | .and l r => l.whole ∧ r.whole
  | .or s l r => s.size ≤ 2147483648 ∧ l.whole ∧ r.whole
  | .scale o c => o.whole ∧ c.whole
  | .when d c => (-9223372036854775808 ≤ d ∧ d ≤ 9223372036854775807) ∧ c.whole
  | .iff o l r => o.whole ∧ l.whole ∧ r.whole
  | .odd _ => False
theorem cwhole_ok (c : C) (h : c.whole) : c.Ok := by
  induction c with
  | zero => trivial
  | one s => exact h
  | give c h1 => exact h1 h
  | and l r h1 h2 => exact ⟨h1 h.1, h2 h.2⟩
  | or s l r h1 h2 => exact ⟨h.1, h1 h.2.1, h2 h.2.2⟩
  | scale o c h1 => exact ⟨whole_ok o h.1, h1 h.2⟩
  | when d c h1 => exact ⟨h.1, h1 h.2⟩
  | iff o l r h1 h2 => exact ⟨whole_ok o h.1, h1 h.2.1, h2 h.2.2⟩
  | odd v => exact absurd h id
theorem conO_whole (p : Pl) : ∀ d i left label, (conO p d i left label).1.whole ∧ (conO p d i left label).1.weight + 10 ≤ 20 * 2 ^ d := by
  have hn : ∀ d i left, (numO p (min d 2) i left).1.whole ∧ (numO p (min d 2) i left).1.nodes ≤ 7 := fun d i left => by
    have h := numO_whole p (min d 2) i left
    refine ⟨h.1, ?_⟩
    have h2 : 2 ^ (min d 2 + 1) ≤ 8 := by
      have : min d 2 = 0 ∨ min d 2 = 1 ∨ min d 2 = 2 := by omega
      rcases this with e | e | e <;> rw [e] <;> decide
    have := h.2.1
    omega
  intro d
  induction d with
  | zero =>
    intro i left label
    unfold conO
    split
    · exact ⟨by show (curOf p (i + 1)).size ≤ _; have := curOf_size p (i + 1); omega, by simp [C.weight]⟩
    · exact ⟨trivial, by simp [C.weight]⟩
  | succ d ih =>
    intro i left label
    have hp : 1 ≤ 2 ^ d := Nat.one_le_two_pow
    have hp2 : 2 ^ (d + 1) = 2 * 2 ^ d := by rw [Nat.pow_succ]; omega
    have h1 := ih (i + 1) (left - 1) label
    have h2 := ih (conO p d (i + 1) (left - 1) label).2.1 (conO p d (i + 1) (left - 1) label).2.2.1 (conO p d (i + 1) (left - 1) label).2.2.2
    have h3 := ih (i + 2) (left - 1) (label + 1)
    have h4 := ih (conO p d (i + 2) (left - 1) (label + 1)).2.1 (conO p d (i + 2) (left - 1) (label + 1)).2.2.1 (conO p d (i + 2) (left - 1) (label + 1)).2.2.2
    have h5 := ih (i + 2) (left - 1) label
    have ho := hn d (i + 1) (left - 1)
    have h6 := ih (numO p (min d 2) (i + 1) (left - 1)).2.1 (numO p (min d 2) (i + 1) (left - 1)).2.2 label
    have h7 := ih (conO p d (numO p (min d 2) (i + 1) (left - 1)).2.1 (numO p (min d 2) (i + 1) (left - 1)).2.2 label).2.1 (conO p d (numO p (min d 2) (i + 1) (left - 1)).2.1 (numO p (min d 2) (i + 1) (left - 1)).2.2 label).2.2.1 (conO p d (numO p (min d 2) (i + 1) (left - 1)).2.1 (numO p (min d 2) (i + 1) (left - 1)).2.2 label).2.2.2
    unfold conO
    rw [hp2]
    split
    · exact ⟨by show (curOf p (i + 1)).size ≤ _; have := curOf_size p (i + 1); omega, by simp only [C.weight]; omega⟩
    · split
      · exact ⟨trivial, by simp only [C.weight]; omega⟩
      · split
        · exact ⟨h1.1, by simp only [C.weight]; omega⟩
        · split
          · exact ⟨⟨h1.1, h2.1⟩, by simp only [C.weight]; omega⟩
          · split
            · refine ⟨⟨?_, h3.1, h4.1⟩, by simp only [C.weight]; omega⟩
              split
              · decide
              · have := chT_size (label + 1); omega
            · split
              · exact ⟨⟨ho.1, h6.1⟩, by simp only [C.weight]; omega⟩
              · split
                · exact ⟨⟨⟨by omega, by omega⟩, h5.1⟩, by simp only [C.weight]; omega⟩
                · exact ⟨⟨ho.1, h6.1, h7.1⟩, by simp only [C.weight]; omega⟩
/-- The contract of a plan. -/
def conP (p : Pl) : C := (conO p 5 0 24 0).1
theorem conP_whole (p : Pl) : (conP p).whole := (conO_whole p 5 0 24 0).1
theorem conP_weight (p : Pl) : (conP p).weight ≤ 630 := by have := (conO_whole p 5 0 24 0).2; simp at this; unfold conP; omega

set_option maxHeartbeats 1000000 in
set_option maxRecDepth 100000 in
theorem contract_any (p : Pl) (w : World) (h : PlanIn w p) : Calls Tryz.prog 31 #[planV p] w fun e w' => ∃ v, e = .returned v ∧ TIn w' w.heap.size (plainC (conP p)) v ∧ Below w.heap.size w w' := by
  unfold planV
  have HP : Hid (PlanIn w p) := h
  clear h
  go_enter Tryz.func31, Tryz.ntmps31
  go_wp2_with fail
  obtain ⟨W, hW⟩ : ∃ W, W = ((w.alloc (.cells #[.slice p.na p.nl p.nc, .slice p.wa p.wl p.wc] 25)).alloc (.cells #[.int .i64 0, .string ⟨#[]⟩, .int .i64 0, .slice none 0 0] 44)).alloc (.cells #[.slice p.na p.nl p.nc, .slice p.wa p.wl p.wc, .int .i64 0, .int .i64 24, .int .i64 0] 103) := ⟨_, rfl⟩
  have hWs : W.heap.size = w.heap.size + 3 := by rw [hW]; simp
  have HB : Hid (Below w.heap.size w W) := by rw [hW]; exact below_alloc (below_alloc (below_alloc (Below.refl _ _) _) _) _
  have HMI : Hid (MIn w W (w.heap.size + 1 + 1) p 0 24 (0 : Nat)) := by
    refine ⟨HP.out, by omega, HB.out, ?_⟩
    rw [hW]
    exact blk_new (by simp)
  have HZ : Hid (Blk W (w.heap.size + 1) 44 zeroT) := by
    rw [hW]
    exact (Below.heap_alloc _ _ _ (by simp)).trans (blk_new (by simp))
  rw [← hW]
  clear hW
  have hr5 := rC_le 5 (by omega)
  have HC := mterm_any w (w.heap.size + 1 + 1) p 5 (by omega) W 0 24 0 HMI.out (by omega) (by omega) (by omega) (by omega)
  refine HC.mono ?_
  rintro e w5 ⟨v, rfl, ht5, hm5, hg5⟩
  clear HC
  have ht5' := ht5
  obtain ⟨la, lc, rfl, _, _, _⟩ := ht5'
  have HZ5 : Hid (Blk w5 (w.heap.size + 1) 44 zeroT) := HZ.out.grew hg5 (by omega)
  obtain ⟨⟨z0, z1, z2, z3⟩, f0, f1, f2, f3⟩ := blk_zero HZ5.out
  have HB5 : Hid (Below w.heap.size w w5) := HB.out.trans (hg5.below (by omega) (by omega) (fun k hk => by cases hk))
  have HT5 : Hid (TIn w5 W.heap.size (plainC (conP p)) (.agg #[.int .i64 (plainC (conP p)).kind, .string (plainC (conP p)).s, .int .i64 (plainC (conP p)).n, .slice la (plainC (conP p)).k.length lc])) := ht5
  have HWS : Hid (W.heap.size = w.heap.size + 3) := hWs
  clear ht5 hm5 hg5 HZ HMI hWs HB
  rw [show (conO p 5 0 24 0).1 = conP p from rfl]
  go_wp2_with fail
  refine bodyPost_ret (results_cell_row rfl _ _ (w.heap.size + 1) 44 #[.int .i64 (plainC (conP p)).kind, .string (plainC (conP p)).s, .int .i64 (plainC (conP p)).n, .slice la (plainC (conP p)).k.length lc] (0, 0) _ rfl (set4_blk HZ5.out _ _ _ _) Tryz.underlying44 rfl infoT) rfl ?_
  have hs := HWS.out
  refine ⟨_, rfl, (HT5.out.set4 (R := w.heap.size + 1) (by omega) _ _ _ _).low (by omega), ?_⟩
  exact (((HB5.out.setCell (Nat.le_succ _) _).setCell (Nat.le_succ _) _).setCell (Nat.le_succ _) _).setCell (Nat.le_succ _) _

end Go.Proofs.YtfmjjfpajohihaaGreatDoor
namespace Go.Proofs.YtfmjjfpajohihaaGreatDoor
open Go.RowKit
set_option linter.unusedVariables false

theorem sc_plain (c : C) (h : c.Ok) : SC (plainC c) := by
  induction c with
  | zero => exact .leaf _ _ _ _ (by omega) (by decide)
  | one s => exact .leaf _ _ _ _ (by omega) h
  | give c h1 => exact .give _ _ _ (h1 h)
  | and l r h1 h2 => exact .and _ _ _ _ (h1 h.1) (h2 h.2)
  | or s l r h1 h2 => exact .or _ _ _ _ h.1 (h1 h.2.1) (h2 h.2.2)
  | scale o c h1 => exact .scale _ _ _ _ (shaped_plain o h.1) (h1 h.2)
  | when d c h1 => exact .when _ _ _ h.1 (h1 h.2)
  | iff o l r h1 h2 => exact .iff _ _ _ _ _ (shaped_plain o h.1) (h1 h.2.1) (h2 h.2.2)
  | odd v => exact .leaf _ _ _ _ (by omega) (by decide)
theorem termOf_whole (c : C) (h : c.whole) : termOf (plainC c) = c := by
  induction c with
  | zero => rfl
  | one s => rfl
  | give c h1 => show C.give (termOf (plainC c)) = _; rw [h1 h]
  | and l r h1 h2 => show C.and (termOf (plainC l)) (termOf (plainC r)) = _; rw [h1 h.1, h2 h.2]
  | or s l r h1 h2 => show C.or s (termOf (plainC l)) (termOf (plainC r)) = _; rw [h1 h.2.1, h2 h.2.2]
  | scale o c h1 => show C.scale (obsOf (plain o)) (termOf (plainC c)) = _; rw [obsOf_whole o h.1, h1 h.2]
  | when d c h1 => show C.when d (termOf (plainC c)) = _; rw [h1 h.2]
  | iff o l r h1 h2 => show C.iff (obsOf (plain o)) (termOf (plainC l)) (termOf (plainC r)) = _; rw [obsOf_whole o h.1, h1 h.2.1, h2 h.2.2]
  | odd v => exact absurd h id
theorem termP_any (c : C) (h : c.whole) (w : World) (v : Value) (B : Nat) (ht : TIn w B (plainC c) v) : Calls Tryz.prog 13 #[v] w fun e w' => e = .returned c.val ∧ Below w.heap.size w w' := by
  have := termT_any (sc_plain c (cwhole_ok c h)) w v (ht.low (Nat.zero_le _))
  rw [termOf_whole c h] at this
  exact this
theorem whole_sameC (c : C) (h : c.whole) : sameC c c = true := by
  induction c with
  | zero => rfl
  | one s => simp [sameC]
  | give c h1 => simp [sameC, h1 h]
  | and l r h1 h2 => simp [sameC, h1 h.1, h2 h.2]
  | or s l r h1 h2 => simp [sameC, h1 h.2.1, h2 h.2.2]
  | scale o c h1 => simp [sameC, whole_same o h.1, h1 h.2]
  | when d c h1 => simp [sameC, h1 h.2]
  | iff o l r h1 h2 => simp [sameC, whole_same o h.1, h1 h.2.1, h2 h.2.2]
  | odd v => exact absurd h id
theorem same_give (c : C) : sameC (.give c) c = false := by
  induction c with
  | give c ih => simp only [sameC]; exact ih
  | _ => rfl
theorem same_give' (c : C) : sameC c (.give c) = false := by
  induction c with
  | give c ih => simp only [sameC]; exact ih
  | _ => rfl
/-- A plan's contract, made by two calls in one statement: whatever the order. -/
theorem con_made {p : Pl} {W X : World} (hP : PlanIn W p) (hX : Below W.heap.size W X) : Calls Tryz.prog 31 #[.agg #[.slice p.na p.nl p.nc, .slice p.wa p.wl p.wc]] X (fun e w' => ∃ v, e = .returned v ∧ Below W.heap.size W w' ∧ TIn w' 0 (plainC (conP p)) v) :=
  (contract_any p X (hP.below hX)).mono (fun e w' ⟨v, he, ht, hb⟩ => ⟨v, he, hX.trans (hb.mono hX.size), ht.low (Nat.zero_le _)⟩)
theorem con_term {p : Pl} {W X : World} {v : Value} (hX : Below W.heap.size W X) (ht : TIn X 0 (plainC (conP p)) v) : Calls Tryz.prog 13 #[v] X (fun e w' => e = .returned (conP p).val ∧ Below W.heap.size W w') :=
  (termP_any (conP p) (conP_whole p) X v 0 ht).mono (fun e w' ⟨he, hb⟩ => ⟨he, hX.trans (hb.mono hX.size)⟩)

end Go.Proofs.YtfmjjfpajohihaaGreatDoor
namespace Go.Proofs.YtfmjjfpajohihaaGreatDoor
open Go.RowKit
set_option linter.unusedVariables false

theorem plainC_nodes (c : C) : (plainC c).nodes = c.nodes := by
  induction c with
  | scale o c ih => have := plain_nodes o; simp only [plainC, T.nodes, nodesL, C.nodes] at *; simp; omega
  | iff o l r h1 h2 => have := plain_nodes o; simp only [plainC, T.nodes, nodesL, C.nodes] at *; simp; omega
  | _ => simp_all [plainC, T.nodes, nodesL, C.nodes] <;> omega
theorem plainC_depth (c : C) : (plainC c).depth = c.depth := by
  induction c with
  | scale o c ih => have := plain_depth o; simp only [plainC, T.depth, depthL, C.depth] at *; simp; omega
  | iff o l r h1 h2 => have := plain_depth o; simp only [plainC, T.depth, depthL, C.depth] at *; simp; omega
  | _ => simp_all [plainC, T.depth, depthL, C.depth] <;> omega
theorem plainC_labs (c : C) : (plainC c).labs = c.labels := by
  induction c <;> simp_all [plainC, T.labs, labsL, C.labels, plain_labs]
theorem plainC_cnt (c : C) : (plainC c).cnt ≤ 3 * c.weight := by
  induction c with
  | scale o c ih => have := plain_cnt o; simp only [plainC, T.cnt, cntL, C.weight] at *; omega
  | iff o l r h1 h2 => have := plain_cnt o; simp only [plainC, T.cnt, cntL, C.weight] at *; omega
  | _ => simp only [plainC, T.cnt, cntL, C.weight] at * <;> omega
theorem plainC_sized (c : C) (h : c.Ok) : (plainC c).Sized := by
  have he : (⟨#[]⟩ : ByteArray).size ≤ 2147483648 := by decide
  induction c with
  | zero => simp only [plainC, T.Sized, SizedL]; exact ⟨he, trivial⟩
  | one s => simp only [plainC, T.Sized, SizedL]; exact ⟨h, trivial⟩
  | odd v => simp only [plainC, T.Sized, SizedL]; exact ⟨he, trivial⟩
  | give c h1 => simp only [plainC, T.Sized, SizedL]; exact ⟨he, h1 h, trivial⟩
  | and l r h1 h2 => simp only [plainC, T.Sized, SizedL]; exact ⟨he, h1 h.1, h2 h.2, trivial⟩
  | or s l r h1 h2 => simp only [plainC, T.Sized, SizedL]; exact ⟨h.1, h1 h.2.1, h2 h.2.2, trivial⟩
  | scale o c h1 => simp only [plainC, T.Sized, SizedL]; exact ⟨he, plain_sized o h.1, h1 h.2, trivial⟩
  | when d c h1 => simp only [plainC, T.Sized, SizedL]; exact ⟨he, h1 h.2, trivial⟩
  | iff o l r h1 h2 => simp only [plainC, T.Sized, SizedL]; exact ⟨he, plain_sized o h.1, h1 h.2.1, h2 h.2.2, trivial⟩
theorem plainC_form (c : C) : formT (plainC c) false = formC c := by
  induction c <;> simp_all [plainC, formT, formTL, headOk, partB, formC, plain_form, Bool.and_assoc]
theorem plainC_chk (c : C) : chkT (plainC c) false = chkC c := by
  unfold chkT chkC
  rw [plainC_form, plainC_nodes, plainC_depth, plainC_labs]
theorem refCheckC_any (c : C) (hok : c.Ok) (hw : c.weight ≤ 300000) (w : World) (v : Value) (B : Nat) (ht : TIn w B (plainC c) v) : Calls Tryz.prog 32 #[v, .bool false] w fun e w' => e = .returned (.int .i64 (chkC c)) ∧ Below w.heap.size w w' := by
  have h := refCheck_any (plainC c) (plainC_sized c hok) (by have := plainC_cnt c; omega) (by rw [plainC_nodes]; have := weight_nodes c; omega) false w v (ht.low (Nat.zero_le _))
  rw [plainC_chk] at h
  exact h
/-- The right contract of a plan. -/
def rightP (p : Pl) : C := if chkC (conP p) = 0 then conP p else .one ⟨#[117, 115, 100]⟩
theorem rightP_whole (p : Pl) : (rightP p).whole := by
  unfold rightP
  split
  · exact conP_whole p
  · show (⟨#[117, 115, 100]⟩ : ByteArray).size ≤ _
    decide
theorem rightP_weight (p : Pl) : (rightP p).weight ≤ 630 := by
  unfold rightP
  split
  · exact conP_weight p
  · simp [C.weight]

set_option maxHeartbeats 1000000 in
set_option maxRecDepth 100000 in
theorem right_any (p : Pl) (w : World) (h : PlanIn w p) : Calls Tryz.prog 14 #[planV p] w fun e w' => ∃ v, e = .returned v ∧ TIn w' w.heap.size (plainC (rightP p)) v ∧ Below w.heap.size w w' := by
  unfold planV
  have HP := hidIn h
  have HOK := hidIn (cwhole_ok _ (conP_whole p))
  have HWT := hidIn (conP_weight p)
  have HRP : Hid (rightP p = if chkC (conP p) = 0 then conP p else .one ⟨#[117, 115, 100]⟩) := rfl
  clear h
  go_enter Tryz.func14, Tryz.ntmps14
  go_wp2_with fail
  obtain ⟨W, hW⟩ : ∃ W, W = (w.alloc (.cells #[.slice p.na p.nl p.nc, .slice p.wa p.wl p.wc] 25)).alloc (.cells #[.int .i64 0, .string ⟨#[]⟩, .int .i64 0, .slice none 0 0] 44) := ⟨_, rfl⟩
  have hWs : W.heap.size = w.heap.size + 2 := by rw [hW]; simp
  have HB : Hid (Below w.heap.size w W) := by rw [hW]; exact below_alloc (below_alloc (Below.refl _ _) _) _
  have HZ : Hid (Blk W (w.heap.size + 1) 44 zeroT) := by rw [hW]; exact blk_new (by simp)
  have HPW := hidIn (HP.out.below HB.out)
  have HWS := hidIn hWs
  rw [← hW]
  clear hW hWs
  refine (contract_any p W HPW.out).mono ?_
  rintro e w1 ⟨v, rfl, ht1, hb1⟩
  have ht1' := ht1
  obtain ⟨ka, kc, rfl, _, _, _⟩ := ht1'
  have HT1 := hidIn ht1
  have HB1 := hidIn hb1
  clear ht1 hb1
  generalize hC : conP p = c at *
  clear hC
  go_wp2_with fail
  obtain ⟨w2, hw2⟩ : ∃ w2, w2 = w1.alloc (.cells (four (plainC c) ka kc) 44) := ⟨_, rfl⟩
  have HB2 : Hid (Below W.heap.size W w2) := by rw [hw2]; exact below_alloc HB1.out _
  have HT2 : Hid (TIn w2 W.heap.size (plainC c) (.agg (four (plainC c) ka kc))) := by rw [hw2]; exact HT1.out.below (below_alloc (Below.refl _ _) _)
  have HK2 : Hid (Blk w2 w1.heap.size 44 (four (plainC c) ka kc)) := by rw [hw2]; exact blk_new rfl
  unfold four at hw2
  rw [← hw2]
  clear hw2 HT1
  refine (refCheckC_any c HOK.out (by have := HWT.out; omega) w2 _ _ HT2.out).mono ?_
  rintro e w3 ⟨rfl, hb3⟩
  have HB3 := hidIn (HB2.out.trans (hb3.mono HB2.out.size))
  have HT3 := hidIn (HT2.out.below hb3)
  have hk3 : Blk w3 w1.heap.size 44 (four (plainC c) ka kc) := HK2.out.below hb3 HK2.out.lt
  obtain ⟨q0, q1, q2, q3⟩ := four_cells hk3
  have HZ3 : Hid (Blk w3 (w.heap.size + 1) 44 zeroT) := HZ.out.below HB3.out HZ.out.lt
  obtain ⟨⟨z0, z1, z2, z3⟩, f0, f1, f2, f3⟩ := blk_zero HZ3.out
  have hne : ¬ w.heap.size + 1 = w1.heap.size := by have := HWS.out; have := HB1.out.size; omega
  have HBE : Hid (Below w.heap.size w w3) := HB.out.trans (HB3.out.mono HB.out.size)
  clear hb3 hk3 HK2 HT2
  by_cases h0 : chkC c = 0
  · have h0' : (chkC c == 0) = true := by simp [h0]
    have HR : Hid (rightP p = c) := by unfold Hid; rw [HRP.out, if_pos h0]
    rw [h0]
    clear h0
    go_wp2_with fail
    refine bodyPost_ret (results_cell_row rfl _ _ (w.heap.size + 1) 44 #[.int .i64 (plainC c).kind, .string (plainC c).s, .int .i64 (plainC c).n, .slice ka (plainC c).k.length kc] (0, 0) _ rfl (set4_blk HZ3.out _ _ _ _) Tryz.underlying44 rfl infoT) rfl ?_
    refine ⟨_, rfl, ?_, (((HBE.out.setCell (Nat.le_succ _) _).setCell (Nat.le_succ _) _).setCell (Nat.le_succ _) _).setCell (Nat.le_succ _) _⟩
    rw [HR.out]
    exact (HT3.out.set4 (R := w.heap.size + 1) (by have := HWS.out; omega) _ _ _ _).low (by have := HWS.out; omega)
  · have h0' : (chkC c == 0) = false := by rw [beq_eq_false_iff_ne]; exact h0
    have HR : Hid (rightP p = .one ⟨#[117, 115, 100]⟩) := by unfold Hid; rw [HRP.out, if_neg h0]
    go_wp2_with fail
    refine bodyPost_ret (results_cell_row rfl _ _ (w.heap.size + 1) 44 #[.int .i64 2, .string ⟨#[117, 115, 100]⟩, .int .i64 0, .slice none 0 0] (0, 0) _ rfl (set4_blk HZ3.out _ _ _ _) Tryz.underlying44 rfl infoT) rfl ?_
    refine ⟨_, rfl, ?_, (((HBE.out.setCell (Nat.le_succ _) _).setCell (Nat.le_succ _) _).setCell (Nat.le_succ _) _).setCell (Nat.le_succ _) _⟩
    rw [HR.out]
    exact tin_leaf _ _ _ _ _

end Go.Proofs.YtfmjjfpajohihaaGreatDoor
namespace Go.Proofs.YtfmjjfpajohihaaGreatDoor
open Go.RowKit
set_option linter.unusedVariables false

theorem plain_text (o : O) (h : formB o = true) : textT (plain o) = textO o := by
  induction o with
  | const n => simp [plain, textT, textO]
  | fix s => simp [plain, textT, textTL, textO, headP]; rfl
  | add l r h1 h2 => simp only [formB, Bool.and_eq_true] at h; simp [plain, textT, textTL, textO, headP, h1 h.1, h2 h.2]; rfl
  | mul l r h1 h2 => simp only [formB, Bool.and_eq_true] at h; simp [plain, textT, textTL, textO, headP, h1 h.1, h2 h.2]; rfl
  | max l r h1 h2 => simp only [formB, Bool.and_eq_true] at h; simp [plain, textT, textTL, textO, headP, h1 h.1, h2 h.2]; rfl
  | neg o h1 => simp [plain, textT, textTL, textO, headP, h1 h]; rfl
  | odd v => cases h
theorem plainC_text (c : C) (h : formC c = true) : textT (plainC c) = textC c := by
  induction c with
  | zero => simp [plainC, textT, textC]
  | one s => simp [plainC, textT, textTL, textC, headP]; rfl
  | give c h1 => simp [plainC, textT, textTL, textC, headP, h1 h]; rfl
  | and l r h1 h2 => simp only [formC, Bool.and_eq_true] at h; simp [plainC, textT, textTL, textC, headP, h1 h.1, h2 h.2]; rfl
  | or s l r h1 h2 => simp only [formC, Bool.and_eq_true] at h; simp [plainC, textT, textTL, textC, headP, h1 h.1.2, h2 h.2]; rfl
  | scale o c h1 => simp only [formC, Bool.and_eq_true] at h; simp [plainC, textT, textTL, textC, headP, plain_text o h.1, h1 h.2]; rfl
  | when d c h1 => simp only [formC, Bool.and_eq_true] at h; simp [plainC, textT, textTL, textC, headP, h1 h.2]; rfl
  | iff o l r h1 h2 => simp only [formC, Bool.and_eq_true] at h; simp [plainC, textT, textTL, textC, headP, plain_text o h.1.1, h1 h.1.2, h2 h.2]; rfl
  | odd v => cases h
theorem plain_wk (o : O) (k : o.Ok) : (plain o).wk := by
  induction o with
  | const n => have := k; simp only [O.Ok] at this; simp [plain, T.wk, wkL]; omega
  | fix s => simp [plain, T.wk, wkL]
  | add l r h1 h2 => simp [plain, T.wk, wkL, h1 k.1, h2 k.2]
  | mul l r h1 h2 => simp [plain, T.wk, wkL, h1 k.1, h2 k.2]
  | max l r h1 h2 => simp [plain, T.wk, wkL, h1 k.1, h2 k.2]
  | neg o h1 => simp [plain, T.wk, wkL, h1 k]
  | odd v => simp [plain, T.wk, wkL]
theorem plainC_wk (c : C) (k : c.Ok) : (plainC c).wk := by
  induction c with
  | zero => simp [plainC, T.wk, wkL]
  | one s => simp [plainC, T.wk, wkL]
  | give c h1 => simp [plainC, T.wk, wkL, h1 k]
  | and l r h1 h2 => simp [plainC, T.wk, wkL, h1 k.1, h2 k.2]
  | or s l r h1 h2 => simp [plainC, T.wk, wkL, h1 k.2.1, h2 k.2.2]
  | scale o c h1 => simp [plainC, T.wk, wkL, plain_wk o k.1, h1 k.2]
  | when d c h1 => have := k.1; simp [plainC, T.wk, wkL, h1 k.2]; omega
  | iff o l r h1 h2 => simp [plainC, T.wk, wkL, plain_wk o k.1, h1 k.2.1, h2 k.2.2]
  | odd v => simp [plainC, T.wk, wkL]

set_option maxHeartbeats 1000000 in
set_option maxRecDepth 100000 in
theorem refWriteC_any (c : C) (hok : c.Ok) (hwt : c.weight ≤ 300000) (w : World) (v : Value) (ht : TIn w 0 (plainC c) v) : Calls Tryz.prog 19 #[v, .bool false] w fun e w' => e = .returned (.tuple #[.string (wTextC c), .int .i64 (wErrC c)]) ∧ Below w.heap.size w w' := by
  have HW : Hid (chkC c = 0 → (textC c).size ≤ 70368744177664 ∧ ∀ (w : World) (v : Value), TIn w 0 (plainC c) v → Calls Tryz.prog 34 #[v] w fun e w' => e = .returned (.string (textC c)) ∧ Below w.heap.size w w') := fun h => by
    have hz := chkC_zero h
    have hn := formC_neat c hok hz.1
    have hs : (textC c).size ≤ 70368744177664 := Nat.le_trans (textC_size _ c hn) (by omega)
    refine ⟨hs, ?_⟩
    have h2 := refText_any (plainC c) (plainC_wk c hok)
    rw [plainC_text c hz.1] at h2
    exact h2 hs
  have HR : Hid (wTextC c = if chkC c = 0 then (if 1000 < (textC c).size then ⟨#[]⟩ else textC c) else ⟨#[]⟩) := rfl
  have HE : Hid (wErrC c = if chkC c = 0 then (if 1000 < (textC c).size then 5 else 0) else chkC c) := rfl
  have HK : Hid (∀ (w : World) (v : Value), TIn w 0 (plainC c) v → Calls Tryz.prog 32 #[v, .bool false] w fun e w' => e = .returned (.int .i64 (chkC c)) ∧ Below w.heap.size w w') := fun w v h => refCheckC_any c hok hwt w v 0 h
  have HV := hidIn ht
  obtain ⟨a, cap, rfl, _, _, _⟩ := ht
  generalize wTextC c = rt at *
  generalize wErrC c = re at *
  clear hok hwt
  go_enter Tryz.func19, Tryz.ntmps19
  go_wp2_with fail
  have HB0 : Hid (Below w.heap.size w (w.alloc (.cells #[.int .i64 (plainC c).kind, .string (plainC c).s, .int .i64 (plainC c).n, .slice a (plainC c).k.length cap] 44))) := below_alloc (Below.refl _ _) _
  refine (HK.out _ _ (HV.out.below HB0.out)).mono ?_
  rintro e w1 ⟨rfl, hb1⟩
  have HB1 : Hid (Below w.heap.size w w1) := HB0.out.trans (hb1.mono (by simp))
  have hcells : ∀ j, j < 4 → w1.cell? ⟨w.heap.size, j, none⟩ = (#[.int .i64 (plainC c).kind, .string (plainC c).s, .int .i64 (plainC c).n, .slice a (plainC c).k.length cap] : Array Value)[j]? := fun j hj => (cell_of_row _ _ _ _ _ _ ((hb1.block _ (by simp)).trans (heap_alloc_new _ _)))
  have k0 := hcells 0 (by decide)
  have k1 := hcells 1 (by decide)
  have k2 := hcells 2 (by decide)
  have k3 := hcells 3 (by decide)
  simp at k0 k1 k2 k3
  have HV1 := hidIn (HV.out.below HB1.out)
  clear hb1 hcells
  by_cases h0 : chkC c = 0
  · obtain ⟨hs, hw⟩ := HW.out h0
    have HW1 := hidIn hw
    clear hw
    have H1 := HR.out
    have H2 := HE.out
    rw [if_pos h0] at H1 H2
    have HH1 := hidIn H1
    have HH2 := hidIn H2
    clear H1 H2 HR HE
    rw [h0]
    clear h0
    go_wp2_with fail
    refine (HW1.out w1 _ HV1.out).mono ?_
    rintro e w2 ⟨rfl, hb2⟩
    have HB2 := hidIn (HB1.out.trans (hb2.mono HB1.out.size))
    clear hb2 k0 k1 k2 k3 HW1 HV1
    by_cases h1 : 1000 < (textC c).size
    · have h1' : (1000 : Int) < ((textC c).size : Int) := by omega
      rw [if_pos h1] at HH1 HH2
      go_wp2_with fail
      go_ret2
      exact ⟨by rw [HH1.out, HH2.out]; rfl, HB2.out⟩
    · have h1' : ¬ (1000 : Int) < ((textC c).size : Int) := by omega
      rw [if_neg h1] at HH1 HH2
      go_wp2_with fail
      go_ret2
      exact ⟨by rw [HH1.out, HH2.out]; rfl, HB2.out⟩
  · obtain ⟨n, hn⟩ : ∃ n, chkC c = n := ⟨_, rfl⟩
    have H1 := HR.out
    have H2 := HE.out
    rw [if_neg h0] at H1 H2
    rw [hn] at h0 H2
    rw [hn]
    clear k0 k1 k2 k3
    go_wp2_with fail
    go_ret2
    exact ⟨by rw [H1, H2]; rfl, HB1.out⟩

set_option maxHeartbeats 1000000 in
set_option maxRecDepth 100000 in
theorem refWriteO_any (c : O) (hok : c.Ok) (hwt : c.nodes ≤ 1000) (w : World) (v : Value) (ht : TIn w 0 (plain c) v) : Calls Tryz.prog 19 #[v, .bool true] w fun e w' => e = .returned (.tuple #[.string (wText c), .int .i64 (wErr c)]) ∧ Below w.heap.size w w' := by
  have HW : Hid (chk c = 0 → (textO c).size ≤ 70368744177664 ∧ ∀ (w : World) (v : Value), TIn w 0 (plain c) v → Calls Tryz.prog 34 #[v] w fun e w' => e = .returned (.string (textO c)) ∧ Below w.heap.size w w') := fun h => by
    have hz := chk_zero h
    have hn := formB_neat c hok hz.1
    have hs : (textO c).size ≤ 70368744177664 := Nat.le_trans (textO_size _ c hn) (by omega)
    refine ⟨hs, ?_⟩
    have h2 := refText_any (plain c) (plain_wk c hok)
    rw [plain_text c hz.1] at h2
    exact h2 hs
  have HR : Hid (wText c = if chk c = 0 then (if 1000 < (textO c).size then ⟨#[]⟩ else textO c) else ⟨#[]⟩) := rfl
  have HE : Hid (wErr c = if chk c = 0 then (if 1000 < (textO c).size then 5 else 0) else chk c) := rfl
  have HK : Hid (∀ (w : World) (v : Value), TIn w 0 (plain c) v → Calls Tryz.prog 32 #[v, .bool true] w fun e w' => e = .returned (.int .i64 (chk c)) ∧ Below w.heap.size w w') := fun w v h => by
    have h2 := refCheck_any (plain c) (plain_sized c hok) (by have := plain_cnt c; omega) (by rw [plain_nodes]; omega) true w v h
    rw [plain_chk] at h2
    exact h2
  have HV := hidIn ht
  obtain ⟨a, cap, rfl, _, _, _⟩ := ht
  generalize wText c = rt at *
  generalize wErr c = re at *
  clear hok hwt
  go_enter Tryz.func19, Tryz.ntmps19
  go_wp2_with fail
  have HB0 : Hid (Below w.heap.size w (w.alloc (.cells #[.int .i64 (plain c).kind, .string (plain c).s, .int .i64 (plain c).n, .slice a (plain c).k.length cap] 44))) := below_alloc (Below.refl _ _) _
  refine (HK.out _ _ (HV.out.below HB0.out)).mono ?_
  rintro e w1 ⟨rfl, hb1⟩
  have HB1 : Hid (Below w.heap.size w w1) := HB0.out.trans (hb1.mono (by simp))
  have hcells : ∀ j, j < 4 → w1.cell? ⟨w.heap.size, j, none⟩ = (#[.int .i64 (plain c).kind, .string (plain c).s, .int .i64 (plain c).n, .slice a (plain c).k.length cap] : Array Value)[j]? := fun j hj => (cell_of_row _ _ _ _ _ _ ((hb1.block _ (by simp)).trans (heap_alloc_new _ _)))
  have k0 := hcells 0 (by decide)
  have k1 := hcells 1 (by decide)
  have k2 := hcells 2 (by decide)
  have k3 := hcells 3 (by decide)
  simp at k0 k1 k2 k3
  have HV1 := hidIn (HV.out.below HB1.out)
  clear hb1 hcells
  by_cases h0 : chk c = 0
  · obtain ⟨hs, hw⟩ := HW.out h0
    have HW1 := hidIn hw
    clear hw
    have H1 := HR.out
    have H2 := HE.out
    rw [if_pos h0] at H1 H2
    have HH1 := hidIn H1
    have HH2 := hidIn H2
    clear H1 H2 HR HE
    rw [h0]
    clear h0
    go_wp2_with fail
    refine (HW1.out w1 _ HV1.out).mono ?_
    rintro e w2 ⟨rfl, hb2⟩
    have HB2 := hidIn (HB1.out.trans (hb2.mono HB1.out.size))
    clear hb2 k0 k1 k2 k3 HW1 HV1
    by_cases h1 : 1000 < (textO c).size
    · have h1' : (1000 : Int) < ((textO c).size : Int) := by omega
      rw [if_pos h1] at HH1 HH2
      go_wp2_with fail
      go_ret2
      exact ⟨by rw [HH1.out, HH2.out]; rfl, HB2.out⟩
    · have h1' : ¬ (1000 : Int) < ((textO c).size : Int) := by omega
      rw [if_neg h1] at HH1 HH2
      go_wp2_with fail
      go_ret2
      exact ⟨by rw [HH1.out, HH2.out]; rfl, HB2.out⟩
  · obtain ⟨n, hn⟩ : ∃ n, chk c = n := ⟨_, rfl⟩
    have H1 := HR.out
    have H2 := HE.out
    rw [if_neg h0] at H1 H2
    rw [hn] at h0 H2
    rw [hn]
    clear k0 k1 k2 k3
    go_wp2_with fail
    go_ret2
    exact ⟨by rw [H1, H2]; rfl, HB1.out⟩

end Go.Proofs.YtfmjjfpajohihaaGreatDoor
namespace Go.Proofs.YtfmjjfpajohihaaGreatDoor
open Go.RowKit
set_option linter.unusedVariables false

/-- Numbers and names as a plan makes them: short. -/
def O.tidy : O → Prop
  | .const n => (numT n).size ≤ 14
  | .fix s => s.size ≤ 14
  | .add l r => l.tidy ∧ r.tidy
  | .neg o => o.tidy
  | .mul l r => l.tidy ∧ r.tidy
  | .max l r => l.tidy ∧ r.tidy
  | .odd _ => False
def C.tidy : C → Prop
  | .zero => True
  | .one s => s.size ≤ 14
  | .give c => c.tidy
  | .and l r => l.tidy ∧ r.tidy
  | .or s l r => s.size ≤ 4 ∧ l.tidy ∧ r.tidy
  | .scale o c => o.tidy ∧ c.tidy
  | .when d c => (numT d).size ≤ 1 ∧ c.tidy
  | .iff o l r => o.tidy ∧ l.tidy ∧ r.tidy
  | .odd _ => False
theorem tidyO_size (o : O) (h : o.tidy) : 3 * (textO o).size ≤ 44 * o.nodes + 13 := by
  induction o with
  | const n => have h' : (numT n).size ≤ 14 := h; simp only [textO, O.nodes]; omega
  | fix s => have h' : s.size ≤ 14 := h; simp only [textO, O.nodes]; rw [joinT_size, joinL1]; have e : (ByteArray.mk #[102, 105, 120]).size = 3 := rfl; omega
  | add l r h1 h2 => have a := h1 h.1; have b := h2 h.2; simp only [textO, O.nodes]; rw [joinT_size, joinL2]; have e : (ByteArray.mk #[97, 100, 100]).size = 3 := rfl; omega
  | neg o h1 => have a := h1 h; simp only [textO, O.nodes]; rw [joinT_size, joinL1]; have e : (ByteArray.mk #[110, 101, 103]).size = 3 := rfl; omega
  | mul l r h1 h2 => have a := h1 h.1; have b := h2 h.2; simp only [textO, O.nodes]; rw [joinT_size, joinL2]; have e : (ByteArray.mk #[109, 117, 108]).size = 3 := rfl; omega
  | max l r h1 h2 => have a := h1 h.1; have b := h2 h.2; simp only [textO, O.nodes]; rw [joinT_size, joinL2]; have e : (ByteArray.mk #[109, 97, 120]).size = 3 := rfl; omega
  | odd v => exact absurd h id
theorem tidyC_size (c : C) (h : c.tidy) : 3 * (textC c).size ≤ 44 * c.nodes + 13 := by
  induction c with
  | zero => simp only [textC, C.nodes]; have e : (ByteArray.mk #[122, 101, 114, 111]).size = 4 := rfl; omega
  | one s => have h' : s.size ≤ 14 := h; simp only [textC, C.nodes]; rw [joinT_size, joinL1]; have e : (ByteArray.mk #[111, 110, 101]).size = 3 := rfl; omega
  | give c h1 => have a := h1 h; simp only [textC, C.nodes]; rw [joinT_size, joinL1]; have e : (ByteArray.mk #[103, 105, 118, 101]).size = 4 := rfl; omega
  | and l r h1 h2 => have a := h1 h.1; have b := h2 h.2; simp only [textC, C.nodes]; rw [joinT_size, joinL2]; have e : (ByteArray.mk #[97, 110, 100]).size = 3 := rfl; omega
  | or s l r h1 h2 => have h' : s.size ≤ 4 := h.1; have a := h1 h.2.1; have b := h2 h.2.2; simp only [textC, C.nodes]; rw [joinT_size, joinL3]; have e : (ByteArray.mk #[111, 114]).size = 2 := rfl; omega
  | scale o c h1 => have a := tidyO_size o h.1; have b := h1 h.2; simp only [textC, C.nodes]; rw [joinT_size, joinL2]; have e : (ByteArray.mk #[115, 99, 97, 108, 101]).size = 5 := rfl; omega
  | when d c h1 => have h' : (numT d).size ≤ 1 := h.1; have b := h1 h.2; simp only [textC, C.nodes]; rw [joinT_size, joinL2]; have e : (ByteArray.mk #[119, 104, 101, 110]).size = 4 := rfl; omega
  | iff o l r h1 h2 => have a := tidyO_size o h.1; have b := h1 h.2.1; have c := h2 h.2.2; simp only [textC, C.nodes]; rw [joinT_size, joinL3]; have e : (ByteArray.mk #[105, 102]).size = 2 := rfl; omega
  | odd v => exact absurd h id
theorem tab_tidy0 : ∀ k, k < 10 → (numT (tabN k)).size ≤ 14 := by decide +kernel
theorem tab_tidy (k : Nat) : (numT (tabN k)).size ≤ 14 := by
  by_cases h : k < 10
  · exact tab_tidy0 k h
  · have e : tabN k = 0 := by
      unfold tabN tabL
      rw [List.getD, List.getElem?_eq_none (by simp; omega)]
      rfl
    rw [e]
    decide +kernel
theorem day_tidy0 : ∀ k : Nat, k < 8 → (numT (k : Int)).size ≤ 1 := by decide +kernel
theorem day_tidy (n : Int) : (numT (n % 8)).size ≤ 1 := by
  have h := day_tidy0 (n % 8).toNat (by omega)
  rw [Int.toNat_of_nonneg (by omega)] at h
  exact h
theorem ch_tidy0 : ∀ k, k < 100 → (chT k).size ≤ 4 := by decide +kernel
theorem numO_tidy (p : Pl) : ∀ d i left, (numO p d i left).1.tidy := by
  intro d
  induction d with
  | zero =>
    intro i left
    unfold numO
    split
    · exact tab_tidy _
    · exact wordOf_size p (i + 1)
  | succ d ih =>
    intro i left
    have h1 := ih (i + 1) (left - 1)
    have h2 := ih (numO p d (i + 1) (left - 1)).2.1 (numO p d (i + 1) (left - 1)).2.2
    unfold numO
    split
    · exact tab_tidy _
    · split
      · exact wordOf_size p (i + 1)
      · split
        · exact h1
        · simp only
          split
          · exact ⟨h1, h2⟩
          · split
            · exact ⟨h1, h2⟩
            · exact ⟨h1, h2⟩
theorem conO_tidy (p : Pl) : ∀ d i left label, label + 2 ^ d ≤ 100 → (conO p d i left label).1.tidy ∧ (conO p d i left label).2.2.2 + 1 ≤ label + 2 ^ d := by
  intro d
  induction d with
  | zero =>
    intro i left label hl
    unfold conO
    split
    · exact ⟨curOf_size p (i + 1), by simp⟩
    · exact ⟨trivial, by simp⟩
  | succ d ih =>
    intro i left label hl
    have hp : 1 ≤ 2 ^ d := Nat.one_le_two_pow
    have hp2 : 2 ^ (d + 1) = 2 * 2 ^ d := by rw [Nat.pow_succ]; omega
    rw [hp2] at hl
    have h1 := ih (i + 1) (left - 1) label (by omega)
    have h2 := ih (conO p d (i + 1) (left - 1) label).2.1 (conO p d (i + 1) (left - 1) label).2.2.1 (conO p d (i + 1) (left - 1) label).2.2.2 (by omega)
    have h3 := ih (i + 2) (left - 1) (label + 1) (by omega)
    have h4 := ih (conO p d (i + 2) (left - 1) (label + 1)).2.1 (conO p d (i + 2) (left - 1) (label + 1)).2.2.1 (conO p d (i + 2) (left - 1) (label + 1)).2.2.2 (by omega)
    have h5 := ih (i + 2) (left - 1) label (by omega)
    have ho := numO_tidy p (min d 2) (i + 1) (left - 1)
    have h6 := ih (numO p (min d 2) (i + 1) (left - 1)).2.1 (numO p (min d 2) (i + 1) (left - 1)).2.2 label (by omega)
    have h7 := ih (conO p d (numO p (min d 2) (i + 1) (left - 1)).2.1 (numO p (min d 2) (i + 1) (left - 1)).2.2 label).2.1 (conO p d (numO p (min d 2) (i + 1) (left - 1)).2.1 (numO p (min d 2) (i + 1) (left - 1)).2.2 label).2.2.1 (conO p d (numO p (min d 2) (i + 1) (left - 1)).2.1 (numO p (min d 2) (i + 1) (left - 1)).2.2 label).2.2.2 (by omega)
    unfold conO
    rw [hp2]
    split
    · exact ⟨curOf_size p (i + 1), by simp only; omega⟩
    · split
      · exact ⟨trivial, by simp only; omega⟩
      · split
        · exact ⟨h1.1, by simp only; omega⟩
        · split
          · exact ⟨⟨h1.1, h2.1⟩, by simp only; omega⟩
          · split
            · refine ⟨⟨?_, h3.1, h4.1⟩, by simp only; omega⟩
              split
              · decide
              · exact ch_tidy0 (label + 1) (by omega)
            · split
              · exact ⟨⟨ho, h6.1⟩, by simp only; omega⟩
              · split
                · exact ⟨⟨day_tidy _, h5.1⟩, by simp only; omega⟩
                · exact ⟨⟨ho, h6.1, h7.1⟩, by simp only; omega⟩
theorem rightP_fine (p : Pl) : chkC (rightP p) = 0 ∧ (textC (rightP p)).size ≤ 884 := by
  unfold rightP
  split
  · rename_i h
    refine ⟨h, ?_⟩
    have h1 := tidyC_size _ (conO_tidy p 5 0 24 0 (by decide)).1
    have h2 := (chkC_zero h).2.1
    unfold conP at h2 ⊢
    omega
  · exact ⟨by decide +kernel, by decide +kernel⟩

end Go.Proofs.YtfmjjfpajohihaaGreatDoor
namespace Go.Proofs.YtfmjjfpajohihaaGreatDoor
open Go.RowKit
set_option linter.unusedVariables false

theorem wTextC_le {c : C} (h : (textC c).size ≤ 884) : (wTextC c).size ≤ 884 := by
  unfold wTextC
  split
  · split
    · decide
    · exact h
  · decide
/-- The sixteen things that are put in. -/
def put16 : Array Value := #[.string ⟨#[32]⟩, .string ⟨#[40]⟩, .string ⟨#[41]⟩, .string ⟨#[44]⟩, .string ⟨#[48]⟩, .string ⟨#[45]⟩, .string ⟨#[97]⟩, .string ⟨#[122, 101, 114, 111]⟩, .string ⟨#[111, 110, 101, 40]⟩, .string ⟨#[102, 105, 120, 40, 120, 41]⟩, .string ⟨#[195, 169]⟩, .string ⟨#[255]⟩, .string ⟨#[111, 114]⟩, .string ⟨#[10]⟩, .string ⟨#[97, 100, 100, 40, 49, 44, 50, 41]⟩, .string ⟨#[119, 104, 101, 110, 40, 51, 44, 122, 101, 114, 111, 41]⟩]
theorem put16_at (i : Nat) (h : i < 16) : ∃ z : ByteArray, put16[i]? = some (.string z) ∧ z.size ≤ 12 := by
  match i, h with
  | 0, _ => exact ⟨_, rfl, by decide⟩
  | 1, _ => exact ⟨_, rfl, by decide⟩
  | 2, _ => exact ⟨_, rfl, by decide⟩
  | 3, _ => exact ⟨_, rfl, by decide⟩
  | 4, _ => exact ⟨_, rfl, by decide⟩
  | 5, _ => exact ⟨_, rfl, by decide⟩
  | 6, _ => exact ⟨_, rfl, by decide⟩
  | 7, _ => exact ⟨_, rfl, by decide⟩
  | 8, _ => exact ⟨_, rfl, by decide⟩
  | 9, _ => exact ⟨_, rfl, by decide⟩
  | 10, _ => exact ⟨_, rfl, by decide⟩
  | 11, _ => exact ⟨_, rfl, by decide⟩
  | 12, _ => exact ⟨_, rfl, by decide⟩
  | 13, _ => exact ⟨_, rfl, by decide⟩
  | 14, _ => exact ⟨_, rfl, by decide⟩
  | 15, _ => exact ⟨_, rfl, by decide⟩
  | n + 16, h => exact absurd h (by omega)

set_option maxHeartbeats 4000000 in
set_option maxRecDepth 100000 in
theorem text7_any (p : Pl) (what at' : Int) (s : ByteArray) (raw : Bool) (w : World) (hp : PlanIn w p) (hw1 : -9223372036854775808 ≤ what) (hw2 : what ≤ 9223372036854775807) (ha1 : -9223372036854775808 ≤ at') (ha2 : at' ≤ 9223372036854775807) (hs : s.size ≤ 140737488351232) :
    Calls Tryz.prog 5 #[planV p, .int .i64 what, .int .i64 at', .string s, .bool raw] w fun e w' => ∃ x : ByteArray, e = .returned (.string x) ∧ x.size ≤ 1000 ∧ Below w.heap.size w w' := by
  have HP := hidIn hp
  clear hp
  unfold planV
  cases raw with
  | true =>
    go_enter Tryz.func5, Tryz.ntmps5
    go_wp2_with fail
    refine calls_same (text_any s 100 _ (by unfold maxLen; omega) (by omega)) ?_
    go_wp2_with fail
    go_ret
    exact ⟨_, rfl, by have := cutTo_size s 100; omega, below_alloc (Below.refl _ _) _⟩
  | false =>
    go_enter Tryz.func5, Tryz.ntmps5
    go_wp2_with fail
    obtain ⟨W, hW⟩ : ∃ W, W = w.alloc (.cells #[.slice p.na p.nl p.nc, .slice p.wa p.wl p.wc] 25) := ⟨_, rfl⟩
    have HB : Hid (Below w.heap.size w W) := by rw [hW]; exact below_alloc (Below.refl _ _) _
    have HPW := hidIn (HP.out.below HB.out)
    rw [← hW]
    clear hW HP
    refine (right_any p W HPW.out).mono ?_
    rintro e w1 ⟨v1, rfl, ht1, hb1⟩
    have HT1 := hidIn (ht1.low (Nat.zero_le _))
    have HB1 := hidIn (HB.out.trans (hb1.mono HB.out.size))
    clear ht1 hb1
    have HFI := hidIn (wTextC_le (rightP_fine p).2)
    have HOK := hidIn (cwhole_ok _ (rightP_whole p))
    have HWT := hidIn (rightP_weight p)
    obtain ⟨c, hc⟩ : ∃ c, rightP p = c := ⟨_, rfl⟩
    rw [hc] at HFI HOK HWT HT1
    clear hc
    go_wp2_with fail
    refine (refWriteC_any c HOK.out (by have := HWT.out; omega) w1 v1 HT1.out).mono ?_
    rintro e w2 ⟨rfl, hb2⟩
    have HB2 := hidIn (HB1.out.trans (hb2.mono HB1.out.size))
    have ht := HFI.out
    clear hb2 HT1
    generalize wTextC c = t at *
    generalize wErrC c = te at *
    go_wp2_with fail
    refine calls_same (within_any at' _ _ (by omega) (by omega) ha1 ha2) ?_
    have hk1 : 0 ≤ at' % ((t.size : Int) + 1) := Int.emod_nonneg _ (by omega)
    have hk2 : at' % ((t.size : Int) + 1) < (t.size : Int) + 1 := Int.emod_lt_of_pos _ (by omega)
    obtain ⟨k, hk⟩ : ∃ k : Nat, at' % ((t.size : Int) + 1) = (k : Int) := ⟨(at' % ((t.size : Int) + 1)).toNat, by omega⟩
    rw [hk]
    rw [hk] at hk1 hk2
    clear hk ha1 ha2
    go_wp2_with fail
    refine calls_same (within_any what _ _ (by omega) (by omega) hw1 hw2) ?_
    have hj1 : 0 ≤ what % 30 := Int.emod_nonneg _ (by omega)
    have hj2 : what % 30 < 30 := Int.emod_lt_of_pos _ (by omega)
    obtain ⟨j, hj⟩ : ∃ j : Nat, what % 30 = (j : Int) := ⟨(what % 30).toNat, by omega⟩
    rw [hj]
    rw [hj] at hj1 hj2
    clear hj hw1 hw2
    have hcell : ∀ (i : Nat) (v : Value), put16[i]? = some v → (w2.alloc (.cells put16 9)).cell? ⟨w2.heap.size, i, none⟩ = some v := fun i v hv => by
      have hb := (MapKept.heap_alloc w2 (.cells put16 9)).1
      simp only [World.cell?, hb]
      simp [hv]
    have HB3 : Hid (Below w.heap.size w (w2.alloc (.cells put16 9))) := below_alloc HB2.out _
    unfold put16 at hcell HB3
    generalize hWe : w2.alloc (.cells #[.string ⟨#[32]⟩, .string ⟨#[40]⟩, .string ⟨#[41]⟩, .string ⟨#[44]⟩, .string ⟨#[48]⟩, .string ⟨#[45]⟩, .string ⟨#[97]⟩, .string ⟨#[122, 101, 114, 111]⟩, .string ⟨#[111, 110, 101, 40]⟩, .string ⟨#[102, 105, 120, 40, 120, 41]⟩, .string ⟨#[195, 169]⟩, .string ⟨#[255]⟩, .string ⟨#[111, 114]⟩, .string ⟨#[10]⟩, .string ⟨#[97, 100, 100, 40, 49, 44, 50, 41]⟩, .string ⟨#[119, 104, 101, 110, 40, 51, 44, 122, 101, 114, 111, 41]⟩] 9) = W3 at *
    clear hWe
    generalize w2.heap.size = b2 at *
    have hkt : k ≤ t.size := by omega
    by_cases hj16 : j < 16
    · have hj16' : (j : Int) < 16 := by omega
      obtain ⟨z, hz, hzs⟩ := put16_at j hj16
      have hc := hcell j _ (by unfold put16 at hz; exact hz)
      clear hcell hz
      have q1 : (t.extract 0 k).size = k := by rw [ByteArray.size_extract]; omega
      have q2 : (t.extract k t.size).size = t.size - k := by rw [ByteArray.size_extract]; omega
      have q3 : (t.extract 0 k ++ z).size = k + z.size := by rw [ByteArray.size_append, q1]
      have q4 : (t.extract 0 k ++ z ++ t.extract k t.size).size = k + z.size + (t.size - k) := by rw [ByteArray.size_append, q3, q2]
      go_upto_region 8 with fail
      go_quiet (fail)
      go_wp2_with fail
      go_ret
      exact ⟨_, rfl, by omega, ⟨HB3.out.os, HB3.out.tape, HB3.out.output, HB3.out.size, HB3.out.block⟩⟩
    · have hj16' : ¬ (j : Int) < 16 := by omega
      clear hcell
      by_cases hj21 : j < 21
      · have hj21' : (j : Int) < 21 := by omega
        by_cases hkk : k < t.size
        · have hkk' : (k : Int) < (t.size : Int) := by omega
          have q1 : (t.extract 0 k).size = k := by rw [ByteArray.size_extract]; omega
          have q2 : (t.extract (k + 1) t.size).size = t.size - (k + 1) := by rw [ByteArray.size_extract]; omega
          have q3 : (t.extract 0 k ++ t.extract (k + 1) t.size).size = k + (t.size - (k + 1)) := by rw [ByteArray.size_append, q1, q2]
          go_upto_region 10 with fail
          go_quiet (fail)
          go_wp2_with fail
          go_ret
          exact ⟨_, rfl, by omega, ⟨HB3.out.os, HB3.out.tape, HB3.out.output, HB3.out.size, HB3.out.block⟩⟩
        · have hkk' : ¬ (k : Int) < (t.size : Int) := by omega
          go_wp2_with fail
          go_ret
          exact ⟨_, rfl, by omega, HB3.out⟩
      · have hj21' : ¬ (j : Int) < 21 := by omega
        go_wp2_with fail
        go_ret
        exact ⟨_, rfl, by omega, HB3.out⟩

end Go.Proofs.YtfmjjfpajohihaaGreatDoor
namespace Go.Proofs.YtfmjjfpajohihaaGreatDoor
open Go.RowKit
set_option linter.unusedVariables false

theorem wake7 : rdT ⟨#[103, 105, 118, 101, 40, 32, 122, 101, 114, 111, 32, 41]⟩ = (.give .zero, 0, 0) := by kernel_rfl
set_option maxHeartbeats 1000000 in
set_option maxRecDepth 100000 in
theorem wakes7_any (w : World) : Calls Tryz.prog 10 #[] w fun e w' => e = .returned (.bool true) ∧ Below w.heap.size w w' := by
  have HK := hidIn (readT_any ⟨#[103, 105, 118, 101, 40, 32, 122, 101, 114, 111, 32, 41]⟩ w (by decide))
  rw [wake7] at HK
  go_enter Tryz.func10, Tryz.ntmps10
  go_wp2_with fail
  refine HK.out.mono ?_
  rintro e w1 ⟨rfl, _, hb1⟩
  have HB1 := hidIn hb1
  clear hb1
  have hv : (C.give .zero).val = .iface 69 (.agg #[.iface 77 (.agg #[])]) := rfl
  simp only [hv]
  have hy : ∀ xT w, (Instr.typeAssert (.iface 69 (.agg #[.iface 77 (.agg #[])])) xT 69 true).run Tryz.prog w = _ := fun xT w => assert_yes Tryz.underlying69 (by intro m h; cases h) _ xT w
  go_wp2_with fail
  go_ret
  exact ⟨rfl, below_alloc HB1.out _⟩

end Go.Proofs.YtfmjjfpajohihaaGreatDoor
namespace Go.Proofs.YtfmjjfpajohihaaGreatDoor
open Go.RowKit
set_option linter.unusedVariables false

theorem rdO_by (s : ByteArray) (h : (rdO s).2.2 = 0) : chk (rdO s).1 = 0 ∧ bzO (rdO s).1 ≤ s.size ∧ s.size ≤ 1000 := by
  unfold rdO at h ⊢
  split at h
  · rename_i h1
    rw [if_pos h1]
    split at h
    · rename_i h2
      rw [if_pos h2]
      have h3 := obsR_by 14 (openR s) 1 rfl (fun hx => absurd hx (by omega)) (end_z h1)
      have h4 := open_by s h3.1
      exact ⟨h2, by simp only; omega, h4.2⟩
    · rename_i h2; exact absurd h h2
  · rename_i h1; exact absurd h h1
theorem rdO_fail {s : ByteArray} (h : ¬ (rdO s).2.2 = 0) : (rdO s).1 = .odd .nilIface := by
  unfold rdO at h ⊢
  split at h
  · rename_i h1
    rw [if_pos h1]
    split at h
    · exact absurd rfl h
    · rename_i h2
      rw [if_neg h2]
  · rename_i h1
    rw [if_neg h1]
theorem self_sameO (o : O) (h : formB o = true) : sameO o o = true := by
  induction o with
  | odd v => cases h
  | const n => simp [sameO]
  | fix s => simp [sameO]
  | neg a h1 => simp [sameO, h1 h]
  | add a b h1 h2 => simp only [formB, Bool.and_eq_true] at h; simp [sameO, h1 h.1, h2 h.2]
  | mul a b h1 h2 => simp only [formB, Bool.and_eq_true] at h; simp [sameO, h1 h.1, h2 h.2]
  | max a b h1 h2 => simp only [formB, Bool.and_eq_true] at h; simp [sameO, h1 h.1, h2 h.2]
theorem self_sameC (c : C) (h : formC c = true) : sameC c c = true := by
  induction c with
  | odd v => cases h
  | zero => simp [sameC]
  | one s => simp [sameC]
  | give c h1 => simp [sameC, h1 h]
  | and a b h1 h2 => simp only [formC, Bool.and_eq_true] at h; simp [sameC, h1 h.1, h2 h.2]
  | or s a b h1 h2 => simp only [formC, Bool.and_eq_true] at h; simp [sameC, h1 h.1.2, h2 h.2]
  | scale o c h1 => simp only [formC, Bool.and_eq_true] at h; simp [sameC, self_sameO o h.1, h1 h.2]
  | when n c h1 => simp only [formC, Bool.and_eq_true] at h; simp [sameC, h1 h.2]
  | iff o l r h1 h2 => simp only [formC, Bool.and_eq_true] at h; simp [sameC, self_sameO o h.1.1, h1 h.1.2, h2 h.2]
theorem sizeC_bz (c : C) (hf : formC c = true) : (textC c).size = bzC c := by
  have := congrArg List.length (rbC c hf)
  rw [size_list, size_list] at this
  exact this.symm
theorem sizeO_bz (o : O) (hf : formB o = true) : (textO o).size = bzO o := by
  have := congrArg List.length (rbO o hf)
  rw [size_list, size_list] at this
  exact this.symm
theorem rdT_weight (s : ByteArray) (h : (rdT s).2.2 = 0) : (rdT s).1.weight ≤ 100000 := by
  unfold rdT at h ⊢
  split at h
  · rename_i g1
    rw [if_pos g1]
    split at h
    · rename_i g2
      rw [if_pos g2]
      have h1 := (termR_sz 14 (openR s) 1 rfl (fun hx => absurd hx (by omega)) (end_z g1)).2
      have h2 := open_len s
      simp only
      omega
    · rename_i g2; exact absurd h g2
  · rename_i g1; exact absurd h g1
/-- A contract that was read: written, read again, written again. -/
theorem once_of (s : ByteArray) (h : (rdT s).2.2 = 0) : ∃ c, rdT s = (c, 0, 0) ∧ chkC c = 0 ∧ (textC c).size ≤ s.size ∧ s.size ≤ 1000 ∧ sameC c c = true ∧ rdT (textC c) = (c, 0, 0) ∧ wTextC c = textC c ∧ wErrC c = 0 ∧ c.weight ≤ 100000 ∧ (∀ r ∈ rest (textC c) 0, r ≠ 32) := by
  obtain ⟨h1, h2, h3⟩ := rdT_by s h
  have hf := (chkC_zero h1).1
  have hz := sizeC_bz _ hf
  have hrd : rdT s = ((rdT s).1, 0, 0) := by
    unfold rdT at h ⊢
    split at h
    · rename_i g1
      rw [if_pos g1]
      split at h
      · rename_i g2
        rw [if_pos g2]
      · rename_i g2; exact absurd h g2
    · rename_i g1; exact absurd h g1
  refine ⟨(rdT s).1, hrd, h1, by omega, h3, self_sameC _ hf, read_write _ h1 (by omega), ?_, ?_, ?_, ?_⟩
  · unfold wTextC; rw [if_pos h1, if_neg (by omega)]
  · unfold wErrC; rw [if_pos h1, if_neg (by omega)]
  · exact rdT_weight s h
  · have hr : rest (textC (rdT s).1) 0 = rnC (rdT s).1 := runes_of _ _ (vC _) (rbC _ hf).symm
    rw [hr]
    exact fun r hr => bne_iff_ne.1 (List.all_eq_true.1 (n32C _ hf) r hr)
theorem onceO_of (s : ByteArray) (h : (rdO s).2.2 = 0) : ∃ o, rdO s = (o, 0, 0) ∧ chk o = 0 ∧ (textO o).size ≤ 1000 ∧ sameO o o = true ∧ rdO (textO o) = (o, 0, 0) ∧ wText o = textO o ∧ wErr o = 0 ∧ o.nodes ≤ 60 := by
  obtain ⟨h1, h2, h3⟩ := rdO_by s h
  have hf := (chk_zero h1).1
  have hz := sizeO_bz _ hf
  have hrd : rdO s = ((rdO s).1, 0, 0) := by
    unfold rdO at h ⊢
    split at h
    · rename_i g1
      rw [if_pos g1]
      split at h
      · rename_i g2
        rw [if_pos g2]
      · rename_i g2; exact absurd h g2
    · rename_i g1; exact absurd h g1
  refine ⟨(rdO s).1, hrd, h1, by omega, self_sameO _ hf, read_writeO _ h1 (by omega), ?_, ?_, (chk_zero h1).2.1⟩
  · unfold wText; rw [if_pos h1, if_neg (by omega)]
  · unfold wErr; rw [if_pos h1, if_neg (by omega)]
theorem reads7 (s : ByteArray) (hs : s.size ≤ 140737488351232) (c : C) (hr : rdT s = (c, 0, 0)) (w : World) : Calls Tryz.prog 6 #[.string s] w fun e w' => e = .returned (.tuple #[c.val, .int .i64 0, .int .i64 0]) ∧ c.Ok ∧ Below w.heap.size w w' := by
  have h := readT_any s w hs
  generalize rdT s = R at *
  subst hr
  exact h
theorem reads7O (s : ByteArray) (hs : s.size ≤ 140737488351232) (o : O) (hr : rdO s = (o, 0, 0)) (w : World) : Calls Tryz.prog 9 #[.string s] w fun e w' => e = .returned (.tuple #[o.val, .int .i64 0, .int .i64 0]) ∧ o.Ok ∧ Below w.heap.size w w' := by
  have h := readO_any s w hs
  generalize rdO s = R at *
  subst hr
  exact h
theorem fails7 (s : ByteArray) (hs : s.size ≤ 140737488351232) (h : ¬ (rdT s).2.2 = 0) (w : World) : ∃ pl er : Int, ¬ er = 0 ∧ Calls Tryz.prog 6 #[.string s] w fun e w' => e = .returned (.tuple #[.nilIface, .int .i64 pl, .int .i64 er]) ∧ Below w.heap.size w w' := by
  have h1 := readT_any s w hs
  refine ⟨(rdT s).2.1, (rdT s).2.2, h, h1.mono ?_⟩
  rintro e w' ⟨he, _, hb⟩
  have hv : (rdT s).1.val = .nilIface := by
    have : (rdT s).1 = .odd .nilIface := by
      unfold rdT at h ⊢
      split at h
      · rename_i g1
        rw [if_pos g1]
        split at h
        · exact absurd rfl h
        · rename_i g2; rw [if_neg g2]
      · rename_i g1; rw [if_neg g1]
    rw [this]; rfl
  rw [hv] at he
  exact ⟨he, hb⟩
theorem fails7O (s : ByteArray) (hs : s.size ≤ 140737488351232) (h : ¬ (rdO s).2.2 = 0) (w : World) : ∃ pl er : Int, ¬ er = 0 ∧ Calls Tryz.prog 9 #[.string s] w fun e w' => e = .returned (.tuple #[.nilIface, .int .i64 pl, .int .i64 er]) ∧ Below w.heap.size w w' := by
  have h1 := readO_any s w hs
  refine ⟨(rdO s).2.1, (rdO s).2.2, h, h1.mono ?_⟩
  rintro e w' ⟨he, _, hb⟩
  have hv : (rdO s).1.val = .nilIface := by rw [rdO_fail h]; rfl
  rw [hv] at he
  exact ⟨he, hb⟩
/-- A byte that begins a rune that is no blank is none. -/
theorem start_ne (s : ByteArray) (pos : Nat) (h : (((Utf8.decode s pos).1 : Nat) : Int) ≠ 32) : ¬ (s.get! pos).toNat = 32 := by
  intro e
  apply h
  rw [decode_ascii s pos (by omega)]
  simp [e]

theorem start_no (s : ByteArray) (pos : Nat) (hp : pos < s.size) (h : (((Utf8.decode s pos).1 : Nat) : Int) ≠ 32) : (((s[pos]'hp).toNat : Int) == 32) = false := by
  have h1 := start_ne s pos h
  have hg : s.get! pos = s[pos]'hp := by
    show s.data[pos]! = s.data[pos]'hp
    exact getElem!_pos s.data pos hp
  rw [hg] at h1
  rw [beq_eq_false_iff_ne]
  omega

end Go.Proofs.YtfmjjfpajohihaaGreatDoor
namespace Go.Proofs.YtfmjjfpajohihaaGreatDoor
open Go.RowKit
set_option linter.unusedVariables false

set_option maxHeartbeats 20000000 in
set_option maxRecDepth 100000 in
theorem readOnce_walk (p : Pl) (what at' : Int) (s : ByteArray) (raw : Bool) (w : World) (hp : PlanIn w p) (hw1 : -9223372036854775808 ≤ what) (hw2 : what ≤ 9223372036854775807) (ha1 : -9223372036854775808 ≤ at') (ha2 : at' ≤ 9223372036854775807) (hs : s.size ≤ 140737488351232) (ht : TabW w) :
    Calls Tryz.prog 3 #[planV p, .int .i64 what, .int .i64 at', .string s, .bool raw] w fun e w' => e = .returned (.bool true) ∧ Below w.heap.size w w' := by
  have HP := hidIn hp
  have HTB := hidIn ht
  clear hp ht
  unfold planV
  go_enter Tryz.func3, Tryz.ntmps3
  go_wp2_with fail
  obtain ⟨W, hW⟩ : ∃ W, W = w.alloc (.cells #[.slice p.na p.nl p.nc, .slice p.wa p.wl p.wc] 25) := ⟨_, rfl⟩
  have HB : Hid (Below w.heap.size w W) := by rw [hW]; exact below_alloc (Below.refl _ _) _
  have HPW := hidIn (HP.out.below HB.out)
  rw [← hW]
  clear hW HP
  refine (text7_any p what at' s raw W HPW.out hw1 hw2 ha1 ha2 hs).mono ?_
  rintro e w1 ⟨x, rfl, hx, hb1⟩
  have HB1 := hidIn (HB.out.trans (hb1.mono HB.out.size))
  clear hb1 HPW hw1 hw2 ha1 ha2 hs
  by_cases he : (rdT x).2.2 = 0
  · obtain ⟨c, hrd, hck, hts, _, hsm, hrr, hwt, hwe, hwg, hnb⟩ := once_of x he
    clear he
    have HR1 := hidIn (reads7 x (by omega) c hrd w1)
    have HRR := hidIn (reads7 (textC c) (by omega) c hrr)
    go_wp2_with fail
    refine HR1.out.mono ?_
    rintro e w2 ⟨rfl, hok, hb2⟩
    have HB2 := hidIn (HB1.out.trans (hb2.mono HB1.out.size))
    clear hb2
    have HOK := hidIn hok
    have HWR : Hid (∀ w, TabW w → Calls Tryz.prog 7 #[c.val] w fun e w' => e = .returned (.tuple #[.string (textC c), .int .i64 0]) ∧ Below w.heap.size w w') := fun w hw => by
      have h := writeC_any c HOK.out (by omega) w hw
      rw [hwt, hwe] at h
      exact h
    have HR2 : Hid (∀ w, Calls Tryz.prog 6 #[.string (textC c)] w fun e w' => e = .returned (.tuple #[c.val, .int .i64 0, .int .i64 0]) ∧ Below w.heap.size w w') := fun w => (HRR.out w).mono fun e w' h => ⟨h.1, h.2.2⟩
    have HSM : Hid (∀ w, Calls Tryz.prog 8 #[c.val, c.val] w fun e w' => e = .returned (.bool true) ∧ Below w.heap.size w w') := fun w => by
      have h := sameT_any c HOK.out c HOK.out w
      rw [hsm] at h
      exact h
    have qv := c.one' HOK.out
    have HNB := hidIn hnb
    clear hrd hck hsm hrr hwt hwe hwg hnb HOK HR1 HRR hok
    generalize c.val = vc at *
    have sv := qv.store
    have cv := qv.cells
    have mv := qv.cells
    unfold Value.cells at mv
    clear qv
    generalize textC c = u at *
    have hux : ¬ (x.size : Int) < (u.size : Int) := by omega
    go_wp2_with fail
    refine (HWR.out w2 (tabW_below HTB.out HB2.out)).mono ?_
    rintro e w3 ⟨rfl, hb3⟩
    have HB3 := hidIn (HB2.out.trans (hb3.mono HB2.out.size))
    clear hb3
    go_wp2_with fail
    refine (HR2.out w3).mono ?_
    rintro e w4 ⟨rfl, hb4⟩
    have HB4 := hidIn (HB3.out.trans (hb4.mono HB3.out.size))
    clear hb4
    go_wp2_with fail
    refine (HWR.out w4 (tabW_below HTB.out HB4.out)).mono ?_
    rintro e w5 ⟨rfl, hb5⟩
    have HB5 := hidIn (HB4.out.trans (hb5.mono HB4.out.size))
    clear hb5
    go_wp2_with fail
    refine (HSM.out w5).mono ?_
    rintro e w6 ⟨rfl, hb6⟩
    have HB6 := hidIn (HB5.out.trans (hb6.mono HB5.out.size))
    clear hb6
    go_wp2_with fail
    go_loopw [22] (fun _ w' => ∃ pos : Nat, pos ≤ u.size ∧ w' = w6.iter u pos ∧ ∀ r ∈ rest u pos, r ≠ 32) (fun _ w' => u.size - w'.iterPos w6.heap.size)
    case atStart => exact ⟨0, by omega, rfl, HNB.out⟩
    case round =>
      obtain ⟨pos, hps, rfl, hall⟩ := hrel
      by_cases hp : pos < u.size
      · have hwd := width_pos u pos hp
        have hle := decode_fits u pos hp
        have hst := rest_step u pos hp
        rw [hst] at hall
        have hne := start_no u pos hp (hall _ (List.mem_cons_self ..))
        have HALL : Hid (∀ r ∈ rest u (pos + (Utf8.decode u pos).2), r ≠ 32) := fun r hr => hall r (List.mem_cons_of_mem _ hr)
        clear hall hst
        have hnx : ∀ ty, (Instr.next (.pointer (some ⟨w6.heap.size, 0, none⟩)) true ty).run Tryz.prog (w6.iter u pos) = _ := fun ty => run_next_any w6 u pos ty hp
        generalize ((Utf8.decode u pos).1 : Int) = r at *
        generalize (Utf8.decode u pos).2 = wi at *
        have hpi : (pos : Int) < (u.size : Int) := by omega
        go_wp2_with fail
        go_roundw
        case rel => exact ⟨pos + wi, by omega, rfl, HALL.out⟩
        case measure => simp; omega
      · have hnx : ∀ ty, (Instr.next (.pointer (some ⟨w6.heap.size, 0, none⟩)) true ty).run Tryz.prog (w6.iter u pos) = _ := fun ty => run_next_end w6 u pos ty hp
        have HB7 := hidIn (HB6.out.trans ((below_iter w6 u pos).mono HB6.out.size))
        clear hall HNB HWR HR2 HSM
        go_upto_region 14 with fail
        generalize w6.iter u pos = w7 at *
        go_wp2_with fail
        by_cases ho : (rdO x).2.2 = 0
        · obtain ⟨o, hrd, hck, hts, hsm, hrr, hwt, hwe, hwg⟩ := onceO_of x ho
          clear ho
          have HQ1 := hidIn (reads7O x (by omega) o hrd w7)
          have HQR := hidIn (reads7O (textO o) (by omega) o hrr)
          refine HQ1.out.mono ?_
          rintro e v2 ⟨rfl, hok, hb2⟩
          have HV2 := hidIn (HB7.out.trans (hb2.mono HB7.out.size))
          clear hb2
          have HOO := hidIn hok
          have HWO : Hid (∀ w, TabW w → Calls Tryz.prog 11 #[o.val] w fun e w' => e = .returned (.tuple #[.string (textO o), .int .i64 0]) ∧ Below w.heap.size w w') := fun w hw => by
            have h := writeO_any o HOO.out (by omega) w hw
            rw [hwt, hwe] at h
            exact h
          have HQ2 : Hid (∀ w, Calls Tryz.prog 9 #[.string (textO o)] w fun e w' => e = .returned (.tuple #[o.val, .int .i64 0, .int .i64 0]) ∧ Below w.heap.size w w') := fun w => (HQR.out w).mono fun e w' h => ⟨h.1, h.2.2⟩
          have HSO : Hid (∀ w, Calls Tryz.prog 12 #[o.val, o.val] w fun e w' => e = .returned (.bool true) ∧ Below w.heap.size w w') := fun w => by
            have h := same_any o HOO.out o HOO.out w
            rw [hsm] at h
            exact h
          have qo := o.one' HOO.out
          clear hrd hck hsm hrr hwt hwe hwg HOO HQ1 HQR hok
          generalize o.val = vo at *
          have so := qo.store
          have co := qo.cells
          have mo := qo.cells
          unfold Value.cells at mo
          clear qo
          generalize textO o = uo at *
          go_wp2_with fail
          refine (HWO.out v2 (tabW_below HTB.out HV2.out)).mono ?_
          rintro e v3 ⟨rfl, hb3⟩
          have HV3 := hidIn (HV2.out.trans (hb3.mono HV2.out.size))
          clear hb3
          go_wp2_with fail
          refine (HQ2.out v3).mono ?_
          rintro e v4 ⟨rfl, hb4⟩
          have HV4 := hidIn (HV3.out.trans (hb4.mono HV3.out.size))
          clear hb4
          go_wp2_with fail
          refine (HSO.out v4).mono ?_
          rintro e v5 ⟨rfl, hb5⟩
          have HV5 := hidIn (HV4.out.trans (hb5.mono HV4.out.size))
          clear hb5
          go_wp2_with fail
          refine (wakes7_any v5).mono ?_
          rintro e v6 ⟨rfl, hb6⟩
          go_wp2_with fail
          go_ret
          exact ⟨rfl, HV5.out.trans (hb6.mono HV5.out.size)⟩
        · obtain ⟨ol, oe, hoe, hof⟩ := fails7O x (by omega) ho w7
          have HOF := hidIn hof
          clear hof ho
          refine HOF.out.mono ?_
          rintro e v2 ⟨rfl, hb2⟩
          have HV2 := hidIn (HB7.out.trans (hb2.mono HB7.out.size))
          clear hb2
          have hoe2 : (oe != 0) = true := by rw [bne_iff_ne]; exact hoe
          go_wp2_with fail
          refine (wakes7_any v2).mono ?_
          rintro e v6 ⟨rfl, hb6⟩
          go_wp2_with fail
          go_ret
          exact ⟨rfl, HV2.out.trans (hb6.mono HV2.out.size)⟩
  · obtain ⟨pl, er, her, hrf⟩ := fails7 x (by omega) he w1
    have HRF := hidIn hrf
    clear hrf he
    go_wp2_with fail
    refine HRF.out.mono ?_
    rintro e w2 ⟨rfl, hb2⟩
    have HB2 := hidIn (HB1.out.trans (hb2.mono HB1.out.size))
    clear hb2
    have her2 : (er == 0) = false := by rw [beq_eq_false_iff_ne]; exact her
    go_wp2_with fail
    by_cases ho : (rdO x).2.2 = 0
    · obtain ⟨o, hrd, hck, hts, hsm, hrr, hwt, hwe, hwg⟩ := onceO_of x ho
      clear ho
      have HQ1 := hidIn (reads7O x (by omega) o hrd w2)
      have HQR := hidIn (reads7O (textO o) (by omega) o hrr)
      refine HQ1.out.mono ?_
      rintro e v2 ⟨rfl, hok, hb2⟩
      have HV2 := hidIn (HB2.out.trans (hb2.mono HB2.out.size))
      clear hb2
      have HOO := hidIn hok
      have HWO : Hid (∀ w, TabW w → Calls Tryz.prog 11 #[o.val] w fun e w' => e = .returned (.tuple #[.string (textO o), .int .i64 0]) ∧ Below w.heap.size w w') := fun w hw => by
        have h := writeO_any o HOO.out (by omega) w hw
        rw [hwt, hwe] at h
        exact h
      have HQ2 : Hid (∀ w, Calls Tryz.prog 9 #[.string (textO o)] w fun e w' => e = .returned (.tuple #[o.val, .int .i64 0, .int .i64 0]) ∧ Below w.heap.size w w') := fun w => (HQR.out w).mono fun e w' h => ⟨h.1, h.2.2⟩
      have HSO : Hid (∀ w, Calls Tryz.prog 12 #[o.val, o.val] w fun e w' => e = .returned (.bool true) ∧ Below w.heap.size w w') := fun w => by
        have h := same_any o HOO.out o HOO.out w
        rw [hsm] at h
        exact h
      have qo := o.one' HOO.out
      clear hrd hck hsm hrr hwt hwe hwg HOO HQ1 HQR hok
      generalize o.val = vo at *
      have so := qo.store
      have co := qo.cells
      have mo := qo.cells
      unfold Value.cells at mo
      clear qo
      generalize textO o = uo at *
      go_wp2_with fail
      refine (HWO.out v2 (tabW_below HTB.out HV2.out)).mono ?_
      rintro e v3 ⟨rfl, hb3⟩
      have HV3 := hidIn (HV2.out.trans (hb3.mono HV2.out.size))
      clear hb3
      go_wp2_with fail
      refine (HQ2.out v3).mono ?_
      rintro e v4 ⟨rfl, hb4⟩
      have HV4 := hidIn (HV3.out.trans (hb4.mono HV3.out.size))
      clear hb4
      go_wp2_with fail
      refine (HSO.out v4).mono ?_
      rintro e v5 ⟨rfl, hb5⟩
      have HV5 := hidIn (HV4.out.trans (hb5.mono HV4.out.size))
      clear hb5
      go_wp2_with fail
      refine (wakes7_any v5).mono ?_
      rintro e v6 ⟨rfl, hb6⟩
      go_wp2_with fail
      go_ret
      exact ⟨rfl, HV5.out.trans (hb6.mono HV5.out.size)⟩
    · obtain ⟨ol, oe, hoe, hof⟩ := fails7O x (by omega) ho w2
      have HOF := hidIn hof
      clear hof ho
      refine HOF.out.mono ?_
      rintro e v2 ⟨rfl, hb2⟩
      have HV2 := hidIn (HB2.out.trans (hb2.mono HB2.out.size))
      clear hb2
      have hoe2 : (oe != 0) = true := by rw [bne_iff_ne]; exact hoe
      go_wp2_with fail
      refine (wakes7_any v2).mono ?_
      rintro e v6 ⟨rfl, hb6⟩
      go_wp2_with fail
      go_ret
      exact ⟨rfl, HV2.out.trans (hb6.mono HV2.out.size)⟩

end Go.Proofs.YtfmjjfpajohihaaGreatDoor
