/- The helpers of the statements on lists of texts and on names. -/
import Derived.Test.YtdlflpnjmldakaaNames
import Derived.Test.YtdlflpnjmldakaaV1
import Derived.Test.YtdlflpnjmldakaaKl
import Derived.Test.YtdlflpnjmldakaaR06
import Derived.Test.YtdlflpnjmldakaaMaker
import Derived.Test.YtdlflpnjmldakaaMakerObs
import Derived.Test.YtdlflpnjmldakaaTermForm
import Derived.Laws.AppendOwnNone
import Derived.Test.YtdlflpnjmldakaaRefT
import Derived.Test.YtdlflpnjmldakaaFormT
import Derived.Test.YtdlflpnjmldakaaRefO
import Derived.Test.YtdlflpnjmldakaaRefSame
import Derived.Test.YtdlflpnjmldakaaPlainO2
import Derived.ProofKit
import Derived.OpenShut
import Derived.ShutString
import Derived.SizedLaws
import Derived.Lib.SmallJoins
import Derived.Test.YtdlflpnjmldakaaMakerBin
import Derived.Test.YtdlflpnjmldakaaOddV
namespace Go.Proofs.Ytdlflpnjmldakaa
open Go.RowKit
set_option linter.unusedVariables false

theorem below_drewN {B : Nat} {w w' : World} (h : Below B w w') (n : Nat) : Below B w (w'.drewN n) := ⟨h.os, h.tape, h.output, h.size, h.block⟩
theorem own_str {w : World} {B : Nat} {v : Value} {l : List ByteArray} (h : w.ownsRow B 9 1 v l.length (strCells l)) : ∃ ao cap, v = .slice ao l.length cap ∧ (∀ k (hk : k < l.length), ∃ g, ao = some ⟨g, 0, none⟩ ∧ g < w.heap.size ∧ w.cell? ⟨g, k, none⟩ = some (.string l[k])) ∧ l.length ≤ 9223372036854775807 := by
  rcases h.2 with ⟨rfl, h0⟩ | ⟨g, cap, cur, rfl, hb, hg, hnc, hcm, _⟩
  · exact ⟨none, 0, by rw [h0], fun k hk => by omega, by omega⟩
  · refine ⟨some ⟨g, 0, none⟩, cap, rfl, fun k hk => ⟨g, rfl, (Array.getElem?_eq_some_iff.1 hg).1, ?_⟩, by unfold maxLen at hcm; omega⟩
    rw [h.cellAt k (by omega)]
    simp [strCells, hk]

set_option maxHeartbeats 1000000 in
set_option maxRecDepth 100000 in
theorem sameStr_any (l : List ByteArray) (v v' : Value) (B B' : Nat) (w : World) (hown : w.ownsRow B 9 1 v l.length (strCells l)) (hown' : w.ownsRow B' 9 1 v' l.length (strCells l)) :
    Calls Try.prog 18 #[v, v'] w fun e w' => e = .returned (.bool true) ∧ Below w.heap.size w w' := by
  obtain ⟨ao, cap, rfl, hc, hll⟩ := own_str hown
  obtain ⟨ao', cap', rfl, hc', _⟩ := own_str hown'
  have HC : Hid (∀ k (hk : k < l.length), ∃ g, ao = some ⟨g, 0, none⟩ ∧ g < w.heap.size ∧ w.cell? ⟨g, k, none⟩ = some (.string l[k])) := hc
  have HC' : Hid (∀ k (hk : k < l.length), ∃ g, ao' = some ⟨g, 0, none⟩ ∧ g < w.heap.size ∧ w.cell? ⟨g, k, none⟩ = some (.string l[k])) := hc'
  clear hc hc' hown hown'
  go_enter Try.func18, Try.ntmps18
  go_wp2_with fail
  go_loopw [5] (fun i wr => ∃ k : Nat, k ≤ l.length ∧ i = .int .i64 k ∧ Below w.heap.size w wr) (fun i _ => l.length - (intOf i).toNat)
  case atStart => exact ⟨0, by omega, rfl, Below.refl _ _⟩
  case round =>
    obtain ⟨k, hk, rfl, hbr⟩ := hrel
    by_cases hlt : k < l.length
    · have hlt' : (k : Int) < (l.length : Int) := by omega
      obtain ⟨g, f1, gl, c1⟩ := HC.out k hlt
      obtain ⟨g', f2, gl', c3⟩ := HC'.out k hlt
      subst f1 f2
      rw [← hbr.cell (p := ⟨g, k, none⟩) gl] at c1
      rw [← hbr.cell (p := ⟨g', k, none⟩) gl'] at c3
      generalize l[k] = tx at *
      go_wp2_with fail
      go_quiet (fail)
      go_wp2_with fail
      go_roundw
      case rel => exact ⟨k + 1, by omega, by go_num, below_drewN hbr _⟩
      case measure => simp [intOf]; omega
    · have hkl : ¬ (k : Int) < (l.length : Int) := by omega
      go_wp2_with fail
      go_ret
      exact ⟨rfl, hbr⟩

end Go.Proofs.Ytdlflpnjmldakaa
namespace Go.Proofs.Ytdlflpnjmldakaa.Vl
open Go.RowKit Wd Cn
set_option linter.unusedVariables false

/-- What Of answers. -/
def ofR (K : KW) (d : Int) (o : O) : Rk := if chk o = 0 then rk K d o else ⟨0, false, 2⟩
def ofE (r : Rk) : Ending := .returned (.tuple #[.int .i64 r.n, .bool r.known, .int .i64 r.e])
theorem chk_form {o : O} (h : chk o = 0) : formB o = true := by
  unfold chk at h
  split at h
  · assumption
  · cases h

set_option maxHeartbeats 1000000 in
theorem of_any (o : O) (hok : o.Ok) (hsz : o.nodes ≤ 1000000) (w : World) (p f c : Nat) (K : KW) (d : Int) (hk : KIn w p f c K) (hd : dayOk d) :
    Calls Try.prog 11 #[o.val, .int .i64 d, .pointer (some ⟨p, 0, none⟩)] w fun e w' => e = ofE (ofR K d o) ∧ Below w.heap.size w w' := by
  have HK : Hid (KIn w p f c K) := hk
  clear hk
  by_cases hc : chk o = 0
  · have HF : Hid (ofR K d o = rk K d o) := by unfold Hid ofR; rw [if_pos hc]
    go_enter Try.func11, Try.ntmps11
    go_wp2_with fail
    refine (check_any o hok hsz w).mono ?_
    rintro e w1 ⟨rfl, hb1⟩
    rw [hc]
    go_wp2_with fail
    refine (reckon_any o hok (chk_form hc) w1 p f c K d (HK.out.below hb1) hd).mono ?_
    rintro e w2 ⟨rfl, hb2⟩
    have HB : Hid (Below w.heap.size w w2) := hb1.trans (hb2.mono hb1.size)
    clear hb1 hb2
    generalize rk K d o = x at *
    unfold Rk.val Rk.cs
    go_wp2_with fail
    go_region
    go_wp2_with fail
    go_ret3
    rw [HF.out]
    exact ⟨rfl, (below_alloc HB.out _).drew⟩
  · have HF : Hid (ofR K d o = ⟨0, false, 2⟩) := by unfold Hid ofR; rw [if_neg hc]
    have hc1 : (chk o != 0) = true := by simpa using hc
    go_enter Try.func11, Try.ntmps11
    go_wp2_with fail
    refine (check_any o hok hsz w).mono ?_
    rintro e w1 ⟨rfl, hb1⟩
    go_wp2_with fail
    go_ret3
    rw [HF.out]
    exact ⟨rfl, hb1⟩

/-- The names that are not fixed. -/
def lackN (K : KW) (d : Int) (l : List ByteArray) : List ByteArray := l.filter fun s => !(K.fixed (s, d)).isSome
def needR (K : KW) (d : Int) (o : O) : List ByteArray := if chk o = 0 then lackN K d o.names else []
theorem lackN_snoc (K : KW) (d : Int) (l : List ByteArray) (s : ByteArray) : lackN K d (l ++ [s]) = if (K.fixed (s, d)).isSome = true then lackN K d l else lackN K d l ++ [s] := by
  unfold lackN
  rw [List.filter_append]
  cases h : K.fixed (s, d) <;> simp [h]
theorem lackN_length (K : KW) (d : Int) (l : List ByteArray) : (lackN K d l).length ≤ l.length := List.length_filter_le _ _
theorem all_small (o : O) (h : o.Ok) : ∀ s ∈ o.all, s.size ≤ 2147483648 := by
  induction o with
  | const n => intro s hs; simp [O.all] at hs
  | fix t => intro s hs; simp [O.all] at hs; subst hs; exact h
  | add l r hl hr => intro s hs; simp only [O.all, List.mem_append] at hs; exact hs.elim (hl h.1 s) (hr h.2 s)
  | neg o ho => intro s hs; exact ho h s hs
  | mul l r hl hr => intro s hs; simp only [O.all, List.mem_append] at hs; exact hs.elim (hl h.1 s) (hr h.2 s)
  | max l r hl hr => intro s hs; simp only [O.all, List.mem_append] at hs; exact hs.elim (hl h.1 s) (hr h.2 s)
  | odd v => intro s hs; simp [O.all] at hs
theorem addAll_mem (l : List ByteArray) : ∀ (acc : List ByteArray) (s : ByteArray), s ∈ addAll acc l → s ∈ acc ∨ s ∈ l := by
  induction l with
  | nil => intro acc s h; exact .inl h
  | cons x l ih =>
    intro acc s h
    rcases ih (addN acc x) s h with h1 | h1
    · unfold addN at h1
      split at h1
      · exact .inl h1
      · rcases List.mem_append.1 h1 with h2 | h2
        · exact .inl h2
        · exact .inr (by simp at h2; simp [h2])
    · exact .inr (List.mem_cons_of_mem _ h1)
theorem names_small (o : O) (h : o.Ok) : ∀ s ∈ o.names, s.size ≤ 2147483648 := fun s hs => by
  rcases addAll_mem _ _ _ hs with h1 | h1
  · simp at h1
  · exact all_small o h s h1
theorem names_length (o : O) : o.names.length ≤ o.nodes := by
  have h1 := addAll_length o.all []
  have h2 := all_nodes o
  simp at h1
  show (addAll [] o.all).length ≤ _
  omega
theorem hidV {p : Prop} (h : p) : Hid p := h

set_option maxHeartbeats 1000000 in
set_option maxRecDepth 100000 in
theorem needs_any (o : O) (hok : o.Ok) (hsz : o.nodes ≤ 1000000) (w : World) (p f c : Nat) (K : KW) (d : Int) (hk : KIn w p f c K) (hd : dayOk d) :
    Calls Try.prog 12 #[o.val, .int .i64 d, .pointer (some ⟨p, 0, none⟩)] w fun e w' => ∃ v, e = .returned v ∧ w'.ownsRow w.heap.size 9 1 v (needR K d o).length (strCells (needR K d o)) ∧ Below w.heap.size w w' := by
  obtain ⟨i0, gi, gz0, gz1, gz2⟩ := info_parts infoStr
  have HK : Hid (KIn w p f c K) := hk
  clear hk
  by_cases hc : chk o = 0
  rotate_left
  · have HF : Hid (needR K d o = []) := by unfold Hid needR; rw [if_neg hc]
    have hc1 : (chk o != 0) = true := by simpa using hc
    go_enter Try.func12, Try.ntmps12
    go_wp2_with fail
    refine (check_any o hok hsz w).mono ?_
    rintro e w1 ⟨rfl, hb1⟩
    go_wp2_with fail
    go_ret
    rw [HF.out]
    exact ⟨_, rfl, World.ownsRow_nil _ _ _ _, hb1⟩
  · have HF : Hid (needR K d o = lackN K d o.names) := by unfold Hid needR; rw [if_pos hc]
    have HS := hidV (names_small o hok)
    have hnl := names_length o
    have HD := hidV hd
    clear hd
    go_enter Try.func12, Try.ntmps12
    go_wp2_with fail
    refine (check_any o hok hsz w).mono ?_
    rintro e w1 ⟨rfl, hb1⟩
    rw [hc]
    go_wp2_with fail
    refine (names_any o hok hsz w1).mono ?_
    rintro e w2 ⟨v2, rfl, hown, hb2⟩
    obtain ⟨ao, cap, rfl, hcl, hll⟩ := own_str hown
    have HC := hidV hcl
    have HB2 : Hid (Below w.heap.size w w2) := hb1.trans (hb2.mono hb1.size)
    have hn1 : o.names.length ≤ 1000000 := by omega
    clear hcl hown hb1 hb2 hsz hok hc hnl
    generalize o.names = l at *
    go_wp2_with fail
    go_loopw [18, 7] (fun s18 s7 wr => ∃ i : Nat, i ≤ l.length ∧ s18 = .int .i64 i ∧ wr.ownsRow w2.heap.size 9 1 s7 (lackN K d (l.take i)).length (strCells (lackN K d (l.take i))) ∧ Below w2.heap.size w2 wr) (fun s18 _ _ => l.length - (intOf s18).toNat)
    case atStart => exact ⟨0, by omega, rfl, World.ownsRow_nil _ _ _ _, Below.refl _ _⟩
    case round =>
      obtain ⟨i, hi, rfl, hrow, hbr⟩ := hrel
      have HBR := hidV hbr
      have HROW := hidV hrow
      clear hbr
      by_cases hlt : i < l.length
      · have hlt' : (i : Int) < (l.length : Int) := by omega
        obtain ⟨g, rfl, hg, hc⟩ := HC.out i hlt
        have hcr : wr.cell? ⟨g, i, none⟩ = some (.string l[i]) := (HBR.out.cell (p := ⟨g, i, none⟩) hg).trans hc
        have HT : Hid (lackN K d (l.take (i + 1)) = if (K.fixed (l[i], d)).isSome = true then lackN K d (l.take i) else lackN K d (l.take i) ++ [l[i]]) := by
          unfold Hid
          rw [take_more l i l[i] (List.getElem?_eq_getElem hlt), lackN_snoc]
        have HSI : Hid (fixOk (l[i], d)) := ⟨Nat.le_trans (HS.out _ (List.getElem_mem hlt)) (by decide), HD.out.1, HD.out.2⟩
        have hal : (lackN K d (l.take i)).length ≤ 1000000 := by
          have h1 := lackN_length K d (l.take i)
          have h3 : (l.take i).length ≤ l.length := by rw [List.length_take]; omega
          omega
        clear hc
        generalize l[i] = s at *
        generalize lackN K d (l.take i) = ac at *
        go_wp2_with fail
        refine calls_same (fixed_any wr p f c K ((HK.out.below HB2.out).below HBR.out) s d HSI.out) ?_
        cases hf : (K.fixed (s, d)).isSome
        · have HT2 : Hid (lackN K d (l.take (i + 1)) = ac ++ [s]) := by unfold Hid; rw [HT.out, if_neg (by rw [hf]; simp)]
          clear HT hf
          go_wp2_with (first
            | (at_builtin; refine wpList_append_own _ rfl _ _ 42 rfl w2.heap.size 9 i0 (.string ByteArray.empty) 1 16 Try.underlying42 gi gz0 gz1 gz2 rfl (by decide) _ _ _ rfl ((hidV hrow).out.alloc _) ⟨wr.heap.size, 0, none⟩ 1 1 [.string s] rfl rfl (cell_one_at wr _ _) (by intro u hu; simp at hu; subst hu; rfl) (by unfold maxLen; omega) (by omega) (by have := HBR.out.size; simp; omega) ?_; intro v4 w4 hown4 hgrow4 _)
            | go_in)
          have HR4 : Hid (w4.ownsRow w2.heap.size 9 1 v4 (ac ++ [s]).length (strCells (ac ++ [s]))) := by simpa [strCells, Hid] using hown4
          have HB4 : Hid (Below w2.heap.size w2 w4) := (HBR.out.alloc HBR.out.size _).grown hgrow4 (by have := HBR.out.size; simp; omega) (fun j hj => (HROW.out.lt j hj).1)
          clear hown4 hgrow4 hrow HROW
          go_wp2_with fail
          go_roundw
          case rel => exact ⟨i + 1, by omega, by go_num, by rw [HT2.out]; exact HR4.out, HB4.out⟩
          case measure => simp [intOf]; omega
        · have HT2 : Hid (lackN K d (l.take (i + 1)) = ac) := by unfold Hid; rw [HT.out, if_pos hf]
          clear HT hf hrow
          go_wp2_with fail
          go_roundw
          case rel => exact ⟨i + 1, by omega, by go_num, by rw [HT2.out]; exact HROW.out, HBR.out⟩
          case measure => simp [intOf]; omega
      · have hle : i = l.length := by omega
        subst hle
        rw [List.take_length] at hrow
        have HR4 := hidV hrow
        clear hrow HROW
        go_wp2_with fail
        go_ret
        rw [HF.out]
        refine ⟨_, rfl, ?_, HB2.out.trans (HBR.out.mono HB2.out.size)⟩
        have h := HR4.out
        refine ⟨h.1, ?_⟩
        rcases h.2 with h | ⟨g, cap, cur, h1, h2, h3⟩
        · exact .inl h
        · exact .inr ⟨g, cap, cur, h1, Nat.le_trans HB2.out.size h2, h3⟩

end Go.Proofs.Ytdlflpnjmldakaa.Vl
namespace Go.Proofs.Ytdlflpnjmldakaa.Vl
open Go.RowKit Wd Cn
set_option linter.unusedVariables false

theorem wakes_const : ofR ⟨[], []⟩ 0 (.const 7) = ⟨7, true, 0⟩ := by
  unfold ofR
  rw [if_pos (by rfl)]
  rfl

set_option maxHeartbeats 1000000 in
theorem wakes9_any (w : World) :
    Calls Try.prog 13 #[] w fun e w' => e = .returned (.bool true) ∧ Below w.heap.size w w' := by
  have HV : Hid ((O.const 7).val = .iface 30 (.agg #[.int .i64 7])) := rfl
  go_enter Try.func13, Try.ntmps13
  go_wp2_with fail
  refine (new_in' w).mono ?_
  rintro e w1 ⟨b, f, c, rfl, hi⟩
  have HI : Hid (In w w1 b f c ⟨[], []⟩) := hi
  clear hi
  go_wp2_with fail
  refine (of_any (.const 7) ⟨by omega, by omega⟩ (by decide) w1 b f c ⟨[], []⟩ 0 HI.out.kin ⟨by omega, by omega⟩).mono ?_
  rintro e w2 ⟨rfl, hb⟩
  rw [wakes_const]
  unfold ofE
  go_wp2_with fail
  go_ret
  exact ⟨rfl, HI.out.below.trans (hb.mono HI.out.below.size)⟩

theorem of_in {w0 W : World} {p f c : Nat} {K : KW} (h : In w0 W p f c K) (o : O) (hok : o.Ok) (hsz : o.nodes ≤ 1000000) (d : Int) (hd : dayOk d) (r : Rk) (hr : ofR K d o = r) :
    Calls Try.prog 11 #[o.val, .int .i64 d, .pointer (some ⟨p, 0, none⟩)] W fun e w' => e = ofE r ∧ In w0 w' p f c K := by
  refine (of_any o hok hsz W p f c K d h.kin hd).mono ?_
  rintro e w' ⟨rfl, hB⟩
  exact ⟨by rw [hr], h.step hB⟩
theorem wakes9_in {w0 W : World} {p f c : Nat} {K : KW} (h : In w0 W p f c K) : Calls Try.prog 13 #[] W fun e w' => e = .returned (.bool true) ∧ In w0 w' p f c K := by
  refine (wakes9_any W).mono ?_
  rintro e w' ⟨rfl, hB⟩
  exact ⟨rfl, h.step hB⟩

/-! ### what is true of every number -/
/-- What is fixed is in range. -/
def KW.Vals (K : KW) : Prop := ∀ q ∈ K.F, vB q.2 = true
theorem KW.Vals.fixed {K : KW} (h : KW.Vals K) {p : ByteArray × Int} {v : Int} (hf : K.fixed p = some v) : vB v = true :=
  h _ (find_some K.F p v hf)
/-- A number as it may come: an error leaves nothing, what is not known is 0, what is known is in range. -/
structure Rk.Good (r : Rk) : Prop where
  errs : r.e = 0 ∨ r.e = 6
  err : r.e ≠ 0 → r.n = 0 ∧ r.known = false
  unk : r.known = false → r.n = 0
  val : r.known = true → vB r.n = true
theorem vB0 : vB 0 = true := by rfl
theorem inR_good (p : Int × Bool) (h : p.2 = true → vB p.1 = true) : (inR p).Good := by
  unfold inR
  split
  · rename_i h1
    exact ⟨.inl rfl, fun h => absurd rfl h, fun h => (by cases h), fun _ => h h1⟩
  · exact ⟨.inr rfl, fun _ => ⟨rfl, rfl⟩, fun _ => rfl, fun h => (by cases h)⟩
theorem addR_in (a b : Int) (h : (addR a b).2 = true) : vB (addR a b).1 = true := by
  unfold addR at h ⊢
  split
  · rename_i h1; simp only [Bool.and_eq_true] at h1; exact h1.2
  · rfl
theorem mulR_in (a b : Int) (h : (mulR a b).2 = true) : vB (mulR a b).1 = true := by
  unfold mulR at h ⊢
  split
  · rename_i h1; simp only [Bool.and_eq_true] at h1; exact h1.2
  · rfl
theorem vB_neg (a : Int) (h : vB a = true) : vB (-a) = true := by
  rw [vB_iff] at *; omega
theorem negR_in (a : Int) (h : (negR a).2 = true) : vB (negR a).1 = true := by
  unfold negR at h ⊢
  split
  · rename_i h1; exact vB_neg a h1
  · rfl
theorem gtR_in (a b : Int) (ha : vB a = true) (hb : vB b = true) : vB (gtR a b).1 = true := by
  unfold gtR
  rw [vB_iff] at *
  simp only
  omega
theorem bothR_good {l r : Rk} {j : Int → Int → Int × Bool} (hl : l.Good) (hr : r.Good) (hj : ∀ a b, vB a = true → vB b = true → (j a b).2 = true → vB (j a b).1 = true) : (bothR l r j).Good := by
  unfold bothR
  split
  · exact hl
  · split
    · exact hr
    · split
      · exact ⟨.inl rfl, fun h => absurd rfl h, fun _ => rfl, fun h => (by cases h)⟩
      · rename_i h
        simp only [Bool.or_eq_true, Bool.not_eq_true', not_or, Bool.not_eq_false] at h
        exact inR_good _ (hj _ _ (hl.val h.1) (hr.val h.2))
theorem otherR_good {r : Rk} (h : r.Good) : (otherR r).Good := by
  unfold otherR
  split
  · exact h
  · rename_i h1
    exact inR_good _ (negR_in _)
theorem rk_good {K : KW} (hK : KW.Vals K) (d : Int) (o : O) (hf : formB o = true) : (rk K d o).Good := by
  induction o with
  | const n => exact ⟨.inl rfl, fun h => absurd rfl h, fun h => (by cases h), fun _ => hf⟩
  | fix s =>
    refine ⟨.inl rfl, fun h => absurd rfl h, ?_, ?_⟩
    · intro h
      simp only [rk] at h ⊢
      cases hx : K.fixed (s, d) with
      | none => rfl
      | some v => rw [hx] at h; cases h
    · intro h
      simp only [rk] at h ⊢
      cases hx : K.fixed (s, d) with
      | none => rw [hx] at h; cases h
      | some v => exact hK.fixed hx
  | add l r hl hr => simp only [formB, Bool.and_eq_true] at hf; exact bothR_good (hl hf.1) (hr hf.2) (fun a b _ _ => addR_in a b)
  | neg o ho => exact otherR_good (ho hf)
  | mul l r hl hr => simp only [formB, Bool.and_eq_true] at hf; exact bothR_good (hl hf.1) (hr hf.2) (fun a b _ _ => mulR_in a b)
  | max l r hl hr => simp only [formB, Bool.and_eq_true] at hf; exact bothR_good (hl hf.1) (hr hf.2) (fun a b ha hb _ => gtR_in a b ha hb)
  | odd v => simp [formB] at hf

/-- Known or running over: where no error stands it is known just if nothing lacks. -/
theorem bothR_known (l r : Rk) (j : Int → Int → Int × Bool) (h : (bothR l r j).e = 0) : l.e = 0 ∧ r.e = 0 ∧ (bothR l r j).known = (l.known && r.known) := by
  unfold bothR at h ⊢
  split at h
  · contradiction
  · rename_i h1
    split at h
    · contradiction
    · rename_i h2
      rw [if_neg h1, if_neg h2]
      refine ⟨by omega, by omega, ?_⟩
      split
      · rename_i h3
        simp at h3 ⊢
        intro hl
        rcases h3 with h3 | h3
        · rw [h3] at hl; cases hl
        · exact h3
      · rename_i h3
        rw [if_neg h3] at h
        unfold inR at h ⊢
        split
        · simp at h3 ⊢; exact ⟨h3.1, h3.2⟩
        · rename_i h4; rw [if_neg h4] at h; cases h
theorem rk_known {K : KW} (d : Int) (o : O) (hf : formB o = true) (h : (rk K d o).e = 0) : (rk K d o).known = o.all.all fun s => (K.fixed (s, d)).isSome := by
  induction o with
  | const n => rfl
  | fix s => simp [rk, O.all]
  | add l r hl hr =>
    simp only [formB, Bool.and_eq_true] at hf
    obtain ⟨h1, h2, h3⟩ := bothR_known _ _ _ h
    simp only [O.all, List.all_append, ← hl hf.1 h1, ← hr hf.2 h2]
    exact h3
  | neg o ho =>
    simp only [formB] at hf
    simp only [rk, otherR, O.all] at h ⊢
    split at h
    · rename_i h1
      rw [if_pos h1]
      exact ho hf (by simpa using h)
    · rename_i h1
      rw [if_neg h1]
      have h2 : (rk K d o).e = 0 := by
        rcases Decidable.em ((rk K d o).e = 0) with h2 | h2
        · exact h2
        · exact absurd (.inl h2) h1
      rw [← ho hf h2]
      unfold inR at h ⊢
      split
      · have : ¬ (rk K d o).known = false := fun hx => h1 (.inr hx)
        simpa using this
      · rename_i h4; rw [if_neg h4] at h; cases h
  | mul l r hl hr =>
    simp only [formB, Bool.and_eq_true] at hf
    obtain ⟨h1, h2, h3⟩ := bothR_known _ _ _ h
    simp only [O.all, List.all_append, ← hl hf.1 h1, ← hr hf.2 h2]
    exact h3
  | max l r hl hr =>
    simp only [formB, Bool.and_eq_true] at hf
    obtain ⟨h1, h2, h3⟩ := bothR_known _ _ _ h
    simp only [O.all, List.all_append, ← hl hf.1 h1, ← hr hf.2 h2]
    exact h3
  | odd v => simp [formB] at hf
theorem mem_addAll' (l : List ByteArray) : ∀ (acc : List ByteArray) (s : ByteArray), s ∈ acc ∨ s ∈ l → s ∈ addAll acc l := by
  induction l with
  | nil => intro acc s h; exact h.elim id (fun h => by simp at h)
  | cons x l ih =>
    intro acc s h
    refine ih (addN acc x) s ?_
    unfold addN
    rcases h with h | h
    · left; split <;> simp [h]
    · rcases List.mem_cons.1 h with h | h
      · left; subst h
        split
        · rename_i h2; exact (inN_iff _ _).1 h2
        · simp
      · exact .inr h
theorem mem_names (o : O) (s : ByteArray) : s ∈ o.names ↔ s ∈ o.all :=
  ⟨fun h => (addAll_mem _ _ _ h).elim (fun h => by simp at h) id, fun h => mem_addAll' _ _ _ (.inr h)⟩
theorem lack_nil (K : KW) (d : Int) (o : O) : (lackN K d o.names).length = 0 ↔ (o.all.all fun s => (K.fixed (s, d)).isSome) = true := by
  unfold lackN
  rw [List.length_eq_zero_iff, List.filter_eq_nil_iff, List.all_eq_true]
  simp only [Bool.not_eq_true', Bool.not_eq_false]
  exact ⟨fun h s hs => h s ((mem_names o s).2 hs), fun h s hs => h s ((mem_names o s).1 hs)⟩
/-- Where nothing runs over, it is known just if it needs nothing. -/
theorem of_needs (K : KW) (d : Int) (o : O) (h : (ofR K d o).e = 0) : (ofR K d o).known = decide ((needR K d o).length = 0) := by
  unfold ofR needR at *
  split at h
  · rename_i hc
    rw [if_pos hc, if_pos hc, rk_known d o (chk_form hc) h, Bool.eq_iff_iff, decide_eq_true_iff]
    exact (lack_nil K d o).symm
  · cases h

end Go.Proofs.Ytdlflpnjmldakaa.Vl
namespace Go.Proofs.Ytdlflpnjmldakaa.Vl
open Go.RowKit Wd Cn
set_option linter.unusedVariables false

def addK (K : KW) (d v : Int) (l : List ByteArray) : KW := ⟨K.F ++ l.map fun s => ((s, d), v), K.C⟩
theorem addK_nil (K : KW) (d v : Int) : addK K d v [] = K := by simp [addK]
theorem addK_snoc (K : KW) (d v : Int) (l : List ByteArray) (s : ByteArray) : (⟨(addK K d v l).F ++ [((s, d), v)], (addK K d v l).C⟩ : KW) = addK K d v (l ++ [s]) := by simp [addK]
theorem fixed_none (K : KW) (p : ByteArray × Int) : K.fixed p = none ↔ ∀ q ∈ K.F, q.1 ≠ p := find_none K.F p
theorem addK_none (K : KW) (d v : Int) (l : List ByteArray) (s : ByteArray) : (addK K d v l).fixed (s, d) = none ↔ K.fixed (s, d) = none ∧ s ∉ l := by
  rw [fixed_none, fixed_none]
  simp only [addK, List.mem_append, List.mem_map]
  constructor
  · intro h
    exact ⟨fun q hq => h q (.inl hq), fun hs => h _ (.inr ⟨s, hs, rfl⟩) rfl⟩
  · rintro ⟨h1, h2⟩ q (hq | ⟨t, ht, rfl⟩)
    · exact h1 q hq
    · intro e
      simp at e
      subst e
      exact h2 ht
theorem addN_nodup (acc : List ByteArray) (s : ByteArray) (h : acc.Nodup) : (addN acc s).Nodup := by
  unfold addN
  split
  · exact h
  · rename_i h1
    rw [inN_iff] at h1
    rw [List.nodup_append]
    refine ⟨h, by simp, ?_⟩
    intro a ha b hb e
    simp at hb
    subst hb e
    exact h1 ha
theorem addAll_nodup (l : List ByteArray) : ∀ acc : List ByteArray, acc.Nodup → (addAll acc l).Nodup := by
  induction l with
  | nil => intro acc h; exact h
  | cons x l ih => intro acc h; exact ih _ (addN_nodup acc x h)
theorem names_nodup (o : O) : o.names.Nodup := addAll_nodup _ _ (by simp)
theorem lackN_nodup (K : KW) (d : Int) (l : List ByteArray) (h : l.Nodup) : (lackN K d l).Nodup := h.filter _
theorem leaves (o : O) : o.all.length * 2 ≤ o.nodes + 1 := by
  induction o <;> simp [O.all, O.nodes] <;> omega
theorem names_few (o : O) : o.names.length * 2 ≤ o.nodes + 1 := by
  have h1 := addAll_length o.all []
  have h2 := leaves o
  simp at h1
  show (addAll [] o.all).length * 2 ≤ _
  omega
theorem all_names (o : O) (h : formB o = true) : ∀ s ∈ o.all, nameGo 0 (runesOf s) = true := by
  induction o with
  | const n => intro s hs; simp [O.all] at hs
  | fix t => intro s hs; simp [O.all] at hs; subst hs; exact h
  | add l r hl hr => simp only [formB, Bool.and_eq_true] at h; intro s hs; simp only [O.all, List.mem_append] at hs; exact hs.elim (hl h.1 s) (hr h.2 s)
  | neg o ho => intro s hs; exact ho h s hs
  | mul l r hl hr => simp only [formB, Bool.and_eq_true] at h; intro s hs; simp only [O.all, List.mem_append] at hs; exact hs.elim (hl h.1 s) (hr h.2 s)
  | max l r hl hr => simp only [formB, Bool.and_eq_true] at h; intro s hs; simp only [O.all, List.mem_append] at hs; exact hs.elim (hl h.1 s) (hr h.2 s)
  | odd v => intro s hs; simp [O.all] at hs
theorem names_form (o : O) (h : formB o = true) : ∀ s ∈ o.names, nameGo 0 (runesOf s) = true := fun s hs => all_names o h s ((mem_names o s).1 hs)
theorem lack_mem {K : KW} {d : Int} {l : List ByteArray} {s : ByteArray} (h : s ∈ lackN K d l) : s ∈ l ∧ K.fixed (s, d) = none := by
  unfold lackN at h
  rw [List.mem_filter] at h
  refine ⟨h.1, ?_⟩
  cases hx : K.fixed (s, d) with
  | none => rfl
  | some v => rw [hx] at h; simp at h
/-- What is told of a step: the name lacks, and stands next among those that lack. -/
theorem lack_take (K : KW) (d : Int) (l : List ByteArray) (i : Nat) (hi : i < l.length) (h : (K.fixed (l[i], d)).isSome = false) :
    ∃ hk : (lackN K d (l.take i)).length < (lackN K d l).length, (lackN K d l)[(lackN K d (l.take i)).length]'hk = l[i] := by
  have e : lackN K d l = lackN K d (l.take i) ++ (l[i] :: lackN K d (l.drop (i + 1))) := by
    have e1 : l = l.take i ++ (l[i] :: l.drop (i + 1)) := by rw [← List.drop_eq_getElem_cons hi, List.take_append_drop]
    conv => lhs; rw [e1]
    unfold lackN
    rw [List.filter_append, List.filter_cons_of_pos (by simp [h])]
  refine ⟨by rw [e]; simp, ?_⟩
  simp only [e, List.getElem_append_right (Nat.le_refl _), Nat.sub_self, List.getElem_cons_zero]
theorem addK_all (K : KW) (d v : Int) (o : O) (hc : chk o = 0) : needR (addK K d v (lackN K d o.names)) d o = [] := by
  unfold needR
  rw [if_pos hc]
  unfold lackN
  rw [List.filter_eq_nil_iff]
  intro s hs
  simp only [Bool.not_eq_true', Bool.not_eq_false]
  cases hx : (addK K d v (List.filter (fun s => !(K.fixed (s, d)).isSome) o.names)).fixed (s, d) with
  | some u => rfl
  | none =>
    exfalso
    obtain ⟨h1, h2⟩ := (addK_none _ _ _ _ _).1 hx
    apply h2
    rw [List.mem_filter]
    exact ⟨hs, by rw [h1]; rfl⟩
theorem addK_vals (K : KW) (d v : Int) (l : List ByteArray) (h : KW.Vals K) (hv : vB v = true) : KW.Vals (addK K d v l) := by
  intro q hq
  simp only [addK, List.mem_append, List.mem_map] at hq
  rcases hq with hq | ⟨t, ht, rfl⟩
  · exact h q hq
  · exact hv
/-- What is known where no name lacks. -/
theorem full_of (K : KW) (hK : KW.Vals K) (d : Int) (o : O) (hc : chk o = 0) (hn : needR K d o = []) : (ofR K d o).e = 0 ∧ (ofR K d o).known = true ∨ (ofR K d o).e = 6 ∧ (ofR K d o).known = false := by
  have hg := rk_good hK d o (chk_form hc)
  have ho : ofR K d o = rk K d o := by unfold ofR; rw [if_pos hc]
  rcases hg.errs with h | h
  · left
    refine ⟨by rw [ho]; exact h, ?_⟩
    have := of_needs K d o (by rw [ho]; exact h)
    rw [this, hn]
    rfl
  · right
    rw [ho]
    exact ⟨h, (hg.err (by rw [h]; decide)).2⟩
theorem fixN_vals (K : KW) (s : ByteArray) (d v : Int) (h : KW.Vals K) : KW.Vals (fixN K s d v) := by
  unfold fixN
  split
  · rename_i h0
    intro q hq
    simp only [List.mem_append, List.mem_singleton] at hq
    rcases hq with hq | rfl
    · exact h q hq
    · unfold fixE at h0
      split at h0
      · cases h0
      · rename_i h1
        have : (nameGo 0 (runesOf s) && Wd.dayB d && vB v) = true := by
          cases hx : (nameGo 0 (runesOf s) && Wd.dayB d && vB v)
          · exact absurd hx h1
          · rfl
        simp only [Bool.and_eq_true] at this
        exact this.2
  · exact h
theorem fixN_length (K : KW) (s : ByteArray) (d v : Int) : (fixN K s d v).F.length ≤ K.F.length + 1 := by
  unfold fixN
  split <;> simp
theorem in_base {w W W' : World} {p f c : Nat} {K : KW} (h : In W W' p f c K) (hb : Below w.heap.size w W) : In w W' p f c K :=
  ⟨h.kin, hb.trans (h.below.mono hb.size), Nat.le_trans hb.size h.hp, Nat.le_trans hb.size h.hf, Nat.le_trans hb.size h.hc⟩
theorem step_fixE (K : KW) (d v : Int) (l : List ByteArray) (i : Nat) (hi : i < l.length) (hnd : l.Nodup) (hn : nameGo 0 (runesOf l[i]) = true) (hd : Wd.dayB d = true) (hv : vB v = true) (hf : K.fixed (l[i], d) = none) (hlen : K.F.length + l.length < 32) :
    fixE (addK K d v (l.take i)) l[i] d v = 0 ∧ fixN (addK K d v (l.take i)) l[i] d v = addK K d v (l.take (i + 1)) := by
  have hmem : l[i] ∉ l.take i := by
    intro h
    obtain ⟨j, hj, e⟩ := List.getElem_of_mem h
    rw [List.getElem_take] at e
    have hj' : j < i := by rw [List.length_take] at hj; omega
    exact (List.pairwise_iff_getElem.1 hnd) j i (by omega) hi hj' e
  have hx : (addK K d v (l.take i)).fixed (l[i], d) = none := (addK_none _ _ _ _ _).2 ⟨hf, hmem⟩
  have h0 : fixE (addK K d v (l.take i)) l[i] d v = 0 := by
    unfold fixE
    rw [hn, hd, hv, hx]
    have : ¬ 32 ≤ (addK K d v (l.take i)).F.length := by simp [addK]; omega
    rw [if_neg (by simp), if_neg (by simp), if_neg this]
  refine ⟨h0, ?_⟩
  unfold fixN
  rw [if_pos h0, addK_snoc, take_more l i l[i] (List.getElem?_eq_getElem hi)]

end Go.Proofs.Ytdlflpnjmldakaa.Vl
namespace Go.Proofs.Ytdlflpnjmldakaa.Vl
open Go.RowKit Wd Cn
set_option linter.unusedVariables false

def Ext (K K' : KW) : Prop := ∀ p v, K.fixed p = some v → K'.fixed p = some v
theorem Ext.refl (K : KW) : Ext K K := fun _ _ h => h
theorem Ext.trans {K K' K'' : KW} (h : Ext K K') (g : Ext K' K'') : Ext K K'' := fun p v hp => g p v (h p v hp)
theorem ext_fixN (K : KW) (s : ByteArray) (d v : Int) : Ext K (fixN K s d v) := by
  intro p u h
  unfold fixN
  split
  · unfold KW.fixed at h ⊢
    simp only [List.find?_append]
    cases hx : K.F.find? fun q => decide (q.1 = p) with
    | none => rw [hx] at h; cases h
    | some q => rw [hx] at h; simpa using h
  · exact h
theorem bothR_ok {l r : Rk} {j : Int → Int → Int × Bool} (h : (bothR l r j).known = true) (hl : l.Good) (hr : r.Good) : l.e = 0 ∧ r.e = 0 ∧ l.known = true ∧ r.known = true ∧ (j l.n r.n).2 = true ∧ bothR l r j = ⟨(j l.n r.n).1, true, 0⟩ := by
  unfold bothR at h ⊢
  split at h
  · rename_i h1; rw [(hl.err h1).2] at h; cases h
  · rename_i h1
    split at h
    · rename_i h2; rw [(hr.err h2).2] at h; cases h
    · rename_i h2
      split at h
      · cases h
      · rename_i h3
        rw [if_neg h1, if_neg h2, if_neg h3]
        simp only [Bool.or_eq_true, Bool.not_eq_true', not_or, Bool.not_eq_false] at h3
        unfold inR at h ⊢
        split
        · rename_i h4; exact ⟨by omega, by omega, h3.1, h3.2, h4, rfl⟩
        · rename_i h4; rw [if_neg h4] at h; cases h
theorem otherR_ok {r : Rk} (h : (otherR r).known = true) (hr : r.Good) : r.e = 0 ∧ r.known = true ∧ otherR r = ⟨-r.n, true, 0⟩ := by
  unfold otherR at h ⊢
  split at h
  · rename_i h1
    rcases h1 with h1 | h1
    · rw [(hr.err h1).2] at h; cases h
    · rw [h1] at h; cases h
  · rename_i h1
    rw [if_neg h1]
    have h2 : r.e = 0 := by
      rcases Decidable.em (r.e = 0) with h2 | h2
      · exact h2
      · exact absurd (.inl h2) h1
    have h3 : r.known = true := by
      cases hk : r.known
      · exact absurd (.inr hk) h1
      · rfl
    refine ⟨h2, h3, ?_⟩
    unfold inR negR
    rw [hr.val h3]
    rfl
/-- What is known stays known, as it was. -/
theorem rk_ext {K K' : KW} (hK : KW.Vals K) (hx : Ext K K') (d : Int) (o : O) (hf : formB o = true) (h : (rk K d o).known = true) : rk K' d o = rk K d o := by
  induction o with
  | const n => rfl
  | fix s =>
    simp only [rk] at h ⊢
    cases hq : K.fixed (s, d) with
    | none => rw [hq] at h; cases h
    | some v => rw [hx _ _ hq]
  | add l r hl hr =>
    simp only [formB, Bool.and_eq_true] at hf
    obtain ⟨_, _, h3, h4, _, _⟩ := bothR_ok h (rk_good hK d l hf.1) (rk_good hK d r hf.2)
    simp only [rk]
    rw [hl hf.1 h3, hr hf.2 h4]
  | neg o ho =>
    simp only [formB] at hf
    obtain ⟨_, h3, _⟩ := otherR_ok h (rk_good hK d o hf)
    simp only [rk]
    rw [ho hf h3]
  | mul l r hl hr =>
    simp only [formB, Bool.and_eq_true] at hf
    obtain ⟨_, _, h3, h4, _, _⟩ := bothR_ok h (rk_good hK d l hf.1) (rk_good hK d r hf.2)
    simp only [rk]
    rw [hl hf.1 h3, hr hf.2 h4]
  | max l r hl hr =>
    simp only [formB, Bool.and_eq_true] at hf
    obtain ⟨_, _, h3, h4, _, _⟩ := bothR_ok h (rk_good hK d l hf.1) (rk_good hK d r hf.2)
    simp only [rk]
    rw [hl hf.1 h3, hr hf.2 h4]
  | odd v => simp [formB] at hf
theorem ofR_ok {K : KW} {d : Int} {o : O} (hc : chk o = 0) : ofR K d o = rk K d o := by unfold ofR; rw [if_pos hc]
theorem ofR_no {K : KW} {d : Int} {o : O} (hc : chk o ≠ 0) : ofR K d o = ⟨0, false, 2⟩ := by unfold ofR; rw [if_neg hc]
/-- The other sign of what is known. -/
theorem neg_ok {K : KW} (hK : KW.Vals K) (d : Int) (a : O) (hf : formB a = true) (h : (ofR K d (.neg a)).known = true) : (ofR K d (.neg a)).n = -(rk K d a).n := by
  unfold ofR at h ⊢
  split at h
  · rename_i hc
    rw [if_pos hc]
    simp only [rk] at h ⊢
    rw [(otherR_ok h (rk_good hK d a hf)).2.2]
  · cases h
theorem max_ok {K : KW} (hK : KW.Vals K) (d : Int) (a b : O) (hf : formB a = true) (hg : formB b = true) (h : (ofR K d (.max a b)).known = true) : (ofR K d (.max a b)).n = Max.max (rk K d a).n (rk K d b).n := by
  unfold ofR at h ⊢
  split at h
  · rename_i hc
    rw [if_pos hc]
    simp only [rk] at h ⊢
    rw [(bothR_ok h (rk_good hK d a hf) (rk_good hK d b hg)).2.2.2.2.2]
    rfl
  · cases h

end Go.Proofs.Ytdlflpnjmldakaa.Vl
namespace Go.Proofs.Ytdlflpnjmldakaa.Vl
open Go.RowKit Wd Cn
set_option linter.unusedVariables false

theorem rin_gr {w w' : World} {B r M : Nat} {K : KW} {vF vC : Value} (h : RIn w B r K vF vC) (hg : Gr M w w') (hM : ∃ es cl, w.heap[M]? = some (.map es cl)) : RIn w' B r K vF vC := by
  obtain ⟨es, cl, hm⟩ := hM
  have hr : r ≠ M := by
    rintro rfl
    have := h.blk
    rw [hm] at this
    cases this
  have hgb : w.grownBy w' (some M) := ⟨hg.os, hg.tape, hg.output, hg.size, fun k hk hne => hg.block k hk (fun e => hne (by rw [e]))⟩
  refine ⟨(hg.block r (Array.getElem?_eq_some_iff.1 h.blk).1 hr).trans h.blk, h.rf.kept hgb ?_, h.rc.kept hgb ?_, h.hr⟩
  · right
    intro e
    obtain ⟨cs, hc⟩ := row_block h.rf e
    rw [hm] at hc
    cases hc
  · right
    intro e
    obtain ⟨cs, hc⟩ := row_block h.rc e
    rw [hm] at hc
    cases hc
theorem rt_cells {B r : Nat} {w w' : World} (h : RT B r w w') {k : Nat} {cs : Array Value} {t : TypeId} (hk : w.heap[k]? = some (.cells cs t)) (hr : k ≠ r) (h1 : t ≠ 123) (h2 : t ≠ 163) : w'.heap[k]? = some (.cells cs t) := by
  rw [h.kept k (Array.getElem?_eq_some_iff.1 hk).1 hr (fun cs' e => ?_) (fun cs' e => ?_)]
  · exact hk
  · rw [hk] at e; injection e with e; injection e with _ e; exact h1 e
  · rw [hk] at e; injection e with e; injection e with _ e; exact h2 e
theorem rt_map {B r : Nat} {w w' : World} (h : RT B r w w') {k : Nat} {es : Array MapEntry} {cl : Nat} (hk : w.heap[k]? = some (.map es cl)) (hr : k ≠ r) : w'.heap[k]? = w.heap[k]? :=
  h.kept k (Array.getElem?_eq_some_iff.1 hk).1 hr (fun cs e => by rw [hk] at e; cases e) (fun cs e => by rw [hk] at e; cases e)
theorem in_rt {w0 W W' : World} {p f c r B : Nat} {K Kr : KW} {vF vC : Value} (h : In w0 W p f c K) (hr : RIn W B r Kr vF vC) (hB : w0.heap.size ≤ B) (ht : RT B r W W') : In w0 W' p f c K := by
  have hpr : p ≠ r := by
    rintro rfl
    have := h.kin.blk
    rw [hr.blk] at this
    injection this with e
    injection e with _ e
    exact absurd e (by decide)
  obtain ⟨es1, c1, m1, l1⟩ := h.kin.fix
  obtain ⟨es2, c2, m2, l2⟩ := h.kin.ch
  have hfr : f ≠ r := by
    rintro rfl
    rw [hr.blk] at m1
    cases m1
  have hcr : c ≠ r := by
    rintro rfl
    rw [hr.blk] at m2
    cases m2
  refine ⟨h.kin.same ?_ (rt_map ht m1 hfr) (rt_map ht m2 hcr), h.below.trans (ht.below.mono hB), h.hp, h.hf, h.hc⟩
  rw [rt_cells ht h.kin.blk hpr (by decide) (by decide), h.kin.blk]

/-- Both worlds in memory, with what each knows; the one from w0 on, the other from block B on. -/
structure Bo (w0 W : World) (p f c r B : Nat) (Kc Kr : KW) : Prop where
  i : In w0 W p f c Kc
  rr : ∃ vF vC, RIn W B r Kr vF vC
  hB : w0.heap.size ≤ B
  hBW : B ≤ W.heap.size
theorem Bo.step {w0 W W' : World} {p f c r B : Nat} {Kc Kr : KW} (h : Bo w0 W p f c r B Kc Kr) (hb : Below W.heap.size W W') : Bo w0 W' p f c r B Kc Kr := by
  obtain ⟨vF, vC, hr⟩ := h.rr
  exact ⟨h.i.step hb, ⟨vF, vC, hr.below hb⟩, h.hB, Nat.le_trans h.hBW hb.size⟩
theorem Bo.gr {w0 W W' : World} {p f c r B M : Nat} {Kc Kc' Kr : KW} (h : Bo w0 W p f c r B Kc Kr) (hk : KIn W' p f c Kc') (hg : Gr M W W') (hM : w0.heap.size ≤ M) (hm : ∃ es cl, W.heap[M]? = some (.map es cl)) : Bo w0 W' p f c r B Kc' Kr := by
  obtain ⟨vF, vC, hr⟩ := h.rr
  exact ⟨h.i.gr hk hg hM, ⟨vF, vC, rin_gr hr hg hm⟩, h.hB, Nat.le_trans h.hBW hg.size⟩
theorem Bo.rt {w0 W W' : World} {p f c r B : Nat} {Kc Kr Kr' : KW} (h : Bo w0 W p f c r B Kc Kr) (hk : ∃ vF vC, RIn W' B r Kr' vF vC) (ht : RT B r W W') : Bo w0 W' p f c r B Kc Kr' := by
  obtain ⟨vF, vC, hr⟩ := h.rr
  exact ⟨in_rt h.i hr h.hB ht, hk, h.hB, Nat.le_trans h.hBW ht.below.size⟩
theorem Bo.mapF {w0 W : World} {p f c r B : Nat} {Kc Kr : KW} (h : Bo w0 W p f c r B Kc Kr) : ∃ es cl, W.heap[f]? = some (.map es cl) := by
  obtain ⟨es, cl, hm, _⟩ := h.i.kin.fix
  exact ⟨es, cl, hm⟩
/-- What stands beside both stays: what is neither map, nor the document's world, nor a row of it. -/
theorem bo_fix {w0 W : World} {p f c r B : Nat} {Kc Kr : KW} (h : Bo w0 W p f c r B Kc Kr) (s : ByteArray) (d v : Int) (hk : fixOk (s, d)) :
    Calls Try.prog 10 #[.pointer (some ⟨p, 0, none⟩), .string s, .int .i64 d, .int .i64 v] W fun e w' => e = .returned (.int .i64 (fixE Kc s d v)) ∧ Bo w0 w' p f c r B (fixN Kc s d v) Kr ∧ Gr f W w' :=
  (fix_any W p f c Kc h.i.kin s d v hk).mono fun e w' h1 => ⟨h1.1, h.gr h1.2.1 h1.2.2 h.i.hf h.mapF, h1.2.2⟩
theorem bo_rfix {w0 W : World} {p f c r B : Nat} {Kc Kr : KW} (h : Bo w0 W p f c r B Kc Kr) (s : ByteArray) (d v : Int) (hs : s.size ≤ 1000000) (hl : Kr.F.length ≤ 1000) :
    Calls Try.prog 34 #[.pointer (some ⟨r, 0, none⟩), .string s, .int .i64 d, .int .i64 v] W fun e w' => e = .returned (.int .i64 (fixE Kr s d v)) ∧ Bo w0 w' p f c r B Kc (fixN Kr s d v) ∧ RT B r W w' := by
  obtain ⟨vF, vC, hr⟩ := h.rr
  exact (refFix_any W _ r Kr vF vC hr h.hBW s d v hs hl).mono fun e w' h1 => ⟨h1.1, h.rt h1.2.1 h1.2.2, h1.2.2⟩

end Go.Proofs.Ytdlflpnjmldakaa.Vl
namespace Go.Proofs.Ytdlflpnjmldakaa.Vl
open Go.RowKit Wd Cn
set_option linter.unusedVariables false

theorem tdiv_range (a b : Int) (hb : 2 ≤ b) (h1 : -9223372036854775808 ≤ a) (h2 : a ≤ 9223372036854775807) : -9223372036854775808 ≤ a.tdiv b ∧ a.tdiv b ≤ 9223372036854775807 := by
  by_cases h : 0 ≤ a
  · have h3 := Int.tdiv_nonneg h (by omega : 0 ≤ b)
    have h4 : a.tdiv b ≤ a := Int.tdiv_le_self b h
    omega
  · have h3 := Int.tdiv_nonneg (by omega : 0 ≤ -a) (by omega : 0 ≤ b)
    have h4 : (-a).tdiv b ≤ -a := Int.tdiv_le_self b (by omega)
    rw [Int.neg_tdiv] at h3 h4
    omega
theorem three_cells (w : World) (m : Nat) (hm : m < 3) : ∃ s : ByteArray, s.size ≤ 5 ∧ (w.alloc (.cells #[.string ⟨#[108, 105, 98, 111, 114]⟩, .string ⟨#[114, 97, 105, 110]⟩, .string ⟨#[195, 182, 108]⟩] 9)).cell? ⟨w.heap.size, m, none⟩ = some (.string s) := by
  rcases (by omega : m = 0 ∨ m = 1 ∨ m = 2) with rfl | rfl | rfl
  · exact ⟨_, by decide, cell_of_row _ _ _ _ _ _ (heap_alloc_new _ _)⟩
  · exact ⟨_, by decide, cell_of_row _ _ _ _ _ _ (heap_alloc_new _ _)⟩
  · exact ⟨_, by decide, cell_of_row _ _ _ _ _ _ (heap_alloc_new _ _)⟩

set_option maxHeartbeats 8000000 in
set_option maxRecDepth 100000 in
theorem known_any (w0 w : World) (p f c r B : Nat) (la : Option Addr) (ll lc : Nat) (lf : Nat → Int) (h : Bo w0 w p f c r B ⟨[], []⟩ ⟨[], []⟩) (hl : HasInts w0 la ll lf) (hll : ll ≤ 9223372036854775807) :
    Calls Try.prog 15 #[.pointer (some ⟨p, 0, none⟩), .pointer (some ⟨r, 0, none⟩), .slice la ll lc] w fun e w' => e = .returned (.tuple #[]) ∧ ∃ K, Bo w0 w' p f c r B K K ∧ KW.Vals K ∧ K.F.length ≤ 12 := by
  have HB := hidV h
  have HL := hidV hl
  clear h hl
  go_enter Try.func15, Try.ntmps15
  go_wp2_with fail
  go_loopw [6] (fun s6 wr => ∃ (i : Nat) (K : KW), s6 = .int .i64 i ∧ i ≤ 12 ∧ i ≤ ll ∧ Bo w0 wr p f c r B K K ∧ KW.Vals K ∧ K.F.length ≤ i) (fun s6 _ => 12 - (intOf s6).toNat)
  case atStart => exact ⟨0, ⟨[], []⟩, rfl, by omega, by omega, HB.out, (fun q hq => by simp at hq), by simp⟩
  case round =>
    obtain ⟨i, K, rfl, hi12, hil, hbo, hvals, hlen⟩ := hrel
    have HBO := hidV hbo
    have HVL := hidV hvals
    have HLN := hidV hlen
    clear hbo hvals hlen
    by_cases hlt : i < ll ∧ i < 12
    · obtain ⟨h1, h2⟩ := hlt
      have h1' : (i : Int) < (ll : Int) := by omega
      have h2' : (i : Int) < 12 := by omega
      obtain ⟨lb, lo, rfl, hlb, hlc, hf1, hf2⟩ := HL.out i h1
      have HLC : Hid (∀ w', Below w0.heap.size w0 w' → w'.cell? ⟨lb, lo + i, none⟩ = some (.int .i64 (lf i))) := fun w' hw' => (hw'.cell (p := ⟨lb, lo + i, none⟩) hlb).trans hlc
      obtain ⟨q1, q2⟩ := tdiv_range (lf i) 8 (by omega) hf1 hf2
      have HW40 := hidV (fun w : World => within_any ((lf i).tdiv 8) 40 w (by omega) (by omega) q1 q2)
      have HW8 := hidV (fun w : World => within_any (lf i) 8 w (by omega) (by omega) hf1 hf2)
      obtain ⟨u, hu⟩ : ∃ u : Nat, (lf i).tdiv 8 % 40 = u := ⟨((lf i).tdiv 8 % 40).toNat, by omega⟩
      have hu40 : u < 40 := by omega
      rw [hu] at HW40
      obtain ⟨d, hd⟩ : ∃ d : Nat, lf i % 8 = d := ⟨(lf i % 8).toNat, by omega⟩
      have hd8 : d < 8 := by omega
      rw [hd] at HW8
      clear hlc hu hd
      obtain ⟨m, hm⟩ : ∃ m : Nat, i % 3 = m := ⟨_, rfl⟩
      have hm3 : m < 3 := by omega
      have htm : Int.tmod (i : Int) 3 = (m : Int) := by rw [← hm]; rw [Int.tmod_eq_emod_of_nonneg (by omega)]; omega
      have hm3' : ¬ ((3 : Int) ≤ (m : Int)) := by omega
      obtain ⟨sn, hsz, hcell⟩ := three_cells wr m hm3
      have HSZ := hidV hsz
      clear hm hsz
      have hb0 := HLC.out wr HBO.out.i.below
      have hb1 : (wr.alloc (.cells #[.string ⟨#[108, 105, 98, 111, 114]⟩, .string ⟨#[114, 97, 105, 110]⟩, .string ⟨#[195, 182, 108]⟩] 9)).cell? ⟨lb, lo + i, none⟩ = some (.int .i64 (lf i)) := HLC.out _ (HBO.out.step (below_alloc (Below.refl _ _) _)).i.below
      have HB1 := hidV (HBO.out.step (below_alloc (Below.refl wr.heap.size wr) (.cells #[.string ⟨#[108, 105, 98, 111, 114]⟩, .string ⟨#[114, 97, 105, 110]⟩, .string ⟨#[195, 182, 108]⟩] 9)))
      have HFK : Hid (fixOk (sn, (d : Int))) := ⟨Nat.le_trans HSZ.out (by decide), by omega, by omega⟩
      have HREM : Hid (Int.tmod (lf i) 29 = 28 ∨ (Int.tmod (lf i) 29 == 28) = false) := by
        by_cases h : Int.tmod (lf i) 29 = 28
        · exact .inl h
        · exact .inr (by simpa using h)
      go_wp2_with fail
      refine calls_same (HW40.out _) ?_
      rcases HREM.out with h29 | h29
      all_goals
        go_wp2_with fail
        refine calls_same (HW8.out _) ?_
        go_wp2_with fail
        generalize wr.alloc (.cells #[.string ⟨#[108, 105, 98, 111, 114]⟩, .string ⟨#[114, 97, 105, 110]⟩, .string ⟨#[195, 182, 108]⟩] 9) = W1 at *
        refine (bo_fix HB1.out sn d _ HFK.out).mono ?_
        rintro e w2 ⟨rfl, hb2, hg2⟩
        have HB2 := hidV hb2
        have hb3 := HLC.out w2 HB2.out.i.below
        clear hb2 hg2 hb0 hb1 hcell
        go_wp2_with fail
        refine calls_same (HW8.out _) ?_
        go_wp2_with fail
        refine (bo_rfix HB2.out sn d _ (Nat.le_trans HSZ.out (by decide)) (by have := HLN.out; omega)).mono ?_
        rintro e w3 ⟨rfl, hb4, hr4⟩
        have HB3 := hidV hb4
        clear hb4 hr4 hb3
        go_wp2_with fail
        go_roundw
        case rel => exact ⟨i + 1, _, by go_num, by omega, by omega, HB3.out, fixN_vals _ _ _ _ HVL.out, Nat.le_trans (fixN_length _ _ _ _) (by have := HLN.out; omega)⟩
        case measure => simp [intOf] <;> omega
    · rcases (by omega : ((i : Int) < (ll : Int) ∧ ¬ (i : Int) < 12) ∨ ¬ (i : Int) < (ll : Int)) with ⟨h1, h3⟩ | h1
      all_goals
        clear hlt
        go_wp2_with fail
        go_end0
        exact ⟨rfl, K, HBO.out, HVL.out, Nat.le_trans HLN.out hi12⟩

end Go.Proofs.Ytdlflpnjmldakaa.Vl
namespace Go.Proofs.Ytdlflpnjmldakaa.Vl
open Go.RowKit Wd Cn
set_option linter.unusedVariables false

def RvCalls (o : O) : Prop := ∀ (w : World) (v : Value) (B r : Nat) (K : KW) (vF vC : Value) (d : Int), TIn w 0 (plain o) v → RIn w B r K vF vC → K.F.length ≤ 1000000 → KW.Vals K → dayOk d →
  Calls Try.prog 17 #[v, .int .i64 d, .pointer (some ⟨r, 0, none⟩)] w fun e w' => e = ofE (rk K d o) ∧ Below w.heap.size w w'

set_option maxHeartbeats 1000000 in
set_option maxRecDepth 100000 in
theorem rv_const (n : Int) : RvCalls (.const n) := by
  intro w v B r K vF vC d ht hr hl hv hd
  obtain ⟨a, cap, rfl, h1, h2, h3⟩ := ht
  clear h3 hr hv hl
  have HR : Hid (rk K d (.const n) = ⟨n, true, 0⟩) := rfl
  simp only [plain, T.kind, T.s, T.n, T.k, List.length_nil]
  go_enter Try.func17, Try.ntmps17
  go_wp2_with fail
  go_ret3
  rw [HR.out]
  exact ⟨rfl, below_alloc (Below.refl _ _) _⟩

set_option maxHeartbeats 1000000 in
set_option maxRecDepth 100000 in
theorem rv_fix (s : ByteArray) : RvCalls (.fix s) := by
  intro w v B r K vF vC d ht hr hl hv hd
  obtain ⟨a, cap, rfl, h1, h2, h3⟩ := ht
  have HR : Hid (rk K d (.fix s) = ⟨(K.fixed (s, d)).getD 0, (K.fixed (s, d)).isSome, 0⟩) := rfl
  simp only [plain, T.kind, T.s, T.n, T.k, List.length_nil]
  have HB : Hid (Below w.heap.size w (w.alloc (.cells #[.int .i64 12, .string s, .int .i64 0, .slice a 0 cap] 52))) := below_alloc (Below.refl _ _) _
  have HF := hidV (refFixed_any _ B r K vF vC (hr.below HB.out) s d hl)
  clear h3 hr hv hl
  generalize (K.fixed (s, d)).getD 0 = n at *
  generalize (K.fixed (s, d)).isSome = q at *
  go_enter Try.func17, Try.ntmps17
  go_wp2_with fail
  refine HF.out.mono ?_
  rintro e w1 ⟨rfl, hb⟩
  have HB1 := hidV (HB.out.trans (hb.mono HB.out.size))
  clear hb
  go_wp2_with fail
  go_ret3
  rw [HR.out]
  exact ⟨rfl, HB1.out⟩

set_option maxHeartbeats 2000000 in
set_option maxRecDepth 100000 in
theorem rv_neg (o : O) (hf : formB o = true) (ih : RvCalls o) : RvCalls (.neg o) := by
  intro w v B r K vF vC d ht hr hl hv hd
  obtain ⟨a, cap, rfl, h1, h2, h3⟩ := ht
  have HG := hidV (rk_good hv d o hf)
  have HR : Hid (rk K d (.neg o) = otherR (rk K d o)) := rfl
  simp only [plain, T.kind, T.s, T.n, T.k, List.length_singleton] at h1 h3 ⊢
  have HB : Hid (Below w.heap.size w (w.alloc (.cells #[.int .i64 14, .string ⟨#[]⟩, .int .i64 0, .slice a 1 cap] 52))) := below_alloc (Below.refl _ _) _
  obtain ⟨b, o', ka, ca, rfl, c0, c1, c2, c3, t0⟩ := (h3.below HB.out).cells (j := 0) (t := plain o) rfl
  simp only [Nat.zero_mul, Nat.add_zero] at c0 c1 c2 c3
  have HI := hidV (ih _ _ B r K vF vC d t0 (hr.below HB.out) hl hv hd)
  have HBLK : Hid ((w.alloc (.cells #[.int .i64 14, .string ⟨#[]⟩, .int .i64 0, .slice (some ⟨b, o', none⟩) 1 cap] 52)).heap[w.heap.size]? = some (.cells #[.int .i64 14, .string ⟨#[]⟩, .int .i64 0, .slice (some ⟨b, o', none⟩) 1 cap] 52)) := heap_alloc_new _ _
  clear h3 hr hv hl t0 ih
  generalize rk K d o = x at *
  go_enter Try.func17, Try.ntmps17
  go_wp2_with fail
  refine HI.out.mono ?_
  rintro e w1 ⟨rfl, hb⟩
  have HB1 := hidV (HB.out.trans (hb.mono HB.out.size))
  have HBLK1 := hidV ((hb.block _ (by simp)).trans HBLK.out)
  have k0 : w1.cell? ⟨w.heap.size, 0, none⟩ = some (.int .i64 14) := cell_of_row _ _ _ _ _ _ HBLK1.out
  clear hb c0 c1 c2 c3 HI
  obtain ⟨n, q, e⟩ := x
  unfold ofE
  by_cases he : e = 0
  · subst he
    have HQ : Hid (otherR ⟨n, q, 0⟩ = ⟨-n, q, 0⟩) := by
      unfold Hid otherR
      cases q
      · have := HG.out.unk rfl
        simp only at this
        subst this
        rfl
      · have := HG.out.val rfl
        simp only at this
        simp [negR, this, inR]
    have hn1 : -9223372036854775807 ≤ n ∧ n ≤ 9223372036854775807 := by
      cases q
      · have := HG.out.unk rfl
        simp only at this
        omega
      · have := HG.out.val rfl
        simp only at this
        rw [vB_iff] at this
        omega
    obtain ⟨hn1, hn2⟩ := hn1
    go_wp2_with fail
    go_ret3
    rw [HR.out, HQ.out]
    exact ⟨rfl, HB1.out⟩
  · have he' : (e != 0) = true := by simpa using he
    have HQ : Hid (otherR ⟨n, q, e⟩ = ⟨0, false, e⟩) := by
      unfold Hid otherR
      obtain ⟨h1, h2⟩ := HG.out.err he
      simp only at h1 h2
      subst h1 h2
      simp
    go_wp2_with fail
    go_ret3
    rw [HR.out, HQ.out]
    exact ⟨rfl, HB1.out⟩

set_option maxHeartbeats 4000000 in
set_option maxRecDepth 100000 in
theorem rv_add (l r' : O) (hfl : formB l = true) (hfr : formB r' = true) (ihl : RvCalls l) (ihr : RvCalls r') : RvCalls (.add l r') := by
  intro w v B r K vF vC d ht hr hl hv hd
  obtain ⟨a, cap, rfl, h1, h2, h3⟩ := ht
  have HGL := hidV (rk_good hv d l hfl)
  have HGR := hidV (rk_good hv d r' hfr)
  have HR : Hid (rk K d (.add l r') = bothR (rk K d l) (rk K d r') addR) := rfl
  simp only [plain, T.kind, T.s, T.n, T.k, List.length_cons, List.length_nil] at h1 h3 ⊢
  have HB : Hid (Below w.heap.size w (w.alloc (.cells #[.int .i64 13, .string ⟨#[]⟩, .int .i64 0, .slice a 2 cap] 52))) := below_alloc (Below.refl _ _) _
  obtain ⟨b, o', ka, ca, rfl, c0, c1, c2, c3, t0⟩ := (h3.below HB.out).cells (j := 0) (t := plain l) rfl
  obtain ⟨b', o2, kb, cb, e, d0, d1, d2, d3, t1⟩ := (h3.below HB.out).cells (j := 1) (t := plain r') rfl
  injection e with e
  injection e with e1 e2
  subst e1 e2
  simp only [Nat.zero_mul, Nat.add_zero, Nat.one_mul] at c0 c1 c2 c3 d0 d1 d2 d3
  have HI := hidV (ihl _ _ B r K vF vC d t0 (hr.below HB.out) hl hv hd)
  have HI2 := hidV (fun w' (vv : Value) (hw : Below w.heap.size w w') (h : TIn w' 0 (plain r') vv) => ihr w' vv B r K vF vC d h (hr.below hw) hl hv hd)
  have HBLK : Hid ((w.alloc (.cells #[.int .i64 13, .string ⟨#[]⟩, .int .i64 0, .slice (some ⟨b, o', none⟩) 2 cap] 52)).heap[w.heap.size]? = some (.cells #[.int .i64 13, .string ⟨#[]⟩, .int .i64 0, .slice (some ⟨b, o', none⟩) 2 cap] 52)) := heap_alloc_new _ _
  have HT1 := hidV t1
  have HLT := hidV (World.block_lt_of_cell? _ _ d0)
  have HD : Hid (∀ w', Below (w.alloc (.cells #[.int .i64 13, .string ⟨#[]⟩, .int .i64 0, .slice (some ⟨b, o', none⟩) 2 cap] 52)).heap.size (w.alloc (.cells #[.int .i64 13, .string ⟨#[]⟩, .int .i64 0, .slice (some ⟨b, o', none⟩) 2 cap] 52)) w' → w'.cell? ⟨b, o' + 4, none⟩ = some (.int .i64 (plain r').kind) ∧ w'.cell? ⟨b, o' + 4 + 1, none⟩ = some (.string (plain r').s) ∧ w'.cell? ⟨b, o' + 4 + 2, none⟩ = some (.int .i64 (plain r').n) ∧ w'.cell? ⟨b, o' + 4 + 3, none⟩ = some (.slice kb (plain r').k.length cb)) := fun w' h =>
    ⟨(h.cell (p := ⟨b, o' + 4, none⟩) HLT.out).trans d0, (h.cell (p := ⟨b, o' + 4 + 1, none⟩) HLT.out).trans d1, (h.cell (p := ⟨b, o' + 4 + 2, none⟩) HLT.out).trans d2, (h.cell (p := ⟨b, o' + 4 + 3, none⟩) HLT.out).trans d3⟩
  clear h3 hr hv hl t0 t1 d0 d1 d2 d3 ihl ihr
  generalize rk K d l = x at *
  generalize rk K d r' = y at *
  go_enter Try.func17, Try.ntmps17
  go_wp2_with fail
  refine HI.out.mono ?_
  rintro e w1 ⟨rfl, hb⟩
  have HB1 := hidV (HB.out.trans (hb.mono HB.out.size))
  have HBLK1 := hidV ((hb.block _ (by simp)).trans HBLK.out)
  have k0 : w1.cell? ⟨w.heap.size, 0, none⟩ = some (.int .i64 13) := cell_of_row _ _ _ _ _ _ HBLK1.out
  have k3 : w1.cell? ⟨w.heap.size, 3, none⟩ = some (.slice (some ⟨b, o', none⟩) 2 cap) := cell_of_row _ _ _ _ _ _ HBLK1.out
  obtain ⟨d0, d1, d2, d3⟩ := HD.out w1 hb
  have HT2 := hidV (HT1.out.below hb)
  clear hb c0 c1 c2 c3 HI HD HT1
  obtain ⟨n, q, e⟩ := x
  unfold ofE
  by_cases he : e = 0
  rotate_left
  · have he' : (e != 0) = true := by simpa using he
    have HQ : Hid (bothR ⟨n, q, e⟩ y addR = ⟨0, false, e⟩) := by
      unfold Hid bothR
      obtain ⟨h1, h2⟩ := HGL.out.err he
      simp only at h1 h2
      subst h1 h2
      simp [he]
    go_wp2_with fail
    go_ret3
    rw [HR.out, HQ.out]
    exact ⟨rfl, HB1.out⟩
  subst he
  go_wp2_with fail
  refine (HI2.out w1 _ HB1.out HT2.out).mono ?_
  rintro e w2 ⟨rfl, hb⟩
  have HB2 := hidV (HB1.out.trans (hb.mono HB1.out.size))
  have HBLK2 := hidV ((hb.block _ (Array.getElem?_eq_some_iff.1 HBLK1.out).1).trans HBLK1.out)
  have k0 : w2.cell? ⟨w.heap.size, 0, none⟩ = some (.int .i64 13) := cell_of_row _ _ _ _ _ _ HBLK2.out
  clear hb d0 d1 d2 d3 HI2 HT2 k3
  obtain ⟨m, z, e⟩ := y
  unfold ofE
  by_cases he : e = 0
  rotate_left
  · have he' : (e != 0) = true := by simpa using he
    have HQ : Hid (bothR ⟨n, q, 0⟩ ⟨m, z, e⟩ addR = ⟨0, false, e⟩) := by
      unfold Hid bothR
      obtain ⟨h1, h2⟩ := HGR.out.err he
      simp only at h1 h2
      subst h1 h2
      simp [he]
    go_wp2_with fail
    go_ret3
    rw [HR.out, HQ.out]
    exact ⟨rfl, HB2.out⟩
  subst he
  have HU : Hid ((q = false ∨ z = false) → bothR ⟨n, q, 0⟩ ⟨m, z, 0⟩ addR = ⟨0, false, 0⟩) := by
    intro h
    rcases h with rfl | rfl <;> simp [bothR]
  cases q
  · have HQ := hidV (HU.out (.inl rfl))
    go_wp2_with fail
    go_ret3
    rw [HR.out, HQ.out]
    exact ⟨rfl, HB2.out⟩
  cases z
  · have HQ := hidV (HU.out (.inr rfl))
    go_wp2_with fail
    go_ret3
    rw [HR.out, HQ.out]
    exact ⟨rfl, HB2.out⟩
  have HQ : Hid (bothR ⟨n, true, 0⟩ ⟨m, true, 0⟩ addR = inR (addR n m)) := by unfold Hid; simp [bothR]
  obtain ⟨ok, hok⟩ : ∃ ok, (addR n m).2 = ok := ⟨_, rfl⟩
  have HC := hidV (refAdd_any n m)
  rw [hok] at HC
  have HIN : Hid (inR (addR n m) = if ok = true then ⟨(addR n m).1, true, 0⟩ else ⟨0, false, 6⟩) := by unfold Hid inR; rw [hok]
  clear hok
  generalize (addR n m).1 = y at *
  rcases Int.lt_or_le n m with hnm | hnm
  all_goals
    cases ok
    all_goals
      go_wp2_with fail
      refine calls_same (HC.out _) ?_
      go_wp2_with fail
      go_ret3
      rw [HR.out, HQ.out, HIN.out]
      exact ⟨rfl, HB2.out⟩


set_option maxHeartbeats 4000000 in
set_option maxRecDepth 100000 in
theorem rv_mul (l r' : O) (hfl : formB l = true) (hfr : formB r' = true) (ihl : RvCalls l) (ihr : RvCalls r') : RvCalls (.mul l r') := by
  intro w v B r K vF vC d ht hr hl hv hd
  obtain ⟨a, cap, rfl, h1, h2, h3⟩ := ht
  have HGL := hidV (rk_good hv d l hfl)
  have HGR := hidV (rk_good hv d r' hfr)
  have HR : Hid (rk K d (.mul l r') = bothR (rk K d l) (rk K d r') mulR) := rfl
  simp only [plain, T.kind, T.s, T.n, T.k, List.length_cons, List.length_nil] at h1 h3 ⊢
  have HB : Hid (Below w.heap.size w (w.alloc (.cells #[.int .i64 15, .string ⟨#[]⟩, .int .i64 0, .slice a 2 cap] 52))) := below_alloc (Below.refl _ _) _
  obtain ⟨b, o', ka, ca, rfl, c0, c1, c2, c3, t0⟩ := (h3.below HB.out).cells (j := 0) (t := plain l) rfl
  obtain ⟨b', o2, kb, cb, e, d0, d1, d2, d3, t1⟩ := (h3.below HB.out).cells (j := 1) (t := plain r') rfl
  injection e with e
  injection e with e1 e2
  subst e1 e2
  simp only [Nat.zero_mul, Nat.add_zero, Nat.one_mul] at c0 c1 c2 c3 d0 d1 d2 d3
  have HI := hidV (ihl _ _ B r K vF vC d t0 (hr.below HB.out) hl hv hd)
  have HI2 := hidV (fun w' (vv : Value) (hw : Below w.heap.size w w') (h : TIn w' 0 (plain r') vv) => ihr w' vv B r K vF vC d h (hr.below hw) hl hv hd)
  have HBLK : Hid ((w.alloc (.cells #[.int .i64 15, .string ⟨#[]⟩, .int .i64 0, .slice (some ⟨b, o', none⟩) 2 cap] 52)).heap[w.heap.size]? = some (.cells #[.int .i64 15, .string ⟨#[]⟩, .int .i64 0, .slice (some ⟨b, o', none⟩) 2 cap] 52)) := heap_alloc_new _ _
  have HT1 := hidV t1
  have HLT := hidV (World.block_lt_of_cell? _ _ d0)
  have HD : Hid (∀ w', Below (w.alloc (.cells #[.int .i64 15, .string ⟨#[]⟩, .int .i64 0, .slice (some ⟨b, o', none⟩) 2 cap] 52)).heap.size (w.alloc (.cells #[.int .i64 15, .string ⟨#[]⟩, .int .i64 0, .slice (some ⟨b, o', none⟩) 2 cap] 52)) w' → w'.cell? ⟨b, o' + 4, none⟩ = some (.int .i64 (plain r').kind) ∧ w'.cell? ⟨b, o' + 4 + 1, none⟩ = some (.string (plain r').s) ∧ w'.cell? ⟨b, o' + 4 + 2, none⟩ = some (.int .i64 (plain r').n) ∧ w'.cell? ⟨b, o' + 4 + 3, none⟩ = some (.slice kb (plain r').k.length cb)) := fun w' h =>
    ⟨(h.cell (p := ⟨b, o' + 4, none⟩) HLT.out).trans d0, (h.cell (p := ⟨b, o' + 4 + 1, none⟩) HLT.out).trans d1, (h.cell (p := ⟨b, o' + 4 + 2, none⟩) HLT.out).trans d2, (h.cell (p := ⟨b, o' + 4 + 3, none⟩) HLT.out).trans d3⟩
  clear h3 hr hv hl t0 t1 d0 d1 d2 d3 ihl ihr
  generalize rk K d l = x at *
  generalize rk K d r' = y at *
  go_enter Try.func17, Try.ntmps17
  go_wp2_with fail
  refine HI.out.mono ?_
  rintro e w1 ⟨rfl, hb⟩
  have HB1 := hidV (HB.out.trans (hb.mono HB.out.size))
  have HBLK1 := hidV ((hb.block _ (by simp)).trans HBLK.out)
  have k0 : w1.cell? ⟨w.heap.size, 0, none⟩ = some (.int .i64 15) := cell_of_row _ _ _ _ _ _ HBLK1.out
  have k3 : w1.cell? ⟨w.heap.size, 3, none⟩ = some (.slice (some ⟨b, o', none⟩) 2 cap) := cell_of_row _ _ _ _ _ _ HBLK1.out
  obtain ⟨d0, d1, d2, d3⟩ := HD.out w1 hb
  have HT2 := hidV (HT1.out.below hb)
  clear hb c0 c1 c2 c3 HI HD HT1
  obtain ⟨n, q, e⟩ := x
  unfold ofE
  by_cases he : e = 0
  rotate_left
  · have he' : (e != 0) = true := by simpa using he
    have HQ : Hid (bothR ⟨n, q, e⟩ y mulR = ⟨0, false, e⟩) := by
      unfold Hid bothR
      obtain ⟨h1, h2⟩ := HGL.out.err he
      simp only at h1 h2
      subst h1 h2
      simp [he]
    go_wp2_with fail
    go_ret3
    rw [HR.out, HQ.out]
    exact ⟨rfl, HB1.out⟩
  subst he
  go_wp2_with fail
  refine (HI2.out w1 _ HB1.out HT2.out).mono ?_
  rintro e w2 ⟨rfl, hb⟩
  have HB2 := hidV (HB1.out.trans (hb.mono HB1.out.size))
  have HBLK2 := hidV ((hb.block _ (Array.getElem?_eq_some_iff.1 HBLK1.out).1).trans HBLK1.out)
  have k0 : w2.cell? ⟨w.heap.size, 0, none⟩ = some (.int .i64 15) := cell_of_row _ _ _ _ _ _ HBLK2.out
  clear hb d0 d1 d2 d3 HI2 HT2 k3
  obtain ⟨m, z, e⟩ := y
  unfold ofE
  by_cases he : e = 0
  rotate_left
  · have he' : (e != 0) = true := by simpa using he
    have HQ : Hid (bothR ⟨n, q, 0⟩ ⟨m, z, e⟩ mulR = ⟨0, false, e⟩) := by
      unfold Hid bothR
      obtain ⟨h1, h2⟩ := HGR.out.err he
      simp only at h1 h2
      subst h1 h2
      simp [he]
    go_wp2_with fail
    go_ret3
    rw [HR.out, HQ.out]
    exact ⟨rfl, HB2.out⟩
  subst he
  have HU : Hid ((q = false ∨ z = false) → bothR ⟨n, q, 0⟩ ⟨m, z, 0⟩ mulR = ⟨0, false, 0⟩) := by
    intro h
    rcases h with rfl | rfl <;> simp [bothR]
  cases q
  · have HQ := hidV (HU.out (.inl rfl))
    go_wp2_with fail
    go_ret3
    rw [HR.out, HQ.out]
    exact ⟨rfl, HB2.out⟩
  cases z
  · have HQ := hidV (HU.out (.inr rfl))
    go_wp2_with fail
    go_ret3
    rw [HR.out, HQ.out]
    exact ⟨rfl, HB2.out⟩
  have HQ : Hid (bothR ⟨n, true, 0⟩ ⟨m, true, 0⟩ mulR = inR (mulR n m)) := by unfold Hid; simp [bothR]
  obtain ⟨ok, hok⟩ : ∃ ok, (mulR n m).2 = ok := ⟨_, rfl⟩
  have HC := hidV (refMul_any n m)
  rw [hok] at HC
  have HIN : Hid (inR (mulR n m) = if ok = true then ⟨(mulR n m).1, true, 0⟩ else ⟨0, false, 6⟩) := by unfold Hid inR; rw [hok]
  clear hok
  generalize (mulR n m).1 = y at *
  rcases Int.lt_or_le n m with hnm | hnm
  all_goals
    cases ok
    all_goals
      go_wp2_with fail
      refine calls_same (HC.out _) ?_
      go_wp2_with fail
      go_ret3
      rw [HR.out, HQ.out, HIN.out]
      exact ⟨rfl, HB2.out⟩


set_option maxHeartbeats 4000000 in
set_option maxRecDepth 100000 in
theorem rv_max (l r' : O) (hfl : formB l = true) (hfr : formB r' = true) (ihl : RvCalls l) (ihr : RvCalls r') : RvCalls (.max l r') := by
  intro w v B r K vF vC d ht hr hl hv hd
  obtain ⟨a, cap, rfl, h1, h2, h3⟩ := ht
  have HGL := hidV (rk_good hv d l hfl)
  have HGR := hidV (rk_good hv d r' hfr)
  have HR : Hid (rk K d (.max l r') = bothR (rk K d l) (rk K d r') gtR) := rfl
  simp only [plain, T.kind, T.s, T.n, T.k, List.length_cons, List.length_nil] at h1 h3 ⊢
  have HB : Hid (Below w.heap.size w (w.alloc (.cells #[.int .i64 16, .string ⟨#[]⟩, .int .i64 0, .slice a 2 cap] 52))) := below_alloc (Below.refl _ _) _
  obtain ⟨b, o', ka, ca, rfl, c0, c1, c2, c3, t0⟩ := (h3.below HB.out).cells (j := 0) (t := plain l) rfl
  obtain ⟨b', o2, kb, cb, e, d0, d1, d2, d3, t1⟩ := (h3.below HB.out).cells (j := 1) (t := plain r') rfl
  injection e with e
  injection e with e1 e2
  subst e1 e2
  simp only [Nat.zero_mul, Nat.add_zero, Nat.one_mul] at c0 c1 c2 c3 d0 d1 d2 d3
  have HI := hidV (ihl _ _ B r K vF vC d t0 (hr.below HB.out) hl hv hd)
  have HI2 := hidV (fun w' (vv : Value) (hw : Below w.heap.size w w') (h : TIn w' 0 (plain r') vv) => ihr w' vv B r K vF vC d h (hr.below hw) hl hv hd)
  have HBLK : Hid ((w.alloc (.cells #[.int .i64 16, .string ⟨#[]⟩, .int .i64 0, .slice (some ⟨b, o', none⟩) 2 cap] 52)).heap[w.heap.size]? = some (.cells #[.int .i64 16, .string ⟨#[]⟩, .int .i64 0, .slice (some ⟨b, o', none⟩) 2 cap] 52)) := heap_alloc_new _ _
  have HT1 := hidV t1
  have HLT := hidV (World.block_lt_of_cell? _ _ d0)
  have HD : Hid (∀ w', Below (w.alloc (.cells #[.int .i64 16, .string ⟨#[]⟩, .int .i64 0, .slice (some ⟨b, o', none⟩) 2 cap] 52)).heap.size (w.alloc (.cells #[.int .i64 16, .string ⟨#[]⟩, .int .i64 0, .slice (some ⟨b, o', none⟩) 2 cap] 52)) w' → w'.cell? ⟨b, o' + 4, none⟩ = some (.int .i64 (plain r').kind) ∧ w'.cell? ⟨b, o' + 4 + 1, none⟩ = some (.string (plain r').s) ∧ w'.cell? ⟨b, o' + 4 + 2, none⟩ = some (.int .i64 (plain r').n) ∧ w'.cell? ⟨b, o' + 4 + 3, none⟩ = some (.slice kb (plain r').k.length cb)) := fun w' h =>
    ⟨(h.cell (p := ⟨b, o' + 4, none⟩) HLT.out).trans d0, (h.cell (p := ⟨b, o' + 4 + 1, none⟩) HLT.out).trans d1, (h.cell (p := ⟨b, o' + 4 + 2, none⟩) HLT.out).trans d2, (h.cell (p := ⟨b, o' + 4 + 3, none⟩) HLT.out).trans d3⟩
  clear h3 hr hv hl t0 t1 d0 d1 d2 d3 ihl ihr
  generalize rk K d l = x at *
  generalize rk K d r' = y at *
  go_enter Try.func17, Try.ntmps17
  go_wp2_with fail
  refine HI.out.mono ?_
  rintro e w1 ⟨rfl, hb⟩
  have HB1 := hidV (HB.out.trans (hb.mono HB.out.size))
  have HBLK1 := hidV ((hb.block _ (by simp)).trans HBLK.out)
  have k0 : w1.cell? ⟨w.heap.size, 0, none⟩ = some (.int .i64 16) := cell_of_row _ _ _ _ _ _ HBLK1.out
  have k3 : w1.cell? ⟨w.heap.size, 3, none⟩ = some (.slice (some ⟨b, o', none⟩) 2 cap) := cell_of_row _ _ _ _ _ _ HBLK1.out
  obtain ⟨d0, d1, d2, d3⟩ := HD.out w1 hb
  have HT2 := hidV (HT1.out.below hb)
  clear hb c0 c1 c2 c3 HI HD HT1
  obtain ⟨n, q, e⟩ := x
  unfold ofE
  by_cases he : e = 0
  rotate_left
  · have he' : (e != 0) = true := by simpa using he
    have HQ : Hid (bothR ⟨n, q, e⟩ y gtR = ⟨0, false, e⟩) := by
      unfold Hid bothR
      obtain ⟨h1, h2⟩ := HGL.out.err he
      simp only at h1 h2
      subst h1 h2
      simp [he]
    go_wp2_with fail
    go_ret3
    rw [HR.out, HQ.out]
    exact ⟨rfl, HB1.out⟩
  subst he
  go_wp2_with fail
  refine (HI2.out w1 _ HB1.out HT2.out).mono ?_
  rintro e w2 ⟨rfl, hb⟩
  have HB2 := hidV (HB1.out.trans (hb.mono HB1.out.size))
  have HBLK2 := hidV ((hb.block _ (Array.getElem?_eq_some_iff.1 HBLK1.out).1).trans HBLK1.out)
  have k0 : w2.cell? ⟨w.heap.size, 0, none⟩ = some (.int .i64 16) := cell_of_row _ _ _ _ _ _ HBLK2.out
  clear hb d0 d1 d2 d3 HI2 HT2 k3
  obtain ⟨m, z, e⟩ := y
  unfold ofE
  by_cases he : e = 0
  rotate_left
  · have he' : (e != 0) = true := by simpa using he
    have HQ : Hid (bothR ⟨n, q, 0⟩ ⟨m, z, e⟩ gtR = ⟨0, false, e⟩) := by
      unfold Hid bothR
      obtain ⟨h1, h2⟩ := HGR.out.err he
      simp only at h1 h2
      subst h1 h2
      simp [he]
    go_wp2_with fail
    go_ret3
    rw [HR.out, HQ.out]
    exact ⟨rfl, HB2.out⟩
  subst he
  have HU : Hid ((q = false ∨ z = false) → bothR ⟨n, q, 0⟩ ⟨m, z, 0⟩ gtR = ⟨0, false, 0⟩) := by
    intro h
    rcases h with rfl | rfl <;> simp [bothR]
  cases q
  · have HQ := hidV (HU.out (.inl rfl))
    go_wp2_with fail
    go_ret3
    rw [HR.out, HQ.out]
    exact ⟨rfl, HB2.out⟩
  cases z
  · have HQ := hidV (HU.out (.inr rfl))
    go_wp2_with fail
    go_ret3
    rw [HR.out, HQ.out]
    exact ⟨rfl, HB2.out⟩
  have HQ : Hid (bothR ⟨n, true, 0⟩ ⟨m, true, 0⟩ gtR = inR (gtR n m)) := by unfold Hid; simp [bothR]
  rcases Int.lt_or_le n m with hnm | hnm
  · have HM : Hid (Max.max n m = m) := by unfold Hid; omega
    go_wp2_with fail
    go_ret3
    rw [HR.out, HQ.out]
    refine ⟨?_, HB2.out⟩
    unfold gtR inR
    rw [HM.out]
    rfl
  · have HM : Hid (Max.max n m = n) := by unfold Hid; omega
    go_wp2_with fail
    go_ret3
    rw [HR.out, HQ.out]
    refine ⟨?_, HB2.out⟩
    unfold gtR inR
    rw [HM.out]
    rfl


/-- What the document's Value answers. -/
theorem refValue_any (o : O) : formB o = true → RvCalls o := by
  induction o with
  | const n => exact fun _ => rv_const n
  | fix s => exact fun _ => rv_fix s
  | add l r hl hr => intro hf; simp only [formB, Bool.and_eq_true] at hf; exact rv_add l r hf.1 hf.2 (hl hf.1) (hr hf.2)
  | neg o ho => intro hf; simp only [formB] at hf; exact rv_neg o hf (ho hf)
  | mul l r hl hr => intro hf; simp only [formB, Bool.and_eq_true] at hf; exact rv_mul l r hf.1 hf.2 (hl hf.1) (hr hf.2)
  | max l r hl hr => intro hf; simp only [formB, Bool.and_eq_true] at hf; exact rv_max l r hf.1 hf.2 (hl hf.1) (hr hf.2)
  | odd v => intro hf; simp [formB] at hf

end Go.Proofs.Ytdlflpnjmldakaa.Vl
namespace Go.Proofs.Ytdlflpnjmldakaa
open Go.RowKit Go.Maps
set_option linter.unusedVariables false

def labStep (st : List ByteArray) (c : C) : List ByteArray := if c.kind = 5 then st ++ [c.text] else st
/-- The labels of a contract's Ors, in the order of a walk. -/
def C.labels : C → List ByteArray
  | .give c => c.labels
  | .and l r => l.labels ++ r.labels
  | .or s l r => s :: (l.labels ++ r.labels)
  | .scale _ c => c.labels
  | .when _ c => c.labels
  | .iff _ l r => l.labels ++ r.labels
  | _ => []
theorem labels_fold (c : C) : ∀ st, c.pre.foldl labStep st = st ++ c.labels := by
  induction c <;> intro st <;> simp_all [C.pre, labStep, C.kind, C.text, C.labels]
theorem labels_weight (c : C) : c.labels.length ≤ c.weight := by
  induction c <;> simp [C.labels, C.weight] <;> omega

/-- What is kept while labels are gathered. -/
def LabInv (V : Nat) (own : Nat → Prop) (st : List ByteArray) (w : World) : Prop :=
  ∃ v, own = (fun k => k = V ∨ v.ownBlock = some k) ∧ w.heap[V]? = some (.cells #[v] 42 (0, 0)) ∧ w.ownsRow (V + 1) 9 1 v st.length (strCells st)
theorem cell_one_in {w : World} {b : Nat} (hb : b = w.heap.size) (x : Value) (t : TypeId) : ∀ j u, [x][j]? = some u → (w.alloc (.cells #[x] t)).cell? ((⟨b, 0, none⟩ : Addr).add j) = some u := by
  subst hb
  exact cell_one_at w x t
theorem own_shape {w : World} {B e size n : Nat} {v : Value} {xs : List Value} (h : w.ownsRow B e size v n xs) : ∃ ao cap, v = .slice ao n cap := by
  rcases h.2 with ⟨rfl, h0⟩ | ⟨g, cap, cur, rfl, _⟩
  · exact ⟨none, 0, by rw [h0]⟩
  · exact ⟨_, _, rfl⟩
theorem own_slice {w : World} {B : Nat} {v : Value} {l : List ByteArray} (h : w.ownsRow B 9 1 v l.length (strCells l)) : ∃ ao cap, v = .slice ao l.length cap := by
  obtain ⟨ao, cap, e, _⟩ := own_str h
  exact ⟨ao, cap, e⟩

end Go.Proofs.Ytdlflpnjmldakaa
namespace Go.Proofs.Ytdlflpnjmldakaa
open Go.RowKit Go.Maps
set_option linter.unusedVariables false

theorem ownsRow_base {w : World} {B B' e size n : Nat} {v : Value} {xs : List Value} (h : w.ownsRow B e size v n xs) (hB : B' ≤ B) : w.ownsRow B' e size v n xs := by
  refine ⟨h.1, ?_⟩
  rcases h.2 with h | ⟨g, cap, cur, h1, h2, h3⟩
  · exact .inl h
  · exact .inr ⟨g, cap, cur, h1, by omega, h3⟩

/-- What is known of a list of texts in memory. -/
def HasTxt (w : World) (a : Option Addr) (l : List ByteArray) : Prop := ∀ (i : Nat) (s : ByteArray), l[i]? = some s → ∃ g, a = some ⟨g, 0, none⟩ ∧ w.cell? ⟨g, i, none⟩ = some (.string s)
theorem HasTxt.below {w w' : World} {a : Option Addr} {l : List ByteArray} (h : HasTxt w a l) (hb : Below w.heap.size w w') : HasTxt w' a l := by
  intro i o hi
  obtain ⟨b, e, hc⟩ := h i o hi
  exact ⟨b, e, (hb.cell (World.block_lt_of_cell? w _ hc)).trans hc⟩
theorem own_txt {w : World} {B : Nat} {v : Value} {l : List ByteArray} (h : w.ownsRow B 9 1 v l.length (strCells l)) : ∃ ao cap, v = .slice ao l.length cap ∧ HasTxt w ao l ∧ l.length ≤ 9223372036854775807 ∧ (∀ g, ao = some ⟨g, 0, none⟩ → v.ownBlock = some g) := by
  have h' := own_str h
  obtain ⟨ao, cap, rfl, hc, hl⟩ := h'
  refine ⟨ao, cap, rfl, fun i s hi => ?_, hl, fun g e => by subst e; rfl⟩
  obtain ⟨hlt, rfl⟩ := List.getElem?_eq_some_iff.1 hi
  obtain ⟨g, e, _, hcc⟩ := hc i hlt
  exact ⟨g, e, hcc⟩
theorem HasTxt.grew {w w' : World} {a : Option Addr} {l : List ByteArray} {M : Nat} {row : Option Nat} (h : HasTxt w a l) (hg : Grew M row w w') (hM : ∀ b, a = some ⟨b, 0, none⟩ → b ≠ M ∧ row ≠ some b) : HasTxt w' a l := by
  intro i o hi
  obtain ⟨b, e, hc⟩ := h i o hi
  obtain ⟨h1, h2⟩ := hM b e
  refine ⟨b, e, ?_⟩
  have hb := hg.block b (World.block_lt_of_cell? w _ hc) h1 h2
  simp only [World.cell?, hb] at hc ⊢
  exact hc
theorem addAll_snoc (acc l : List ByteArray) (s : ByteArray) : addAll acc (l ++ [s]) = addN (addAll acc l) s := by simp [addAll]

/-- Whether one is there twice. -/
def twice (l : List ByteArray) : Bool := decide ((addAll [] l).length < l.length)

/-- What Check answers. -/
def chkC (c : C) : Int := if formC c = true then (if 60 < c.nodes ∨ 12 < c.depth then 5 else if twice c.labels = true then 4 else 0) else 2
theorem weight_nodes (c : C) : c.nodes ≤ c.weight := by
  induction c <;> simp [C.nodes, C.weight] <;> omega

theorem chkC_nil : chkC (.odd .nilIface) = 2 := rfl
end Go.Proofs.Ytdlflpnjmldakaa
namespace Go.Proofs.Ytdlflpnjmldakaa
open Go.RowKit Go.Maps
set_option linter.unusedVariables false

def namStep (st : List ByteArray) (c : C) : List ByteArray := addAll st (allL c.nums)
/-- The names of a contract's Fixes, in the order of a walk. -/
def C.all : C → List ByteArray
  | .give c => c.all
  | .and l r => l.all ++ r.all
  | .or _ l r => l.all ++ r.all
  | .scale o c => o.all ++ c.all
  | .when _ c => c.all
  | .iff o l r => o.all ++ (l.all ++ r.all)
  | _ => []
theorem names_fold (c : C) : ∀ st, c.pre.foldl namStep st = addAll st c.all := by
  induction c <;> intro st <;> simp_all [C.pre, namStep, C.nums, C.all, allL, addAll]
def C.names (c : C) : List ByteArray := addAll [] c.all
theorem addAll_id (acc : List ByteArray) : ∀ l : List ByteArray, (∀ s ∈ l, s ∈ acc) → addAll acc l = acc := by
  intro l
  induction l with
  | nil => intro _; rfl
  | cons s l ih =>
    intro h
    have h1 : addN acc s = acc := by unfold addN; rw [if_pos ((inN_iff acc s).2 (h s (by simp)))]
    show addAll (addN acc s) l = acc
    rw [h1]
    exact ih (fun t ht => h t (by simp [ht]))
theorem mem_addN (acc : List ByteArray) (s t : ByteArray) : t ∈ addN acc s ↔ t ∈ acc ∨ t = s := by
  unfold addN
  split
  · rename_i h
    have := (inN_iff acc s).1 h
    constructor
    · exact .inl
    · rintro (h | rfl); exact h; exact this
  · simp
theorem addN_twice (acc : List ByteArray) (s : ByteArray) (h : s ∈ acc) : addN acc s = acc := by unfold addN; rw [if_pos ((inN_iff acc s).2 h)]
theorem mem_addAll : ∀ (l acc : List ByteArray) (t : ByteArray), t ∈ addAll acc l ↔ t ∈ acc ∨ t ∈ l := by
  intro l
  induction l with
  | nil => intro acc t; simp [addAll]
  | cons s l ih =>
    intro acc t
    show t ∈ addAll (addN acc s) l ↔ _
    rw [ih, mem_addN]
    simp only [List.mem_cons]
    constructor
    · rintro ((h | h) | h); exact .inl h; exact .inr (.inl h); exact .inr (.inr h)
    · rintro (h | h | h); exact .inl (.inl h); exact .inl (.inr h); exact .inr h
/-- Adding what is each once is adding all. -/
theorem addAll_once : ∀ (l acc pre : List ByteArray), (∀ s ∈ pre, s ∈ acc) → addAll acc (addAll pre l) = addAll acc l := by
  intro l
  induction l with
  | nil => intro acc pre h; exact addAll_id acc pre h
  | cons s l ih =>
    intro acc pre h
    show addAll acc (addAll (addN pre s) l) = addAll (addN acc s) l
    by_cases hs : s ∈ pre
    · rw [addN_twice pre s hs, ih acc pre h, addN_twice acc s (h s hs)]
    · have e : addN pre s = pre ++ [s] := by
        unfold addN
        rw [if_neg (fun e => hs ((inN_iff pre s).1 e))]
      have hc : ∀ (l pre : List ByteArray), ∃ m, addAll pre l = pre ++ m := by
        intro l
        induction l with
        | nil => intro pre; exact ⟨[], by simp [addAll]⟩
        | cons x l ihl =>
          intro pre
          obtain ⟨m, hm⟩ := ihl (addN pre x)
          show ∃ m, addAll (addN pre x) l = pre ++ m
          rw [hm]
          unfold addN
          split
          · exact ⟨m, rfl⟩
          · exact ⟨[x] ++ m, by simp⟩
      obtain ⟨m, hm⟩ := hc l (addN pre s)
      rw [hm, e, addAll_append, addAll_append, addAll_id acc pre h]
      have h2 : addAll acc [s] = addN acc s := rfl
      rw [h2]
      have h3 := ih (addN acc s) (addN pre s) (fun t ht => by
        rw [mem_addN] at ht ⊢
        rcases ht with ht | ht
        · exact .inl (h t ht)
        · exact .inr ht)
      rw [hm, e, addAll_append, addAll_append] at h3
      rw [addAll_id (addN acc s) pre (fun t ht => (mem_addN acc s t).2 (.inl (h t ht)))] at h3
      have h4 : addAll (addN acc s) [s] = addN acc s := addN_twice _ _ ((mem_addN acc s s).2 (.inr rfl))
      rw [h4] at h3
      exact h3

/-- What is kept while names are gathered. -/
def NamInv (V : Nat) (own : Nat → Prop) (st : List ByteArray) (w : World) : Prop :=
  ∃ v, own = (fun k => k = V ∨ k = V + 1 ∨ v.ownBlock = some k) ∧ w.heap[V]? = some (.cells #[v] 42 (0, 0)) ∧ w.heap[V + 2]? = some (.cells #[.map (some (V + 1))] 107 (0, 0)) ∧ NIn w (V + 1) v st ∧ v.ownBlock ≠ some (V + 2)

theorem names_ok (o : O) (h : o.Ok) : ∀ s ∈ o.all, s.size ≤ 2147483648 := by
  induction o with
  | fix s => intro t ht; simp [O.all] at ht; subst ht; exact h
  | neg o ih => exact ih h
  | add l r h1 h2 => intro s hs; simp only [O.all, List.mem_append] at hs; rcases hs with hs | hs; exact h1 h.1 s hs; exact h2 h.2 s hs
  | mul l r h1 h2 => intro s hs; simp only [O.all, List.mem_append] at hs; rcases hs with hs | hs; exact h1 h.1 s hs; exact h2 h.2 s hs
  | max l r h1 h2 => intro s hs; simp only [O.all, List.mem_append] at hs; rcases hs with hs | hs; exact h1 h.1 s hs; exact h2 h.2 s hs
  | _ => intro s hs; simp [O.all] at hs
theorem onames_ok (o : O) (h : o.Ok) : ∀ s ∈ o.names, s.size ≤ 2147483648 := by
  intro s hs
  unfold O.names at hs
  rw [mem_addAll] at hs
  rcases hs with hs | hs
  · simp at hs
  · exact names_ok o h s hs

theorem nam_fin {V : Nat} {v v2 : Value} {acc : List ByteArray} {w W wA wB : World} (hBW : Below w.heap.size w W) (hXA : Below W.heap.size W wA) (hG : Grew (V + 1) v.ownBlock wA wB) (hin : NIn wB (V + 1) v2 acc) (hloc : v2.ownBlock = v.ownBlock ∨ ∀ k, v2.ownBlock = some k → wA.heap.size ≤ k) (hVB : wB.heap[V]? = some (.cells #[v] 42 (0, 0))) (h3 : w.heap[V + 2]? = some (.cells #[.map (some (V + 1))] 107 (0, 0))) (h5 : v.ownBlock ≠ some (V + 2)) :
    ∃ own', NamInv V own' acc (wB.setCell ⟨V, 0, none⟩ v2) ∧ Dyn (fun k => k = V ∨ k = V + 1 ∨ v.ownBlock = some k) w own' (wB.setCell ⟨V, 0, none⟩ v2) := by
  have hlt := (Array.getElem?_eq_some_iff.1 h3).1
  have s1 := hBW.size
  have s2 := hXA.size
  have s3 := hG.size
  refine ⟨fun k => k = V ∨ k = V + 1 ∨ v2.ownBlock = some k, ⟨v2, rfl, heap_setCell_same wB V 0 _ _ _ hVB, ?_, ⟨ownsRow_setCell_below hin.1 (a := ⟨V, 0, none⟩) (by show V < V + 1 + 1; omega) v2, hin.2.1.setCell (by show V + 1 ≠ V; omega) _, by rw [World.size_setCell]; exact hin.2.2⟩, ?_⟩, hG.os.trans (hXA.os.trans hBW.os), hG.tape.trans (hXA.tape.trans hBW.tape), hG.output.trans (hXA.output.trans hBW.output), by rw [World.size_setCell]; omega, fun k hk hno => ?_, fun k hk => ?_⟩
  · rw [heap_setCell_other wB ⟨V, 0, none⟩ (V + 2) _ (by show V + 2 ≠ V; omega)]
    exact (hG.block (V + 2) (by omega) (by omega) h5).trans ((hXA.block (V + 2) (by omega)).trans ((hBW.block (V + 2) hlt).trans h3))
  · rcases hloc with h | h
    · rw [h]; exact h5
    · intro e; have := h _ e; omega
  · have k1 : k ≠ V := fun e => hno (.inl e)
    have k2 : k ≠ V + 1 := fun e => hno (.inr (.inl e))
    have k3 : v.ownBlock ≠ some k := fun e => hno (.inr (.inr e))
    rw [heap_setCell_other wB ⟨V, 0, none⟩ k _ k1]
    exact (hG.block k (by omega) k2 k3).trans ((hXA.block k (by omega)).trans (hBW.block k hk))
  · rcases hk with hk | hk | hk
    · exact .inl (.inl hk)
    · exact .inl (.inr (.inl hk))
    · rcases hloc with h | h
      · rw [h] at hk; exact .inl (.inr (.inr hk))
      · have := h k hk; exact .inr (by omega)

end Go.Proofs.Ytdlflpnjmldakaa
namespace Go.Proofs.Ytdlflpnjmldakaa
open Go.RowKit
set_option linter.unusedVariables false

theorem ownsRow_below {w w' : World} {B e size n : Nat} {v : Value} {xs : List Value} (h : w.ownsRow B e size v n xs) (hb : Below w.heap.size w w') : w'.ownsRow B e size v n xs :=
  h.kept (grown_of_below hb none) (by cases hv : v.ownBlock <;> simp)
theorem grownBy_refl (w : World) (r : Option Nat) : w.grownBy w r := grown_of_below (Below.refl _ _) r
theorem wpList_append_rows {ops : Array Oper} {rest : List Oper} {o : Oper} {a : Act} {Q : Exit → Act → World → Prop} (w : World) (hgd : o.guard = none) (s x : Operand)
    (ho : o.op = .call { callee := .builtin .append, args := #[s, x], argTypes := #[42, 42] })
    (base : Nat) (v : Value) (l : List ByteArray) (hs : a.eval s = v) (hown : w.ownsRow base 9 1 v l.length (strCells l))
    (B : Nat) (xv : Value) (m : List ByteArray) (hx : a.eval x = xv) (hox : w.ownsRow B 9 1 xv m.length (strCells m)) (hlen : l.length + m.length ≤ 1000000) (hbase : base ≤ w.heap.size)
    (h : ∀ v' w', w'.ownsRow base 9 1 v' (l ++ m).length (strCells (l ++ m)) → w.grownBy w' v.ownBlock → (v'.ownBlock = v.ownBlock ∨ v'.ownBlock = some w.heap.size) → wpList Try.prog ops Q rest (a.put o.dst v') w') : wpList Try.prog ops Q (o :: rest) a w := by
  obtain ⟨i0, gi, gz0, gz1, gz2⟩ := info_parts infoStr
  have hox2 := hox
  rcases hox2.2 with ⟨rfl, h0⟩ | ⟨g, cap, cur, rfl, hb, hg, hnc, hcm, _⟩
  · have hm : m = [] := List.length_eq_zero_iff.1 h0
    subst hm
    refine wpList_append_own_none hgd s x 42 ho base 9 i0 1 Try.underlying42 gi v l.length (strCells l) hs hown hx ?_
    exact h v w (by simpa using hown) (grownBy_refl w _) (.inl rfl)
  · refine wpList_append_own_at w hgd s x 42 ho base 9 i0 (.string ByteArray.empty) 1 16 Try.underlying42 gi gz0 gz1 gz2 rfl (by decide) v l.length (strCells l) hs hown ⟨g, 0, none⟩ m.length cap (strCells m) hx (by simp [strCells]) ?_ ?_ (by unfold maxLen; omega) (by omega) hbase ?_
    · intro j u hj
      rw [Addr.add_lit, Nat.zero_add]
      have hjl : j < m.length := by
        have := (List.getElem?_eq_some_iff.1 hj).1
        simpa [strCells] using this
      rw [hox.cellAt j (by omega)]
      exact hj
    · intro u hu
      obtain ⟨t, _, rfl⟩ := List.mem_map.1 hu
      rfl
    · intro v' w' h1 h2 _ h3
      refine h v' w' ?_ h2 h3
      simpa [strCells] using h1
/-- The labels of contracts, one behind the other. -/
def labL : List C → List ByteArray
  | [] => []
  | k :: l => k.labels ++ labL l
theorem labL_snoc (l : List C) (k : C) : labL (l ++ [k]) = labL l ++ k.labels := by
  induction l with
  | nil => simp [labL]
  | cons a l ih => simp [labL, ih]
theorem labels_kids (c : C) : c.labels = (if c.kind = 5 then [c.text] else []) ++ labL c.kids := by
  cases c <;> simp [C.labels, C.kind, C.text, C.kids, labL]
theorem labL_weight (l : List C) : (labL l).length ≤ weightL l := by
  induction l with
  | nil => simp [labL]
  | cons a l ih => have := labels_weight a; simp [labL, weightL]; omega
theorem plain_parts (c : C) (h6 : c.kind ≠ 6) (h8 : c.kind ≠ 8) : c.nums = [] := by
  cases c <;> simp [C.nums, C.kind] at h6 h8 ⊢

end Go.Proofs.Ytdlflpnjmldakaa
namespace Go.Proofs.Ytdlflpnjmldakaa
open Go.RowKit
set_option linter.unusedVariables false

mutual
/-- The labels of a tree's Ors, in order. -/
def T.labs : T → List ByteArray
  | .mk kind s _ k => (if kind = 5 then [s] else []) ++ labsL k
def labsL : List T → List ByteArray
  | [] => []
  | t :: l => t.labs ++ labsL l
end
mutual
/-- How many trees there are in a tree. -/
def T.cnt : T → Nat
  | .mk _ _ _ k => cntL k + 1
def cntL : List T → Nat
  | [] => 0
  | t :: l => t.cnt + cntL l
end
theorem labsL_snoc (l : List T) (k : T) : labsL (l ++ [k]) = labsL l ++ k.labs := by
  induction l with
  | nil => simp [labsL]
  | cons a l ih => simp [labsL, ih]
theorem cntL_snoc (l : List T) (k : T) : cntL (l ++ [k]) = cntL l + k.cnt := by
  induction l with
  | nil => simp [cntL]
  | cons a l ih => simp [cntL, ih]; omega
theorem cntL_take (l : List T) (i : Nat) : cntL (l.take i) ≤ cntL l := by
  induction l generalizing i with
  | nil => simp [cntL]
  | cons a l ih => cases i with
    | zero => simp [cntL]
    | succ i => simp [cntL]; exact ih i
theorem cntL_mem (l : List T) (t : T) (h : t ∈ l) : t.cnt ≤ cntL l := by
  induction l with
  | nil => simp at h
  | cons a l ih =>
    simp only [List.mem_cons] at h
    simp only [cntL]
    rcases h with rfl | h
    · omega
    · have := ih h; omega
theorem labs_cnt : ∀ t : T, t.labs.length ≤ t.cnt := by
  intro t
  induction t using T.ind with
  | _ kind s n k ih =>
    have h : (labsL k).length ≤ cntL k := by
      induction k with
      | nil => simp [labsL]
      | cons a l ihl =>
        have h1 := ih a (by simp)
        have h2 := ihl (fun t ht => ih t (by simp [ht]))
        simp only [labsL, cntL, List.length_append]
        omega
    unfold T.labs T.cnt
    rw [List.length_append]
    split <;> simp <;> omega
theorem labsL_cnt (l : List T) : (labsL l).length ≤ cntL l := by
  induction l with
  | nil => simp [labsL]
  | cons a l ih => have := labs_cnt a; simp only [labsL, cntL, List.length_append]; omega

set_option maxHeartbeats 4000000 in
set_option maxRecDepth 100000 in
theorem refLabels_any (t : T) : t.cnt ≤ 999990 → ∀ (w : World) (v : Value), TIn w 0 t v → Calls Try.prog 37 #[v] w fun e w' => ∃ v', e = .returned v' ∧ w'.ownsRow w.heap.size 9 1 v' t.labs.length (strCells t.labs) ∧ Below w.heap.size w w' := by
  induction t using T.ind with
  | _ kind s n k ih =>
  intro hcnt w v hv
  have hkl := len_cap hv
  obtain ⟨a, cap, rfl, hc1, hc2, hK⟩ := hv
  simp only [T.kind, T.s, T.n, T.k] at hc1 hK hkl ⊢
  obtain ⟨i0, gi, gz0, gz1, gz2⟩ := info_parts infoStr
  have hct : (T.mk kind s n k).cnt = cntL k + 1 := by rw [T.cnt]
  rw [hct] at hcnt
  have HIH : Hid (∀ t ∈ k, ∀ (w : World) (v : Value), TIn w 0 t v → Calls Try.prog 37 #[v] w fun e w' => ∃ v', e = .returned v' ∧ w'.ownsRow w.heap.size 9 1 v' t.labs.length (strCells t.labs) ∧ Below w.heap.size w w') := fun t ht => ih t ht (by have := cntL_mem k t ht; omega)
  have HLT0 : Hid ((T.mk kind s n k).labs = (if kind = 5 then [s] else []) ++ labsL k) := by unfold Hid; rw [T.labs]
  have HK := hidIn hK
  have HCN := hidIn hcnt
  clear ih hK hct
  go_enter Try.func37, Try.ntmps37
  go_upto_if 7 with fail
  obtain ⟨W, hW⟩ : ∃ W, W = w.alloc (.cells #[.int .i64 kind, .string s, .int .i64 n, .slice a k.length cap] 52) := ⟨_, rfl⟩
  have HB : Hid (Below w.heap.size w W) := by rw [hW]; exact below_alloc (Below.refl _ _) _
  have HBK : Hid (W.heap[w.heap.size]? = some (.cells #[.int .i64 kind, .string s, .int .i64 n, .slice a k.length cap] 52 (0, 0))) := by rw [hW]; exact heap_alloc_new _ _
  rw [← hW]
  clear hW
  go_cut [3] (fun s3 wx => wx.ownsRow W.heap.size 9 1 s3 (if kind = 5 then [s] else []).length (strCells (if kind = 5 then [s] else [])) ∧ Below W.heap.size W wx)
  case first =>
    by_cases h5 : kind = 5
    · have h5' : (kind == 5) = true := by simp [h5]
      have hcl := (cell_of_row _ _ 1 _ _ _ HBK.out)
      rw [show (#[.int .i64 kind, .string s, .int .i64 n, .slice a k.length cap] : Array Value)[1]? = some (.string s) from rfl] at hcl
      have HIF : Hid ((if kind = 5 then [s] else []) = [s]) := by unfold Hid; rw [if_pos h5]
      clear h5
      go_wp2_with (first
        | (at_builtin; refine wpList_append_own _ rfl _ _ 42 rfl W.heap.size 9 i0 (.string ByteArray.empty) 1 16 Try.underlying42 gi gz0 gz1 gz2 rfl (by decide) _ _ _ rfl (World.ownsRow_nil _ _ _ _) ⟨W.heap.size, 0, none⟩ 1 1 [.string s] rfl rfl (cell_one_in rfl _ _) (by intro u hu; simp at hu; subst hu; rfl) (by unfold maxLen; omega) (by omega) (by simp) ?_; intro v2 w2 hown2 hgrow2 _)
        | go_in)
      go_meet
      case rel =>
        have h1 : Below W.heap.size W (W.alloc (.cells #[.string s] 9)) := below_alloc (Below.refl _ _) _
        exact ⟨by rw [HIF.out]; simpa [strCells] using hown2, h1.grown hgrow2 (by simp) (fun j hj => by cases hj)⟩
    · have h5' : (kind == 5) = false := by simp [h5]
      have HIF : Hid ((if kind = 5 then [s] else []) = ([] : List ByteArray)) := by unfold Hid; rw [if_neg h5]
      clear h5
      go_wp2_with fail
      go_meet
      case rel => exact ⟨by rw [HIF.out]; exact World.ownsRow_nil _ _ _ _, Below.refl _ _⟩
  case rest =>
    obtain ⟨hrow, hbx⟩ := hcut
    generalize hl0 : (if kind = 5 then [s] else []) = l0 at *
    have hl1 : l0.length ≤ 1 := by rw [← hl0]; split <;> simp
    clear hl0
    have HROW0 := hidIn hrow
    have HBX := hidIn hbx
    have HG : Hid (∀ X, Below W.heap.size W X → X.cell? ⟨w.heap.size, 3, none⟩ = some (.slice a k.length cap)) := fun X hX => (cell_of_row _ _ _ _ _ _ ((hX.block _ (Array.getElem?_eq_some_iff.1 HBK.out).1).trans HBK.out)).trans rfl
    have HKW : Hid (KAt W 0 k a 0) := HK.out.below HB.out
    have g3 := HG.out wc hbx
    clear hrow hbx HBK HK
    go_wp2_with fail
    clear g3
    go_loopw [16, 3] (fun s16 s3 wr => ∃ i : Nat, i ≤ k.length ∧ s16 = .int .i64 i ∧ wr.ownsRow W.heap.size 9 1 s3 (l0 ++ labsL (k.take i)).length (strCells (l0 ++ labsL (k.take i))) ∧ Below W.heap.size W wr) (fun s16 _ _ => k.length - (intOf s16).toNat)
    case atStart => exact ⟨0, by omega, rfl, by simpa [labsL] using HROW0.out, HBX.out⟩
    case round =>
      clear HROW0 HBX
      obtain ⟨i, hi, rfl, hrow, hbr⟩ := hrel
      have HROW := hidIn hrow
      have HBR := hidIn hbr
      by_cases hlt : i < k.length
      · have hlt' : (i : Int) < (k.length : Int) := by omega
        obtain ⟨t, hti⟩ : ∃ t, k[i]? = some t := ⟨_, List.getElem?_eq_getElem hlt⟩
        obtain ⟨b, o, ka, ca, rfl, c0, c1, c2, c3, ht⟩ := (HKW.out.below hbr).cells hti
        have g3 := HG.out wr hbr
        have HM : Hid (t ∈ k) := List.mem_of_getElem? hti
        have HTI := hidIn ht
        have htk := take_more _ _ _ hti
        have HT3 : Hid (l0 ++ labsL (k.take (i + 1)) = (l0 ++ labsL (k.take i)) ++ t.labs) := by unfold Hid; rw [htk, labsL_snoc, List.append_assoc]
        have HLEN : Hid ((l0 ++ labsL (k.take i)).length + t.labs.length ≤ 1000000) := by
          have h1 := labs_cnt t
          have h2 := labsL_cnt (k.take i)
          have h3 := cntL_take k (i + 1)
          rw [htk, cntL_snoc] at h3
          have := HCN.out
          rw [List.length_append]
          show _ ≤ _
          omega
        clear hti htk ht hrow hbr
        generalize l0 ++ labsL (k.take i) = L at *
        go_wp2_with fail
        refine (HIH.out t HM.out wr _ HTI.out).mono ?_
        rintro e w4 ⟨v4, rfl, hrow4, hb4⟩
        have HB4 := hidIn (HBR.out.trans (hb4.mono HBR.out.size))
        have HROW4 := hidIn (ownsRow_below HROW.out hb4)
        have HNEW := hidIn hrow4
        clear hb4 hrow4 c0 c1 c2 c3 g3 HTI
        go_wp2_with (first
          | (at_builtin; refine wpList_append_rows _ rfl _ _ rfl W.heap.size _ L rfl HROW4.out wr.heap.size _ t.labs rfl HNEW.out HLEN.out HB4.out.size ?_; intro v5 w5 hown5 hgrow5 hloc5)
          | go_in)
        have HB5 : Hid (Below W.heap.size W w5) := HB4.out.grown hgrow5 HB4.out.size (fun j hj => (HROW4.out.lt j hj).1)
        have HOWN5 := hidIn hown5
        clear hown5 hgrow5 hloc5
        go_wp2_with fail
        go_roundw
        case rel => exact ⟨i + 1, by omega, by go_num, by rw [HT3.out]; exact HOWN5.out, HB5.out⟩
        case measure => simp [intOf]; omega
      · have hle : i = k.length := by omega
        subst hle
        have HE : Hid (wr.ownsRow W.heap.size 9 1 u3 (l0 ++ labsL k).length (strCells (l0 ++ labsL k))) := by have h := HROW.out; rw [List.take_length] at h; exact h
        clear hrow HROW hbr
        go_wp2_with fail
        go_ret
        refine ⟨_, rfl, ?_, HB.out.trans (HBR.out.mono HB.out.size)⟩
        rw [HLT0.out]
        exact ownsRow_base HE.out HB.out.size

end Go.Proofs.Ytdlflpnjmldakaa
namespace Go.Proofs.Ytdlflpnjmldakaa
open Go.RowKit
set_option linter.unusedVariables false

mutual
/-- The names of a tree's Fixes, in order. -/
def T.nams : T → List ByteArray
  | .mk kind s _ k => if kind = 12 then [s] else namsL k
def namsL : List T → List ByteArray
  | [] => []
  | t :: l => t.nams ++ namsL l
end
theorem namsL_snoc (l : List T) (k : T) : namsL (l ++ [k]) = namsL l ++ k.nams := by
  induction l with
  | nil => simp [namsL]
  | cons a l ih => simp [namsL, ih]
theorem nams_cnt : ∀ t : T, t.nams.length ≤ t.cnt := by
  intro t
  induction t using T.ind with
  | _ kind s n k ih =>
    have h : (namsL k).length ≤ cntL k := by
      induction k with
      | nil => simp [namsL]
      | cons a l ihl =>
        have h1 := ih a (by simp)
        have h2 := ihl (fun t ht => ih t (by simp [ht]))
        simp only [namsL, cntL, List.length_append]
        omega
    unfold T.nams T.cnt
    split
    · simp
    · omega
theorem namsL_cnt (l : List T) : (namsL l).length ≤ cntL l := by
  induction l with
  | nil => simp [namsL]
  | cons a l ih => have := nams_cnt a; simp only [namsL, cntL, List.length_append]; omega
/-- A new list of one text is a row of the call's own. -/
theorem own_one (w : World) (s : ByteArray) : (w.alloc (.cells #[.string s] 9)).ownsRow w.heap.size 9 1 (.slice (some ⟨w.heap.size, 0, none⟩) 1 1) [s].length (strCells [s]) := by
  refine ⟨by simp [strCells], .inr ⟨w.heap.size, 1, #[.string s], rfl, Nat.le_refl _, heap_alloc_new _ _, by simp, by unfold maxLen; omega, by simp, by simp [strCells]⟩⟩

set_option maxHeartbeats 4000000 in
set_option maxRecDepth 100000 in
theorem refNames0_any (t : T) : t.cnt ≤ 999990 → ∀ (w : World) (v : Value), TIn w 0 t v → Calls Try.prog 59 #[v] w fun e w' => ∃ v', e = .returned v' ∧ w'.ownsRow w.heap.size 9 1 v' t.nams.length (strCells t.nams) ∧ Below w.heap.size w w' := by
  induction t using T.ind with
  | _ kind s n k ih =>
  intro hcnt w v hv
  have hkl := len_cap hv
  obtain ⟨a, cap, rfl, hc1, hc2, hK⟩ := hv
  simp only [T.kind, T.s, T.n, T.k] at hc1 hK hkl ⊢
  have hct : (T.mk kind s n k).cnt = cntL k + 1 := by rw [T.cnt]
  rw [hct] at hcnt
  have HIH : Hid (∀ t ∈ k, ∀ (w : World) (v : Value), TIn w 0 t v → Calls Try.prog 59 #[v] w fun e w' => ∃ v', e = .returned v' ∧ w'.ownsRow w.heap.size 9 1 v' t.nams.length (strCells t.nams) ∧ Below w.heap.size w w') := fun t ht => ih t ht (by have := cntL_mem k t ht; omega)
  have HK := hidIn hK
  have HCN := hidIn hcnt
  clear ih hK hct
  by_cases h12 : kind = 12
  · have HL : Hid ((T.mk kind s n k).nams = [s]) := by unfold Hid; rw [T.nams, if_pos h12]
    subst h12
    go_enter Try.func59, Try.ntmps59
    go_wp2_with fail
    go_ret
    refine ⟨_, rfl, ?_, below_alloc (below_alloc (Below.refl _ _) _) _⟩
    rw [HL.out]
    have h := own_one (w.alloc (.cells #[.int .i64 12, .string s, .int .i64 n, .slice a k.length cap] 52)) s
    rw [World.size_alloc] at h
    exact ownsRow_base h (by omega)
  · have HL : Hid ((T.mk kind s n k).nams = namsL k) := by unfold Hid; rw [T.nams, if_neg h12]
    have h12' : (kind == 12) = false := by rw [beq_eq_false_iff_ne]; exact h12
    clear h12
    go_enter Try.func59, Try.ntmps59
    go_wp2_with fail
    obtain ⟨W, hW⟩ : ∃ W, W = w.alloc (.cells #[.int .i64 kind, .string s, .int .i64 n, .slice a k.length cap] 52) := ⟨_, rfl⟩
    have HB : Hid (Below w.heap.size w W) := by rw [hW]; exact below_alloc (Below.refl _ _) _
    have HBK : Hid (W.heap[w.heap.size]? = some (.cells #[.int .i64 kind, .string s, .int .i64 n, .slice a k.length cap] 52 (0, 0))) := by rw [hW]; exact heap_alloc_new _ _
    rw [← hW]
    clear hW
    have HG : Hid (∀ X, Below W.heap.size W X → X.cell? ⟨w.heap.size, 3, none⟩ = some (.slice a k.length cap)) := fun X hX => (cell_of_row _ _ _ _ _ _ ((hX.block _ (Array.getElem?_eq_some_iff.1 HBK.out).1).trans HBK.out)).trans rfl
    have HKW : Hid (KAt W 0 k a 0) := HK.out.below HB.out
    clear HBK HK
    go_loopw [14, 3] (fun s14 s3 wr => ∃ i : Nat, i ≤ k.length ∧ s14 = .int .i64 i ∧ wr.ownsRow W.heap.size 9 1 s3 (namsL (k.take i)).length (strCells (namsL (k.take i))) ∧ Below W.heap.size W wr) (fun s14 _ _ => k.length - (intOf s14).toNat)
    case atStart => exact ⟨0, by omega, rfl, by simp only [List.take_zero, namsL]; exact World.ownsRow_nil _ _ _ _, Below.refl _ _⟩
    case round =>
      obtain ⟨i, hi, rfl, hrow, hbr⟩ := hrel
      have HROW := hidIn hrow
      have HBR := hidIn hbr
      by_cases hlt : i < k.length
      · have hlt' : (i : Int) < (k.length : Int) := by omega
        obtain ⟨t, hti⟩ : ∃ t, k[i]? = some t := ⟨_, List.getElem?_eq_getElem hlt⟩
        obtain ⟨b, o, ka, ca, rfl, c0, c1, c2, c3, ht⟩ := (HKW.out.below hbr).cells hti
        have g3 := HG.out wr hbr
        have HM : Hid (t ∈ k) := List.mem_of_getElem? hti
        have HTI := hidIn ht
        have htk := take_more _ _ _ hti
        have HT3 : Hid (namsL (k.take (i + 1)) = namsL (k.take i) ++ t.nams) := by unfold Hid; rw [htk, namsL_snoc]
        have HLEN : Hid ((namsL (k.take i)).length + t.nams.length ≤ 1000000) := by
          have h1 := nams_cnt t
          have h2 := namsL_cnt (k.take i)
          have h3 := cntL_take k (i + 1)
          rw [htk, cntL_snoc] at h3
          have := HCN.out
          show _ ≤ _
          omega
        clear hti htk ht hrow hbr
        generalize namsL (k.take i) = L at *
        go_wp2_with fail
        refine (HIH.out t HM.out wr _ HTI.out).mono ?_
        rintro e w4 ⟨v4, rfl, hrow4, hb4⟩
        have HB4 := hidIn (HBR.out.trans (hb4.mono HBR.out.size))
        have HROW4 := hidIn (ownsRow_below HROW.out hb4)
        have HNEW := hidIn hrow4
        clear hb4 hrow4 c0 c1 c2 c3 g3 HTI
        go_wp2_with (first
          | (at_builtin; refine wpList_append_rows _ rfl _ _ rfl W.heap.size _ L rfl HROW4.out wr.heap.size _ t.nams rfl HNEW.out HLEN.out HB4.out.size ?_; intro v5 w5 hown5 hgrow5 hloc5)
          | go_in)
        have HB5 : Hid (Below W.heap.size W w5) := HB4.out.grown hgrow5 HB4.out.size (fun j hj => (HROW4.out.lt j hj).1)
        have HOWN5 := hidIn hown5
        clear hown5 hgrow5 hloc5
        go_wp2_with fail
        go_roundw
        case rel => exact ⟨i + 1, by omega, by go_num, by rw [HT3.out]; exact HOWN5.out, HB5.out⟩
        case measure => simp [intOf]; omega
      · have hle : i = k.length := by omega
        subst hle
        have HE : Hid (wr.ownsRow W.heap.size 9 1 u3 (namsL k).length (strCells (namsL k))) := by have h := HROW.out; rw [List.take_length] at h; exact h
        clear hrow HROW hbr
        go_wp2_with fail
        go_ret
        refine ⟨_, rfl, ?_, HB.out.trans (HBR.out.mono HB.out.size)⟩
        rw [HL.out]
        exact ownsRow_base HE.out HB.out.size

end Go.Proofs.Ytdlflpnjmldakaa
namespace Go.Proofs.Ytdlflpnjmldakaa
open Go.RowKit
set_option linter.unusedVariables false

/-- A text is among the first of a list. -/
def inFirst (L : List ByteArray) (s : ByteArray) (j : Nat) : Bool := (L.take j).any (fun x => decide (x = s))
theorem inFirst_next (L : List ByteArray) (s : ByteArray) (j : Nat) (x : ByteArray) (h : L[j]? = some x) : inFirst L s (j + 1) = (inFirst L s j || decide (x = s)) := by
  unfold inFirst
  rw [take_more _ _ _ h, List.any_append]
  simp

theorem addAll_le (acc l : List ByteArray) : (addAll acc l).length ≤ acc.length + l.length := by
  induction l generalizing acc with
  | nil => simp [addAll]
  | cons x l ih =>
    have h1 := ih (addN acc x)
    have h2 := addN_length acc x
    have e : addAll acc (x :: l) = addAll (addN acc x) l := rfl
    rw [e]
    simp only [List.length_cons]
    omega

set_option maxHeartbeats 4000000 in
set_option maxRecDepth 100000 in
theorem refNames_any (t : T) (hcnt : t.cnt ≤ 999990) (w : World) (v : Value) (hv : TIn w 0 t v) : Calls Try.prog 41 #[v] w fun e w' => ∃ v', e = .returned v' ∧ w'.ownsRow w.heap.size 9 1 v' (addAll [] t.nams).length (strCells (addAll [] t.nams)) ∧ Below w.heap.size w w' := by
  have HV := hidIn hv
  obtain ⟨a, cap, rfl, hc1, hc2, hK⟩ := hv
  have HLEN : Hid (t.nams.length ≤ 999990) := by have := nams_cnt t; show _ ≤ _; omega
  clear hK
  go_enter Try.func41, Try.ntmps41
  go_wp2_with fail
  obtain ⟨W, hW⟩ : ∃ W, W = w.alloc (.cells #[.int .i64 t.kind, .string t.s, .int .i64 t.n, .slice a t.k.length cap] 52) := ⟨_, rfl⟩
  have HB : Hid (Below w.heap.size w W) := by rw [hW]; exact below_alloc (Below.refl _ _) _
  have HVW := hidIn (HV.out.below HB.out)
  rw [← hW]
  clear hW HV
  refine (refNames0_any t hcnt W _ HVW.out).mono ?_
  rintro e w1 ⟨v1, rfl, hown1, hb1⟩
  have HB1 := hidIn hb1
  have HO1 := hidIn hown1
  clear hb1
  obtain ⟨L, HL⟩ : ∃ L, Hid (t.nams = L) := ⟨_, rfl⟩
  rw [HL.out] at hown1 HLEN HO1
  obtain ⟨sa, sc, rfl, htx, hll, _⟩ := own_txt hown1
  obtain ⟨i0, gi, gz0, gz1, gz2⟩ := info_parts infoStr
  have HTX := hidIn htx
  clear hown1 hcnt htx
  have hLl := HLEN.out
  go_wp2_with fail
  go_loopw [11, 3] (fun s11 s3 wr => ∃ i : Nat, i ≤ L.length ∧ s11 = .int .i64 i ∧ wr.ownsRow w1.heap.size 9 1 s3 (addAll [] (L.take i)).length (strCells (addAll [] (L.take i))) ∧ Below w1.heap.size w1 wr) (fun s11 _ _ => L.length - (intOf s11).toNat)
  case atStart => exact ⟨0, by omega, rfl, by simp only [List.take_zero]; exact World.ownsRow_nil _ _ _ _, Below.refl _ _⟩
  case round =>
    obtain ⟨i, hi, rfl, hrow, hbr⟩ := hrel
    obtain ⟨wA, hwA⟩ : ∃ y, y = wr := ⟨_, rfl⟩
    subst hwA
    have HROW := hidIn hrow
    have HBA := hidIn hbr
    clear hrow
    by_cases hlt : i < L.length
    · have hlt' : (i : Int) < (L.length : Int) := by omega
      obtain ⟨s, hs⟩ : ∃ s, L[i]? = some s := ⟨_, List.getElem?_eq_getElem hlt⟩
      obtain ⟨g, rfl, k0⟩ := (HTX.out.below hbr) i s hs
      have HNX : Hid (addAll [] (L.take (i + 1)) = addN (addAll [] (L.take i)) s) := by unfold Hid; rw [take_more _ _ _ hs, addAll_append]; rfl
      have haln : (addAll [] (L.take i)).length ≤ i := by have := addAll_le [] (L.take i); simp at this; omega
      clear hs hbr
      generalize addAll [] (L.take i) = acc at *
      obtain ⟨ao, ac, rfl, hatx, hal, _⟩ := own_txt HROW.out
      have HATX := hidIn hatx
      clear hatx
      go_wp2_with fail
      go_loopw [17, 6] (fun s17 s6 wr => ∃ j : Nat, j ≤ acc.length ∧ s17 = .int .i64 j ∧ s6 = .bool (inFirst acc s j) ∧ wr = wA) (fun s17 _ _ => acc.length - (intOf s17).toNat)
      case atStart => exact ⟨0, by omega, rfl, by simp [inFirst], rfl⟩
      case round =>
        obtain ⟨j, hj, rfl, rfl, hwr⟩ := hrel
        subst hwr
        by_cases hjl : j < acc.length
        · have hjl' : (j : Int) < (acc.length : Int) := by omega
          obtain ⟨y, hy⟩ : ∃ y, acc[j]? = some y := ⟨_, List.getElem?_eq_getElem hjl⟩
          obtain ⟨g2, rfl, k1⟩ := HATX.out j y hy
          have HJ := hidIn (inFirst_next acc s j y hy)
          clear hy
          cases hin : inFirst acc s j with
          | true =>
            rw [hin] at HJ
            go_wp2_with fail
            go_roundw
            case rel => exact ⟨j + 1, by omega, by go_num, by rw [HJ.out]; rfl, trivial⟩
            case measure => simp [intOf]; omega
          | false =>
            rw [hin] at HJ
            by_cases hys : y = s
            · subst hys
              go_wp2_with fail
              go_roundw
              case rel => exact ⟨j + 1, by omega, by go_num, by rw [HJ.out]; simp, trivial⟩
              case measure => simp [intOf]; omega
            · have hys' : ¬ y.toList = s.toList := fun e => hys (toList_inj e)
              have hys2 : (y.toList == s.toList) = false := by rw [beq_eq_false_iff_ne]; exact hys'
              go_wp2_with fail
              go_roundw
              case rel => exact ⟨j + 1, by omega, by go_num, by rw [HJ.out]; simp [hys], trivial⟩
              case measure => simp [intOf]; omega
        · have hje : j = acc.length := by omega
          subst hje
          have HIN : Hid (inFirst acc s acc.length = inN acc s) := by unfold Hid inFirst inN; rw [List.take_length]
          rw [HIN.out]
          cases hin : inN acc s with
          | true =>
            have HAD : Hid (addN acc s = acc) := by unfold Hid addN; rw [if_pos hin]
            go_wp2_with fail
            go_roundw
            case rel => exact ⟨i + 1, by omega, by go_num, by rw [HNX.out, HAD.out]; exact HROW.out, HBA.out⟩
            case measure => simp [intOf]; omega
          | false =>
            have HAD : Hid (addN acc s = acc ++ [s]) := by unfold Hid addN; rw [if_neg (by rw [hin]; simp)]
            go_wp2_with (first
              | (at_builtin; refine wpList_append_own _ rfl _ _ 42 rfl w1.heap.size 9 i0 (.string ByteArray.empty) 1 16 Try.underlying42 gi gz0 gz1 gz2 rfl (by decide) _ _ _ rfl (HROW.out.alloc _) ⟨_, 0, none⟩ 1 1 [.string s] rfl rfl (cell_one_in rfl _ _) (by intro u hu; simp at hu; subst hu; rfl) (by unfold maxLen; omega) (by omega) (by have := HBA.out.size; simp; omega) ?_; intro v2 w2 hown2 hgrow2 _)
              | go_in)
            go_roundw
            case rel => exact ⟨i + 1, by omega, by go_num, by rw [HNX.out, HAD.out]; simpa [strCells] using hown2, ((HBA.out.alloc HBA.out.size _).grown hgrow2 (by have := HBA.out.size; simp; omega) (fun j hj => (HROW.out.lt j hj).1))⟩
            case measure => simp [intOf]; omega
    · have hle : i = L.length := by omega
      subst hle
      have HE : Hid (wA.ownsRow w1.heap.size 9 1 u3 (addAll [] L).length (strCells (addAll [] L))) := by have h := HROW.out; rw [List.take_length] at h; exact h
      go_wp2_with fail
      go_ret
      rw [HL.out]
      exact ⟨_, rfl, ownsRow_base HE.out (Nat.le_trans HB.out.size HB1.out.size), HB.out.trans ((HB1.out.trans (HBA.out.mono HB1.out.size)).mono HB.out.size)⟩

end Go.Proofs.Ytdlflpnjmldakaa
namespace Go.Proofs.Ytdlflpnjmldakaa
open Go.RowKit
set_option linter.unusedVariables false

theorem addAll_len : ∀ (l acc : List ByteArray), (addAll acc l).length < acc.length + l.length ↔ ¬ (l.Nodup ∧ ∀ s ∈ l, s ∉ acc) := by
  intro l
  induction l with
  | nil => intro acc; simp [addAll]
  | cons s l ih =>
    intro acc
    show (addAll (addN acc s) l).length < _ ↔ _
    by_cases hs : s ∈ acc
    · rw [addN_twice acc s hs]
      have h := addAll_length l acc
      constructor
      · intro _ hn
        exact hn.2 s (by simp) hs
      · intro _
        simp only [List.length_cons]
        omega
    · have e : addN acc s = acc ++ [s] := by
        unfold addN
        rw [if_neg (fun e => hs ((inN_iff acc s).1 e))]
      have h := ih (acc ++ [s])
      rw [e]
      have hl : (acc ++ [s]).length + l.length = acc.length + (s :: l).length := by simp; omega
      rw [hl] at h
      rw [h]
      constructor
      · intro hn hc
        apply hn
        refine ⟨(List.nodup_cons.1 hc.1).2, fun x hx => ?_⟩
        simp only [List.mem_append, List.mem_singleton, not_or]
        exact ⟨hc.2 x (by simp [hx]), fun ex => (List.nodup_cons.1 hc.1).1 (ex ▸ hx)⟩
      · intro hn hc
        apply hn
        refine ⟨List.nodup_cons.2 ⟨fun hx => ?_, hc.1⟩, fun x hx => ?_⟩
        · have := hc.2 s hx
          simp at this
        · simp only [List.mem_cons] at hx
          rcases hx with rfl | hx
          · exact hs
          · have := hc.2 x hx
            simp only [List.mem_append, List.mem_singleton, not_or] at this
            exact this.1
theorem twice_iff (l : List ByteArray) : twice l = true ↔ ¬ l.Nodup := by
  have h := addAll_len l []
  simp only [List.length_nil, Nat.zero_add, List.not_mem_nil, not_false_eq_true, implies_true, and_true] at h
  unfold twice
  rw [decide_eq_true_iff]
  exact h
/-- What the document's Check answers. -/
def chkT (t : T) (nb : Bool) : Int := if formT t nb = true then (if 60 < t.nodes ∨ 12 < t.depth then 5 else if twice t.labs = true then 4 else 0) else 2
theorem nodup_take {l : List ByteArray} {i : Nat} {s : ByteArray} (h : (l.take i).Nodup) (hs : l[i]? = some s) (hn : ∀ b, b < i → l[b]? ≠ some s) : (l.take (i + 1)).Nodup := by
  rw [take_more _ _ _ hs, List.nodup_append]
  refine ⟨h, by simp, fun x hx y hy => ?_⟩
  simp at hy
  subst hy
  intro e
  subst e
  obtain ⟨b, hb, he⟩ := List.mem_iff_getElem.1 hx
  rw [List.length_take] at hb
  refine hn b (by omega) ?_
  rw [← he, List.getElem_take]
  exact List.getElem?_eq_getElem (by omega)
theorem nodup_get {l : List ByteArray} (h : l.Nodup) {i j : Nat} {s : ByteArray} (hi : l[i]? = some s) (hj : l[j]? = some s) : i = j := by
  obtain ⟨h1, e1⟩ := List.getElem?_eq_some_iff.1 hi
  obtain ⟨h2, e2⟩ := List.getElem?_eq_some_iff.1 hj
  exact (List.getElem_inj h).1 (e1.trans e2.symm)

set_option maxHeartbeats 4000000 in
set_option maxRecDepth 100000 in
theorem refCheck_any (t : T) (hsz : t.Sized) (hcnt : t.cnt ≤ 999990) (hnd : t.nodes ≤ 1000000) (nb : Bool) (w : World) (v : Value) (hv : TIn w 0 t v) : Calls Try.prog 16 #[v, .bool nb] w fun e w' => e = .returned (.int .i64 (chkT t nb)) ∧ Below w.heap.size w w' := by
  have HV := hidIn hv
  have hdn := T_depth_nodes t
  obtain ⟨a, cap, rfl, hc1, hc2, hK⟩ := hv
  have HSZ := hidIn hsz
  have HLN := hidIn (labs_cnt t)
  have HCN := hidIn hcnt
  obtain ⟨W, hW⟩ : ∃ W, W = w.alloc (.cells #[.int .i64 t.kind, .string t.s, .int .i64 t.n, .slice a t.k.length cap] 52) := ⟨_, rfl⟩
  have HB : Hid (Below w.heap.size w W) := by rw [hW]; exact below_alloc (Below.refl _ _) _
  have HBK : Hid (W.heap[w.heap.size]? = some (.cells #[.int .i64 t.kind, .string t.s, .int .i64 t.n, .slice a t.k.length cap] 52 (0, 0))) := by rw [hW]; exact heap_alloc_new _ _
  have HF : Hid (∀ X, Below W.heap.size W X → (X.cell? ⟨w.heap.size, 0, none⟩ = some (.int .i64 t.kind) ∧ X.cell? ⟨w.heap.size, 1, none⟩ = some (.string t.s) ∧ X.cell? ⟨w.heap.size, 2, none⟩ = some (.int .i64 t.n) ∧ X.cell? ⟨w.heap.size, 3, none⟩ = some (.slice a t.k.length cap)) ∧ TIn X 0 t (.agg #[.int .i64 t.kind, .string t.s, .int .i64 t.n, .slice a t.k.length cap])) := fun X hX => by
    have h := (hX.block _ (Array.getElem?_eq_some_iff.1 HBK.out).1).trans HBK.out
    exact ⟨⟨(cell_of_row _ _ _ _ _ _ h).trans rfl, (cell_of_row _ _ _ _ _ _ h).trans rfl, (cell_of_row _ _ _ _ _ _ h).trans rfl, (cell_of_row _ _ _ _ _ _ h).trans rfl⟩, (HV.out.below HB.out).below hX⟩
  clear hK hsz hcnt
  go_enter Try.func16, Try.ntmps16
  go_wp2_with fail
  rw [← hW]
  clear hW HBK HV
  refine (form_any t HSZ.out nb W _ (HF.out W (Below.refl _ _)).2).mono ?_
  rintro e w1 ⟨rfl, hb1⟩
  obtain ⟨⟨c0, c1, c2, c3⟩, t1⟩ := HF.out w1 hb1
  have HT1 := hidIn t1
  have HB1 := hidIn hb1
  clear t1 hb1
  cases hf : formT t nb
  · go_wp2_with fail
    go_ret
    exact ⟨by unfold chkT; rw [if_neg (by rw [hf]; simp)]; rfl, HB.out.trans (HB1.out.mono HB.out.size)⟩
  · have HC : Hid (chkT t nb = if 60 < t.nodes ∨ 12 < t.depth then 5 else if twice t.labs = true then 4 else 0) := by unfold Hid chkT; rw [if_pos hf]
    go_wp2_with fail
    refine (refSize_any t w1 _ HT1.out hnd).mono ?_
    rintro e w2 ⟨rfl, hb2⟩
    have hx2 := HB1.out.trans (hb2.mono HB1.out.size)
    have HX2 := hidIn hx2
    obtain ⟨⟨d0, d1, d2, d3⟩, t2⟩ := HF.out w2 hx2
    have HT2 := hidIn t2
    have HB2 := hidIn (HB.out.trans (hx2.mono HB.out.size))
    clear t2 hb2 hx2 c0 c1 c2 c3
    by_cases h1 : 60 < t.nodes
    · have h1' : (60 : Int) < (t.nodes : Int) := by omega
      go_wp2_with fail
      go_ret
      exact ⟨by rw [HC.out, if_pos (.inl h1)]; rfl, HB2.out⟩
    · have h1' : ¬ (60 : Int) < (t.nodes : Int) := by omega
      have h1d : decide ((60 : Int) < (t.nodes : Int)) = false := by simpa using h1'
      by_cases h2 : 12 < t.depth
      · have h2' : (12 : Int) < (t.depth : Int) := by omega
        go_wp2_with fail
        go_ret
        exact ⟨by rw [HC.out, if_pos (.inr h2)]; rfl, HB2.out⟩
      · have h2' : ¬ (12 : Int) < (t.depth : Int) := by omega
        have HC2 : Hid (chkT t nb = if twice t.labs = true then 4 else 0) := by unfold Hid; rw [HC.out, if_neg (by omega)]
        go_wp2_with fail
        refine (refLabels_any t HCN.out w2 _ HT2.out).mono ?_
        rintro e w3 ⟨v3, rfl, hrow3, hb3⟩
        have HB3 := hidIn (HB2.out.trans (hb3.mono HB2.out.size))
        obtain ⟨ao, lc, rfl, htx, hll, _⟩ := own_txt hrow3
        have HTX := hidIn htx
        have hlen : t.labs.length ≤ 1000000 := by have := HLN.out; have := HCN.out; omega
        clear hrow3 hb3 htx d0 d1 d2 d3 HC HT1 HT2 HX2 HB2
        generalize t.labs = l at *
        go_wp2_with fail
        go_loopw [29] (fun s29 wr => ∃ i : Nat, i ≤ l.length ∧ s29 = .int .i64 i ∧ Hid ((l.take i).Nodup) ∧ Below w3.heap.size w3 wr) (fun s29 _ => l.length - (intOf s29).toNat)
        case atStart => exact ⟨0, by omega, rfl, by unfold Hid; simp, Below.refl _ _⟩
        case round =>
          obtain ⟨i, hi, rfl, HN, hbr⟩ := hrel
          obtain ⟨wA, hwA⟩ : ∃ y, y = wr := ⟨_, rfl⟩
          subst hwA
          have HBA := hidIn hbr
          clear hbr
          by_cases hlt : i < l.length
          · have hlt' : (i : Int) < (l.length : Int) := by omega
            obtain ⟨s, hs⟩ : ∃ s, l[i]? = some s := ⟨_, List.getElem?_eq_getElem hlt⟩
            have HS := hidIn hs
            clear hs
            go_wp2_with fail
            go_loopw [9] (fun s9 wr => ∃ j : Nat, j ≤ i ∧ s9 = .int .i64 j ∧ Hid (∀ b, b < j → l[b]? ≠ some s) ∧ Below w3.heap.size w3 wr) (fun s9 _ => i - (intOf s9).toNat)
            case atStart => exact ⟨0, by omega, rfl, by intro b hb; omega, HBA.out⟩
            case round =>
              obtain ⟨j, hj, rfl, HJ, hbr⟩ := hrel
              by_cases hjl : j < i
              · have hjl' : (j : Int) < (i : Int) := by omega
                have hjl2 : (j : Int) < (l.length : Int) := by omega
                obtain ⟨y, hy⟩ : ∃ y, l[j]? = some y := ⟨_, List.getElem?_eq_getElem (by omega)⟩
                obtain ⟨g, rfl, k0⟩ := (HTX.out.below hbr) i s HS.out
                obtain ⟨g', eg, k1⟩ := (HTX.out.below hbr) j y hy
                have hgg : g' = g := by injection eg with eg; injection eg with eg; exact eg.symm
                subst hgg
                have HY := hidIn hy
                clear hy eg
                by_cases he : s = y
                · subst he
                  have HTW : Hid (twice l = true) := (twice_iff l).2 (fun hn => by have := nodup_get hn HS.out HY.out; omega)
                  go_wp2_with fail
                  go_quiet (fail)
                  go_wp2_with fail
                  go_ret
                  exact ⟨by rw [HC2.out, HTW.out]; rfl, HB3.out.trans ((below_drewN hbr _).mono HB3.out.size)⟩
                · have he' : ¬ s.toList = y.toList := fun e => he (toList_inj e)
                  have heb : (s.toList == y.toList) = false := by rw [beq_eq_false_iff_ne]; exact he'
                  go_wp2_with fail
                  go_quiet (fail)
                  go_wp2_with fail
                  go_roundw
                  case rel =>
                    refine ⟨j + 1, by omega, by go_num, fun b hb => ?_, below_drewN hbr _⟩
                    by_cases hbj : b = j
                    · subst hbj
                      rw [HY.out]
                      intro e
                      injection e with e
                      exact he e.symm
                    · exact HJ.out b (by omega)
                  case measure => simp [intOf]; omega
              · have hji : j = i := by omega
                subst hji
                have HN2 : Hid ((l.take (j + 1)).Nodup) := nodup_take HN.out HS.out HJ.out
                clear HJ HN hjl
                go_wp2_with fail
                go_roundw
                case rel => exact ⟨j + 1, by omega, by go_num, HN2, hbr⟩
                case measure => simp [intOf]; omega
          · have hle : i = l.length := by omega
            subst hle
            have HTW : Hid (twice l = false) := by
              have h := HN.out
              rw [List.take_length] at h
              show twice l = false
              cases ht : twice l
              · rfl
              · exact absurd h ((twice_iff l).1 ht)
            clear HN hlt
            go_wp2_with fail
            go_ret
            exact ⟨by rw [HC2.out, HTW.out]; rfl, HB3.out.trans (HBA.out.mono HB3.out.size)⟩

end Go.Proofs.Ytdlflpnjmldakaa
namespace Go.Proofs.Ytdlflpnjmldakaa
open Go.RowKit
set_option linter.unusedVariables false

theorem plain_labs (o : O) : (plain o).labs = [] := by
  induction o <;> simp_all [plain, T.labs, labsL]
theorem plain_cnt (o : O) : (plain o).cnt ≤ 2 * o.nodes + 1 := by
  induction o <;> simp only [plain, T.cnt, cntL, O.nodes] at * <;> omega
theorem plain_sized (o : O) (h : o.Ok) : (plain o).Sized := by
  have he : (⟨#[]⟩ : ByteArray).size ≤ 2147483648 := by decide
  induction o with
  | const n => simp only [plain, T.Sized, SizedL]; exact ⟨he, trivial⟩
  | fix s => simp only [plain, T.Sized, SizedL]; exact ⟨h, trivial⟩
  | odd v => simp only [plain, T.Sized, SizedL]; exact ⟨he, trivial⟩
  | neg o h1 => simp only [plain, T.Sized, SizedL]; exact ⟨he, h1 h, trivial⟩
  | add l r h1 h2 => simp only [plain, T.Sized, SizedL]; exact ⟨he, h1 h.1, h2 h.2, trivial⟩
  | mul l r h1 h2 => simp only [plain, T.Sized, SizedL]; exact ⟨he, h1 h.1, h2 h.2, trivial⟩
  | max l r h1 h2 => simp only [plain, T.Sized, SizedL]; exact ⟨he, h1 h.1, h2 h.2, trivial⟩
theorem plain_form (o : O) : formT (plain o) true = formB o := by
  induction o <;> simp_all [plain, formT, formTL, headOk, partB, formB]

end Go.Proofs.Ytdlflpnjmldakaa
namespace Go.Proofs.Ytdlflpnjmldakaa
open Go.RowKit
set_option linter.unusedVariables false

theorem sameTr_mk (kind : Int) (s : ByteArray) (n : Int) (k : List T) (u : T) : sameTr (.mk kind s n k) u = (decide (kind ≠ 0) && (decide (kind = u.kind) && (decide (s = u.s) && (decide (n = u.n) && (decide (k.length = u.k.length) && sameTL k u.k))))) := by rw [sameTr]
theorem plain_same (a : O) : ∀ b, sameTr (plain a) (plain b) = sameO a b := by
  induction a with
  | const n => intro b; cases b <;> simp [plain, sameTr_mk, sameTL, sameO, T.kind, T.s, T.n, T.k] <;> (first | rfl | congr)
  | fix s => intro b; cases b <;> simp [plain, sameTr_mk, sameTL, sameO, T.kind, T.s, T.n, T.k] <;> (first | rfl | congr)
  | odd v => intro b; cases b <;> simp [plain, sameTr_mk, sameTL, sameO, T.kind, T.s, T.n, T.k]
  | neg o ih => intro b; cases b <;> simp [plain, sameTr_mk, sameTL, sameO, T.kind, T.s, T.n, T.k, ih]
  | add l r h1 h2 => intro b; cases b <;> simp [plain, sameTr_mk, sameTL, sameO, T.kind, T.s, T.n, T.k, h1, h2]
  | mul l r h1 h2 => intro b; cases b <;> simp [plain, sameTr_mk, sameTL, sameO, T.kind, T.s, T.n, T.k, h1, h2]
  | max l r h1 h2 => intro b; cases b <;> simp [plain, sameTr_mk, sameTL, sameO, T.kind, T.s, T.n, T.k, h1, h2]
theorem sameO_comm (a : O) : ∀ b, sameO a b = sameO b a := by
  induction a with
  | const n => intro b; cases b <;> simp [sameO, eq_comm]
  | fix s => intro b; cases b <;> simp [sameO, eq_comm]
  | odd v => intro b; cases b <;> simp [sameO]
  | neg o ih => intro b; cases b <;> simp [sameO, ih]
  | add l r h1 h2 => intro b; cases b <;> simp [sameO, h1, h2]
  | mul l r h1 h2 => intro b; cases b <;> simp [sameO, h1, h2]
  | max l r h1 h2 => intro b; cases b <;> simp [sameO, h1, h2]
theorem plain_nams (o : O) : (plain o).nams = o.all := by
  induction o <;> simp_all [plain, T.nams, namsL, O.all]
theorem plain_names (o : O) : addAll [] (plain o).nams = o.names := by rw [plain_nams]; rfl
theorem plain_chk (o : O) : chkT (plain o) true = chk o := by
  unfold chkT chk
  rw [plain_form, plain_nodes, plain_depth, plain_labs]
  simp [twice]
theorem plain_back (o : O) : plain (obsOf (plain o)) = plain o := by
  induction o with
  | const n => rfl
  | fix s => rfl
  | odd v => rfl
  | neg o ih => simp [plain, obsOf, obsL, ih]
  | add l r h1 h2 => simp [plain, obsOf, obsL, h1, h2]
  | mul l r h1 h2 => simp [plain, obsOf, obsL, h1, h2]
  | max l r h1 h2 => simp [plain, obsOf, obsL, h1, h2]

end Go.Proofs.Ytdlflpnjmldakaa
namespace Go.Proofs.Ytdlflpnjmldakaa.Vl
open Go.RowKit Wd Cn
set_option linter.unusedVariables false

set_option maxHeartbeats 2000000 in
set_option maxRecDepth 100000 in
theorem refNeeds_any (o : O) (hcnt : (plain o).cnt ≤ 999990) (hnodes : o.nodes ≤ 1000000) (w : World) (v : Value) (ht : TIn w 0 (plain o) v) (B r : Nat) (K : KW) (vF vC : Value) (hr : RIn w B r K vF vC) (hl : K.F.length ≤ 1000000) (d : Int) :
    Calls Try.prog 19 #[v, .int .i64 d, .pointer (some ⟨r, 0, none⟩)] w fun e w' => ∃ v', e = .returned v' ∧ w'.ownsRow w.heap.size 9 1 v' (lackN K d o.names).length (strCells (lackN K d o.names)) ∧ Below w.heap.size w w' := by
  obtain ⟨i0, gi, gz0, gz1, gz2⟩ := info_parts infoStr
  have HT := hidV ht
  obtain ⟨a, cap0, rfl, h1, h2, h3⟩ := ht
  have HB : Hid (Below w.heap.size w (w.alloc (.cells #[.int .i64 (plain o).kind, .string (plain o).s, .int .i64 (plain o).n, .slice a (plain o).k.length cap0] 52))) := below_alloc (Below.refl _ _) _
  have HN := hidV (refNames_any (plain o) hcnt _ _ (HT.out.below HB.out))
  rw [plain_names] at HN
  have HR := hidV (hr.below HB.out)
  have hnl := names_length o
  obtain ⟨l, hle⟩ : ∃ l, o.names = l := ⟨_, rfl⟩
  have HNE := hidV hle
  rw [hle] at HN hnl
  clear h3 hr HT hle
  go_enter Try.func19, Try.ntmps19
  go_wp2_with fail
  refine HN.out.mono ?_
  rintro e w2 ⟨v2, rfl, hown, hb2⟩
  obtain ⟨ao, cap, rfl, hcl, hll⟩ := own_str hown
  have HC := hidV hcl
  have HB2 : Hid (Below w.heap.size w w2) := HB.out.trans (hb2.mono HB.out.size)
  have HR2 := hidV (HR.out.below hb2)
  have hn1 : l.length ≤ 1000000 := by omega
  clear hcl hown hb2 hnl hnodes HN HR HB
  go_wp2_with fail
  go_loopw [15, 7] (fun s15 s7 wr => ∃ i : Nat, i ≤ l.length ∧ s15 = .int .i64 i ∧ wr.ownsRow w2.heap.size 9 1 s7 (lackN K d (l.take i)).length (strCells (lackN K d (l.take i))) ∧ Below w2.heap.size w2 wr) (fun s15 _ _ => l.length - (intOf s15).toNat)
  case atStart => exact ⟨0, by omega, rfl, World.ownsRow_nil _ _ _ _, Below.refl _ _⟩
  case round =>
    obtain ⟨i, hi, rfl, hrow, hbr⟩ := hrel
    have HBR := hidV hbr
    have HROW := hidV hrow
    clear hbr hrow
    by_cases hlt : i < l.length
    · have hlt' : (i : Int) < (l.length : Int) := by omega
      obtain ⟨g, rfl, hg, hc⟩ := HC.out i hlt
      have hcr : wr.cell? ⟨g, i, none⟩ = some (.string l[i]) := (HBR.out.cell (p := ⟨g, i, none⟩) hg).trans hc
      have HT : Hid (lackN K d (l.take (i + 1)) = if (K.fixed (l[i], d)).isSome = true then lackN K d (l.take i) else lackN K d (l.take i) ++ [l[i]]) := by
        unfold Hid
        rw [take_more l i l[i] (List.getElem?_eq_getElem hlt), lackN_snoc]
      have hal : (lackN K d (l.take i)).length ≤ 1000000 := by
        have h1 := lackN_length K d (l.take i)
        have h3 : (l.take i).length ≤ l.length := by rw [List.length_take]; omega
        omega
      clear hc
      generalize l[i] = s at *
      generalize lackN K d (l.take i) = ac at *
      have HF := hidV (refFixed_any wr B r K vF vC (HR2.out.below HBR.out) s d hl)
      go_wp2_with fail
      refine HF.out.mono ?_
      rintro e w3 ⟨rfl, hb3⟩
      have HBR3 := hidV (HBR.out.trans (hb3.mono HBR.out.size))
      have hrow := HROW.out.kept (grown_of_below hb3 none) (by cases hv : u7.ownBlock <;> simp)
      have HROW3 := hidV hrow
      clear hb3 HF
      cases hf : (K.fixed (s, d)).isSome
      · have HT2 : Hid (lackN K d (l.take (i + 1)) = ac ++ [s]) := by unfold Hid; rw [HT.out, if_neg (by rw [hf]; simp)]
        clear HT hf
        go_wp2_with (first
          | (at_builtin; refine wpList_append_own _ rfl _ _ 42 rfl w2.heap.size 9 i0 (.string ByteArray.empty) 1 16 Try.underlying42 gi gz0 gz1 gz2 rfl (by decide) _ _ _ rfl ((hidV hrow).out.alloc _) ⟨w3.heap.size, 0, none⟩ 1 1 [.string s] rfl rfl (cell_one_at w3 _ _) (by intro u hu; simp at hu; subst hu; rfl) (by unfold maxLen; omega) (by omega) (by have := HBR3.out.size; simp; omega) ?_; intro v4 w4 hown4 hgrow4 _)
          | go_in)
        have HR4 : Hid (w4.ownsRow w2.heap.size 9 1 v4 (ac ++ [s]).length (strCells (ac ++ [s]))) := by simpa [strCells, Hid] using hown4
        have HB4 : Hid (Below w2.heap.size w2 w4) := (HBR3.out.alloc HBR3.out.size _).grown hgrow4 (by have := HBR3.out.size; simp; omega) (fun j hj => (HROW3.out.lt j hj).1)
        clear hown4 hgrow4 hrow HROW
        go_wp2_with fail
        go_roundw
        case rel => exact ⟨i + 1, by omega, by go_num, by rw [HT2.out]; exact HR4.out, HB4.out⟩
        case measure => simp [intOf]; omega
      · have HT2 : Hid (lackN K d (l.take (i + 1)) = ac) := by unfold Hid; rw [HT.out, if_pos hf]
        clear HT hf hrow
        go_wp2_with fail
        go_roundw
        case rel => exact ⟨i + 1, by omega, by go_num, by rw [HT2.out]; exact HROW3.out, HBR3.out⟩
        case measure => simp [intOf]; omega
    · have hle : i = l.length := by omega
      subst hle
      have HR4 : Hid (wr.ownsRow w2.heap.size 9 1 u7 (lackN K d l).length (strCells (lackN K d l))) := by have h := HROW.out; rw [List.take_length] at h; exact h
      clear HROW
      go_wp2_with fail
      go_ret
      rw [HNE.out]
      refine ⟨_, rfl, ?_, HB2.out.trans (HBR.out.mono HB2.out.size)⟩
      have h := HR4.out
      refine ⟨h.1, ?_⟩
      rcases h.2 with h | ⟨g, cap, cur, h1, h2, h3⟩
      · exact .inl h
      · exact .inr ⟨g, cap, cur, h1, Nat.le_trans HB2.out.size h2, h3⟩

end Go.Proofs.Ytdlflpnjmldakaa.Vl
namespace Go.Proofs.Ytdlflpnjmldakaa
open Go.RowKit
set_option linter.unusedVariables false

/-- What becomes of a tree that is spoilt itself. -/
def spoilHead (q : Nat) (v : Int) (s : ByteArray) (t : T) : T :=
  if q = 0 then .mk 0 ⟨#[]⟩ 0 [] else if q = 1 then .mk t.kind (cutTo s 20) t.n t.k else if q = 2 then .mk t.kind t.s v t.k
  else if q = 3 then (if 11 ≤ t.kind then .mk 1 ⟨#[]⟩ 0 [] else .mk 11 ⟨#[]⟩ 1 []) else t
mutual
/-- A tree that is spoilt at a place, and what is left of the place's number. -/
def spoilT (q : Nat) (v : Int) (s : ByteArray) : T → Int → T × Int
  | .mk kind s0 n k, a => if a = 0 then (spoilHead q v s (.mk kind s0 n k), -1) else (.mk kind s0 n (spoilL q v s k (a - 1)).1, (spoilL q v s k (a - 1)).2)
def spoilL (q : Nat) (v : Int) (s : ByteArray) : List T → Int → List T × Int
  | [], a => ([], a)
  | t :: l, a => if 0 ≤ a then ((spoilT q v s t a).1 :: (spoilL q v s l (spoilT q v s t a).2).1, (spoilL q v s l (spoilT q v s t a).2).2) else (t :: l, a)
end
theorem spoilL_snoc (q : Nat) (v : Int) (s : ByteArray) (t : T) (l : List T) : ∀ a : Int, spoilL q v s (l ++ [t]) a = if 0 ≤ (spoilL q v s l a).2 then ((spoilL q v s l a).1 ++ [(spoilT q v s t (spoilL q v s l a).2).1], (spoilT q v s t (spoilL q v s l a).2).2) else ((spoilL q v s l a).1 ++ [t], (spoilL q v s l a).2) := by
  induction l with
  | nil => intro a; simp only [List.nil_append, spoilL]; by_cases h : 0 ≤ a <;> simp [h]
  | cons x l ih =>
    intro a
    simp only [List.cons_append, spoilL]
    by_cases h : 0 ≤ a
    · simp only [if_pos h]
      rw [ih]
      split <;> rfl
    · simp only [if_neg h, List.cons_append]
theorem spoilL_len (q : Nat) (v : Int) (s : ByteArray) (l : List T) : ∀ a, (spoilL q v s l a).1.length = l.length := by
  induction l with
  | nil => intro a; simp [spoilL]
  | cons x l ih => intro a; simp only [spoilL]; split <;> simp [ih]
theorem spoilT_bd (q : Nat) (v : Int) (s : ByteArray) (t : T) : ∀ a, 0 ≤ a → -1 ≤ (spoilT q v s t a).2 ∧ (spoilT q v s t a).2 ≤ a := by
  induction t using T.ind with
  | _ kind s0 n k ih =>
    have hL : ∀ a, -1 ≤ a → -1 ≤ (spoilL q v s k a).2 ∧ (spoilL q v s k a).2 ≤ a := by
      induction k with
      | nil => intro a h; simp only [spoilL]; omega
      | cons x l ihl =>
        intro a h
        simp only [spoilL]
        split
        · rename_i h0
          have h1 := ih x (by simp) a h0
          have h2 := ihl (fun t ht => ih t (by simp [ht])) (spoilT q v s x a).2 h1.1
          simp only
          omega
        · simp only; omega
    intro a h
    unfold spoilT
    split
    · simp only; omega
    · have := hL (a - 1) (by omega)
      simp only
      omega
theorem spoilL_bd (q : Nat) (v : Int) (s : ByteArray) (l : List T) : ∀ a, -1 ≤ a → -1 ≤ (spoilL q v s l a).2 ∧ (spoilL q v s l a).2 ≤ a := by
  induction l with
  | nil => intro a h; simp only [spoilL]; omega
  | cons x l ihl =>
    intro a h
    simp only [spoilL]
    split
    · rename_i h0
      have h1 := spoilT_bd q v s x a h0
      have h2 := ihl (spoilT q v s x a).2 h1.1
      simp only
      omega
    · simp only; omega
theorem head_kind (q : Nat) (v : Int) (s : ByteArray) (t : T) : (spoilHead q v s t).kind = t.kind ∧ (spoilHead q v s t).k = t.k ∨ ((spoilHead q v s t).kind = 0 ∨ (spoilHead q v s t).kind = 1 ∨ (spoilHead q v s t).kind = 11) ∧ (spoilHead q v s t).k = [] := by
  unfold spoilHead
  split
  · exact .inr ⟨.inl rfl, rfl⟩
  · split
    · exact .inl ⟨rfl, rfl⟩
    · split
      · exact .inl ⟨rfl, rfl⟩
      · split
        · split
          · exact .inr ⟨.inr (.inl rfl), rfl⟩
          · exact .inr ⟨.inr (.inr rfl), rfl⟩
        · exact .inl ⟨rfl, rfl⟩
theorem head_s (q : Nat) (v : Int) (s : ByteArray) (t : T) (h : t.s.size ≤ 2147483648) : (spoilHead q v s t).s.size ≤ 2147483648 := by
  have he : (⟨#[]⟩ : ByteArray).size ≤ 2147483648 := by decide
  unfold spoilHead
  split
  · exact he
  · split
    · have := cutTo_size s 20
      show (cutTo s 20).size ≤ _
      omega
    · split
      · exact h
      · split
        · split
          · exact he
          · exact he
        · exact h
theorem head_n (q : Nat) (v : Int) (s : ByteArray) (t : T) (hv : -9223372036854775808 ≤ v ∧ v ≤ 9223372036854775807) (h : -9223372036854775808 ≤ t.n ∧ t.n ≤ 9223372036854775807) : -9223372036854775808 ≤ (spoilHead q v s t).n ∧ (spoilHead q v s t).n ≤ 9223372036854775807 := by
  unfold spoilHead
  split
  · exact ⟨by decide, by decide⟩
  · split
    · exact h
    · split
      · exact hv
      · split
        · split
          · exact ⟨by decide, by decide⟩
          · exact ⟨by decide, by decide⟩
        · exact h
theorem shaped_iff (t : T) : t.Shaped ↔ (t.kind = 13 ∨ t.kind = 15 ∨ t.kind = 16 → t.k.length = 2) ∧ (t.kind = 14 → t.k.length = 1) ∧ (t.kind = 13 ∨ t.kind = 14 ∨ t.kind = 15 ∨ t.kind = 16 ∨ t.k = []) ∧ -9223372036854775808 ≤ t.n ∧ t.n ≤ 9223372036854775807 ∧ t.s.size ≤ 2147483648 ∧ ShapedL t.k := by
  cases t
  unfold T.Shaped
  exact Iff.rfl
theorem shapedL_of : ∀ {l : List T}, (∀ t ∈ l, t.Shaped) → ShapedL l := by
  intro l
  induction l with
  | nil => intro _; unfold ShapedL; trivial
  | cons x l ih => intro h; unfold ShapedL; exact ⟨h x (by simp), ih (fun t ht => h t (by simp [ht]))⟩
theorem spoilL_all {P : T → Prop} (q : Nat) (v : Int) (s : ByteArray) (l : List T) (h : ∀ t ∈ l, P t ∧ ∀ a, P (spoilT q v s t a).1) : ∀ a, ∀ t ∈ (spoilL q v s l a).1, P t := by
  induction l with
  | nil => intro a t ht; simp [spoilL] at ht
  | cons x l ih =>
    intro a t ht
    simp only [spoilL] at ht
    split at ht
    · simp only [List.mem_cons] at ht
      rcases ht with rfl | ht
      · exact (h x (by simp)).2 a
      · exact ih (fun t ht => h t (by simp [ht])) _ t ht
    · exact (h t ht).1
theorem spoil_shaped (q : Nat) (v : Int) (s : ByteArray) (hv : -9223372036854775808 ≤ v ∧ v ≤ 9223372036854775807) (t : T) : t.Shaped → ∀ a, (spoilT q v s t a).1.Shaped := by
  induction t using T.ind with
  | _ kind s0 n k ih =>
    intro h a
    have h' := (shaped_iff _).1 h
    obtain ⟨h2, h1, h3, hn1, hn2, hs, hk⟩ := h'
    unfold spoilT
    split
    · rw [shaped_iff]
      simp only
      have hs' := head_s q v s (.mk kind s0 n k) hs
      have hn' := head_n q v s (.mk kind s0 n k) hv ⟨hn1, hn2⟩
      rcases head_kind q v s (.mk kind s0 n k) with ⟨e1, e2⟩ | ⟨e1, e2⟩
      · rw [e1, e2]; exact ⟨h2, h1, h3, hn'.1, hn'.2, hs', hk⟩
      · rw [e2]; exact ⟨fun h => by omega, fun h => by omega, .inr (.inr (.inr (.inr rfl))), hn'.1, hn'.2, hs', by unfold ShapedL; trivial⟩
    · rw [shaped_iff]
      have hl := spoilL_len q v s k (a - 1)
      simp only [T.kind, T.k, T.s, T.n] at *
      refine ⟨fun h => by rw [hl]; exact h2 h, fun h => by rw [hl]; exact h1 h, ?_, hn1, hn2, hs, shapedL_of (spoilL_all q v s k (fun t ht => ⟨shapedL_mem hk t ht, ih t ht (shapedL_mem hk t ht)⟩) _)⟩
      rcases h3 with h | h | h | h | h
      · exact .inl h
      · exact .inr (.inl h)
      · exact .inr (.inr (.inl h))
      · exact .inr (.inr (.inr (.inl h)))
      · refine .inr (.inr (.inr (.inr ?_)))
        subst h
        simp [spoilL]
theorem head_cnt (q : Nat) (v : Int) (s : ByteArray) (t : T) : (spoilHead q v s t).cnt ≤ t.cnt := by
  have h1 : 1 ≤ t.cnt := by cases t; unfold T.cnt; omega
  unfold spoilHead
  split
  · simp [T.cnt, cntL]; exact h1
  · split
    · cases t; simp [T.cnt, T.k]
    · split
      · cases t; simp [T.cnt, T.k]
      · split
        · split
          · simp [T.cnt, cntL]; exact h1
          · simp [T.cnt, cntL]; exact h1
        · exact Nat.le_refl _
theorem spoil_cnt (q : Nat) (v : Int) (s : ByteArray) (t : T) : ∀ a, (spoilT q v s t a).1.cnt ≤ t.cnt := by
  induction t using T.ind with
  | _ kind s0 n k ih =>
    have hL : ∀ a, cntL (spoilL q v s k a).1 ≤ cntL k := by
      induction k with
      | nil => intro a; simp [spoilL]
      | cons x l ihl =>
        intro a
        simp only [spoilL]
        split
        · have h1 := ih x (by simp) a
          have h2 := ihl (fun t ht => ih t (by simp [ht])) (spoilT q v s x a).2
          simp only [cntL]
          omega
        · exact Nat.le_refl _
    intro a
    unfold spoilT
    split
    · exact head_cnt q v s _
    · have := hL (a - 1)
      simp only [T.cnt]
      omega
theorem obsL_len (l : List T) : (obsL l).length = l.length := by
  induction l with
  | nil => rfl
  | cons x l ih => simp [obsL, ih]
theorem obsOf_nodes (t : T) : (obsOf t).nodes ≤ t.cnt := by
  induction t using T.ind with
  | _ kind s n k ih =>
    unfold obsOf T.cnt
    split
    · simp [O.nodes]
    · split
      · simp [O.nodes]
      · match k, ih with
        | [], _ => simp [obsL, O.nodes]
        | [a], ih =>
          have h1 := ih a (by simp)
          simp only [obsL, cntL]
          split
          · simp only [O.nodes]; omega
          · simp [O.nodes]
        | [a, b], ih =>
          have h1 := ih a (by simp)
          have h2 := ih b (by simp)
          simp only [obsL, cntL]
          split
          · simp only [O.nodes]; omega
          · split
            · simp only [O.nodes]; omega
            · split
              · simp only [O.nodes]; omega
              · simp [O.nodes]
        | a :: b :: c :: l, _ => simp [obsL, O.nodes]

end Go.Proofs.Ytdlflpnjmldakaa
namespace Go.Proofs.Ytdlflpnjmldakaa
open Go.RowKit
set_option linter.unusedVariables false

theorem infoTT : (Try.prog.info? 52).map (fun i => (i.zero, i.size, i.bytes)) = some (some (.agg zeroT), 4, 56) := by kernel_rfl
/-- A tree stands wherever the old blocks and the new ones are as they were. -/
def Spread (W0 : World) (B : Nat) (w : World) (t : T) (v : Value) : Prop := ∀ X : World, (∀ b o c, (b < W0.heap.size ∨ B ≤ b) → w.cell? ⟨b, o, none⟩ = some c → X.cell? ⟨b, o, none⟩ = some c) → TIn X 0 t v
theorem Spread.here {W0 w : World} {B : Nat} {t : T} {v : Value} (h : Spread W0 B w t v) : TIn w 0 t v := h w (fun _ _ _ _ h => h)
theorem spread_old {W0 w : World} {B : Nat} {t : T} {v : Value} (h : TIn W0 0 t v) (hb : Below W0.heap.size W0 w) : Spread W0 B w t v :=
  fun X hX => h.kept (Nat.le_refl _) (fun b o c _ hc => hX b o c (.inl (World.block_lt_of_cell? W0 _ hc)) ((hb.cell (p := ⟨b, o, none⟩) (World.block_lt_of_cell? W0 _ hc)).trans hc))
theorem spread_leaf {W0 w : World} {B : Nat} (kind : Int) (s : ByteArray) (n : Int) : Spread W0 B w (.mk kind s n []) (.agg #[.int .i64 kind, .string s, .int .i64 n, .slice none 0 0]) := fun X _ => tin_leaf X 0 kind s n
def SpoilPost (W0 w : World) (r : T × Int) (e : Ending) (w' : World) : Prop :=
  ∃ ka kc, e = .returned (.tuple #[.agg (four r.1 ka kc), .int .i64 r.2]) ∧ Spread W0 w.heap.size w' r.1 (.agg (four r.1 ka kc)) ∧ Below w.heap.size w w'
theorem tin_parts {X : World} {t : T} {a : Option Addr} {cap : Nat} (h : TIn X 0 t (.agg #[.int .i64 t.kind, .string t.s, .int .i64 t.n, .slice a t.k.length cap])) (kind : Int) (s : ByteArray) (n : Int) : TIn X 0 (.mk kind s n t.k) (.agg #[.int .i64 kind, .string s, .int .i64 n, .slice a t.k.length cap]) := by
  obtain ⟨a', cap', e, h4, h5, h6⟩ := h
  simp at e
  obtain ⟨rfl, rfl⟩ := e
  exact ⟨a, cap, rfl, h4, h5, h6⟩

set_option maxHeartbeats 2000000 in
set_option maxRecDepth 100000 in
theorem spoil_head (W0 : World) (t : T) (what v : Int) (s : ByteArray) (hw1 : -9223372036854775808 ≤ what) (hw2 : what ≤ 9223372036854775807) (hs : s.size ≤ maxLen) (w : World) (x : Value) (hx : TIn W0 0 t x) (hb : Below W0.heap.size W0 w) :
    Calls Try.prog 55 #[x, .int .i64 0, .int .i64 what, .int .i64 v, .string s] w (SpoilPost W0 w (spoilHead (what % 5).toNat v s t, -1)) := by
  obtain ⟨q, hq⟩ : ∃ q : Nat, what % 5 = q := ⟨(what % 5).toNat, by omega⟩
  have hq5 : q = 0 ∨ q = 1 ∨ q = 2 ∨ q = 3 ∨ q = 4 := by omega
  have HX := hidIn hx
  obtain ⟨a, cap, rfl, _, _, _⟩ := hx
  have HB0 := hidIn hb
  have HQ : Hid ((what % 5).toNat = q) := by show _ = _; omega
  have hsz : w.heap.size + 1 ≠ w.heap.size := by omega
  clear hb
  go_enter Try.func55, Try.ntmps55
  go_wp2_with fail
  obtain ⟨W, hW⟩ : ∃ W, W = (w.alloc (.cells #[.int .i64 t.kind, .string t.s, .int .i64 t.n, .slice a t.k.length cap] 52)).alloc (.cells #[.int .i64 0, .string ⟨#[]⟩, .int .i64 0, .slice none 0 0] 52) := ⟨_, rfl⟩
  have HB : Hid (Below w.heap.size w W) := by rw [hW]; exact below_alloc (below_alloc (Below.refl _ _) _) _
  have hP : Blk W w.heap.size 52 #[.int .i64 t.kind, .string t.s, .int .i64 t.n, .slice a t.k.length cap] := by rw [hW]; exact blk_keep (blk_new rfl) _
  have hZ : Blk W (w.heap.size + 1) 52 zeroT := by rw [hW]; exact blk_new (by simp)
  have HSX : Hid (∀ (B : Nat) (X : World), Below w.heap.size w X → Spread W0 B X t (.agg #[.int .i64 t.kind, .string t.s, .int .i64 t.n, .slice a t.k.length cap])) := fun B X hX => spread_old HX.out (HB0.out.trans (hX.mono HB0.out.size))
  rw [← hW]
  clear hW
  have c0 := hP.cell 0
  have c1 := hP.cell 1
  have c2 := hP.cell 2
  have c3 := hP.cell 3
  have e0 := hP.frozen 0
  have e1 := hP.frozen 1
  have e2 := hP.frozen 2
  have e3 := hP.frozen 3
  obtain ⟨⟨z0, z1, z2, z3⟩, f0, f1, f2, f3⟩ := blk_zero hZ
  have HP := hidIn hP
  have HZ := hidIn hZ
  have HSS := hidIn hs
  clear hP hZ hs HX
  refine calls_same (within_any _ 5 _ (by omega) (by omega) hw1 hw2) ?_
  rw [hq]
  clear hq hw1 hw2
  rcases hq5 with rfl | rfl | rfl | rfl | rfl
  · go_wp2_with fail
    refine bodyPost_ret (results_cell_slot rfl _ _ (w.heap.size + 1) 52 #[.int .i64 0, .string ⟨#[]⟩, .int .i64 0, .slice none 0 0] (0, 0) _ rfl ?blk Try.underlying52 rfl infoT) rfl ?post
    case blk => change Blk _ _ _ _; (with_reducible refine blk_set4' ?_ _ _ _ _); (repeat first | with_reducible exact HZ.out | with_reducible refine blk_other ?_ hsz _ _)
    case post =>
      rw [HQ.out]
      change SpoilPost W0 w (T.mk 0 ⟨#[]⟩ 0 [], -1) _ _
      refine ⟨_, _, rfl, spread_leaf _ _ _, ?_⟩
      all_goals (repeat first | with_reducible exact HB.out | with_reducible refine below_set ?_ (by omega) _ _)
  · go_wp2_with fail
    refine calls_same (text_any _ 20 _ HSS.out (by omega)) ?_
    go_wp2_with fail
    refine bodyPost_ret (results_cell_slot rfl _ _ (w.heap.size + 1) 52 #[.int .i64 t.kind, .string (cutTo s 20), .int .i64 t.n, .slice a t.k.length cap] (0, 0) _ rfl ?blk Try.underlying52 rfl infoT) rfl ?post
    case blk => change Blk _ _ _ _; (with_reducible refine blk_set4' ?_ _ _ _ _); (repeat first | with_reducible exact HZ.out | with_reducible refine blk_other ?_ hsz _ _)
    case post =>
      rw [HQ.out]
      change SpoilPost W0 w (T.mk t.kind (cutTo s 20) t.n t.k, -1) _ _
      refine ⟨_, _, rfl, (fun X hX => tin_parts (HSX.out _ _ ?_ X hX) _ _ _), ?_⟩
      all_goals (repeat first | with_reducible exact HB.out | with_reducible refine below_set ?_ (by omega) _ _)
  · go_wp2_with fail
    refine bodyPost_ret (results_cell_slot rfl _ _ (w.heap.size + 1) 52 #[.int .i64 t.kind, .string t.s, .int .i64 v, .slice a t.k.length cap] (0, 0) _ rfl ?blk Try.underlying52 rfl infoT) rfl ?post
    case blk => change Blk _ _ _ _; (with_reducible refine blk_set4' ?_ _ _ _ _); (repeat first | with_reducible exact HZ.out | with_reducible refine blk_other ?_ hsz _ _)
    case post =>
      rw [HQ.out]
      change SpoilPost W0 w (T.mk t.kind t.s v t.k, -1) _ _
      refine ⟨_, _, rfl, (fun X hX => tin_parts (HSX.out _ _ ?_ X hX) _ _ _), ?_⟩
      all_goals (repeat first | with_reducible exact HB.out | with_reducible refine below_set ?_ (by omega) _ _)
  · by_cases h11 : 11 ≤ t.kind
    · go_wp2_with fail
      refine bodyPost_ret (results_cell_slot rfl _ _ (w.heap.size + 1) 52 #[.int .i64 1, .string ⟨#[]⟩, .int .i64 0, .slice none 0 0] (0, 0) _ rfl ?blk Try.underlying52 rfl infoT) rfl ?post
      case blk => change Blk _ _ _ _; (with_reducible refine blk_set4' ?_ _ _ _ _); (repeat first | with_reducible exact HZ.out | with_reducible refine blk_other ?_ hsz _ _)
      case post =>
        rw [HQ.out, show spoilHead 3 v s t = T.mk 1 ⟨#[]⟩ 0 [] from if_pos h11]
        refine ⟨_, _, rfl, spread_leaf _ _ _, ?_⟩
        all_goals (repeat first | with_reducible exact HB.out | with_reducible refine below_set ?_ (by omega) _ _)
    · go_wp2_with fail
      refine bodyPost_ret (results_cell_slot rfl _ _ (w.heap.size + 1) 52 #[.int .i64 11, .string ⟨#[]⟩, .int .i64 1, .slice none 0 0] (0, 0) _ rfl ?blk Try.underlying52 rfl infoT) rfl ?post
      case blk => change Blk _ _ _ _; (with_reducible refine blk_set4' ?_ _ _ _ _); (repeat first | with_reducible exact HZ.out | with_reducible refine blk_other ?_ hsz _ _)
      case post =>
        rw [HQ.out, show spoilHead 3 v s t = T.mk 11 ⟨#[]⟩ 1 [] from if_neg (Int.not_le.2 h11)]
        refine ⟨_, _, rfl, spread_leaf _ _ _, ?_⟩
        all_goals (repeat first | with_reducible exact HB.out | with_reducible refine below_set ?_ (by omega) _ _)
  · go_wp2_with fail
    refine bodyPost_ret (results_cell_slot rfl _ _ (w.heap.size + 1) 52 #[.int .i64 t.kind, .string t.s, .int .i64 t.n, .slice a t.k.length cap] (0, 0) _ rfl ?blk Try.underlying52 rfl infoT) rfl ?post
    case blk => change Blk _ _ _ _; (with_reducible refine blk_set4' ?_ _ _ _ _); (repeat first | with_reducible exact HZ.out | with_reducible refine blk_other ?_ hsz _ _)
    case post =>
      rw [HQ.out]
      change SpoilPost W0 w (t, -1) _ _
      refine ⟨_, _, rfl, (HSX.out _ _ ?_), ?_⟩
      all_goals (repeat first | with_reducible exact HB.out | with_reducible refine below_set ?_ (by omega) _ _)

/-- The cells of trees, one behind another. -/
def CellsAt (cur : Array Value) (j : Nat) (t : T) (ka : Option Addr) (kc : Nat) : Prop := cur[j * 4]? = some (.int .i64 t.kind) ∧ cur[j * 4 + 1]? = some (.string t.s) ∧ cur[j * 4 + 2]? = some (.int .i64 t.n) ∧ cur[j * 4 + 3]? = some (.slice ka t.k.length kc)
/-- A row of trees in block R: each stands wherever the old blocks and those behind R are as they were. -/
def RowIn (W0 : World) (R : Nat) (w : World) (cur : Array Value) (l : List T) : Prop := ∀ j t, l[j]? = some t → ∃ ka kc, CellsAt cur j t ka kc ∧ Spread W0 (R + 1) w t (.agg (four t ka kc))
theorem Spread.next {W0 w w' : World} {B : Nat} {t : T} {v : Value} (h : Spread W0 B w t v) (hc : ∀ b o c, (b < W0.heap.size ∨ B ≤ b) → w.cell? ⟨b, o, none⟩ = some c → w'.cell? ⟨b, o, none⟩ = some c) : Spread W0 B w' t v :=
  fun X hX => h X (fun b o c hb hw => hX b o c hb (hc b o c hb hw))
theorem Spread.low {W0 w : World} {B B' : Nat} {t : T} {v : Value} (h : Spread W0 B w t v) (hB : B' ≤ B) : Spread W0 B' w t v :=
  fun X hX => h X (fun b o c hb hw => hX b o c (by omega) hw)
theorem RowIn.next {W0 w w' : World} {R : Nat} {cur : Array Value} {l : List T} (h : RowIn W0 R w cur l) (hc : ∀ b o c, b ≠ R → w.cell? ⟨b, o, none⟩ = some c → w'.cell? ⟨b, o, none⟩ = some c) (hR : W0.heap.size ≤ R) : RowIn W0 R w' cur l := by
  intro j t hj
  obtain ⟨ka, kc, h1, h2⟩ := h j t hj
  exact ⟨ka, kc, h1, h2.next (fun b o c hb hw => hc b o c (by omega) hw)⟩
def put4 (cur : Array Value) (i : Nat) (a b c d : Value) : Array Value := (((cur.setIfInBounds (i * 4) a).setIfInBounds (i * 4 + 1) b).setIfInBounds (i * 4 + 2) c).setIfInBounds (i * 4 + 3) d
theorem put4_same (cur : Array Value) (i : Nat) (a b c d : Value) (h : i * 4 + 3 < cur.size) : (put4 cur i a b c d)[i * 4]? = some a ∧ (put4 cur i a b c d)[i * 4 + 1]? = some b ∧ (put4 cur i a b c d)[i * 4 + 2]? = some c ∧ (put4 cur i a b c d)[i * 4 + 3]? = some d := by
  unfold put4
  refine ⟨?_, ?_, ?_, ?_⟩ <;> simp [Array.getElem?_setIfInBounds] <;> omega
theorem put4_other (cur : Array Value) (i j : Nat) (a b c d : Value) (h : j ≠ i) (x : Nat) (hx : x < 4) : (put4 cur i a b c d)[j * 4 + x]? = cur[j * 4 + x]? := by
  unfold put4
  rw [Array.getElem?_setIfInBounds_ne (by omega), Array.getElem?_setIfInBounds_ne (by omega), Array.getElem?_setIfInBounds_ne (by omega), Array.getElem?_setIfInBounds_ne (by omega)]
theorem RowIn.put {W0 w : World} {R : Nat} {cur : Array Value} {l : List T} {i : Nat} {x t : T} {ka : Option Addr} {kc : Nat} (h : RowIn W0 R w cur l) (hi : l[i]? = some x) (hc : i * 4 + 3 < cur.size) (ht : Spread W0 (R + 1) w t (.agg (four t ka kc))) : RowIn W0 R w (put4 cur i (.int .i64 t.kind) (.string t.s) (.int .i64 t.n) (.slice ka t.k.length kc)) (l.set i t) := by
  intro j u hj
  by_cases hji : j = i
  · subst hji
    have hl := (List.getElem?_eq_some_iff.1 hi).1
    rw [List.getElem?_set_self hl] at hj
    injection hj with hj
    subst hj
    exact ⟨ka, kc, put4_same cur j _ _ _ _ hc, ht⟩
  · rw [List.getElem?_set_ne (fun e => hji e.symm)] at hj
    obtain ⟨kb, kd, h1, h2⟩ := h j u hj
    refine ⟨kb, kd, ?_, h2⟩
    obtain ⟨c0, c1, c2, c3⟩ := h1
    exact ⟨(put4_other cur i j _ _ _ _ hji 0 (by omega)).trans c0, (put4_other cur i j _ _ _ _ hji 1 (by omega)).trans c1, (put4_other cur i j _ _ _ _ hji 2 (by omega)).trans c2, (put4_other cur i j _ _ _ _ hji 3 (by omega)).trans c3⟩
/-- The cells of parts that lie in memory. -/
def rowCells (l : List T) (f : Nat → Option Addr × Nat) : Nat → List Value
  | i => match l with
    | [] => []
    | t :: r => .int .i64 t.kind :: .string t.s :: .int .i64 t.n :: .slice (f i).1 t.k.length (f i).2 :: rowCells r f (i + 1)
theorem rowCells_len (f : Nat → Option Addr × Nat) (l : List T) : ∀ i, (rowCells l f i).length = l.length * 4 := by
  induction l with
  | nil => intro i; simp [rowCells]
  | cons t l ih => intro i; simp only [rowCells, List.length_cons, ih]; omega
theorem rowCells_get (f : Nat → Option Addr × Nat) (l : List T) : ∀ i j t, l[j]? = some t → (rowCells l f i)[j * 4]? = some (.int .i64 t.kind) ∧ (rowCells l f i)[j * 4 + 1]? = some (.string t.s) ∧ (rowCells l f i)[j * 4 + 2]? = some (.int .i64 t.n) ∧ (rowCells l f i)[j * 4 + 3]? = some (.slice (f (i + j)).1 t.k.length (f (i + j)).2) := by
  induction l with
  | nil => intro i j t h; simp at h
  | cons u l ih =>
    intro i j t h
    cases j with
    | zero => simp at h; subst h; simp [rowCells]
    | succ j =>
      simp at h
      have := ih (i + 1) j t h
      simp only [rowCells]
      rw [show (j + 1) * 4 = j * 4 + 1 + 1 + 1 + 1 by omega, show i + (j + 1) = i + 1 + j by omega]
      simpa using this
theorem rowCells_one (f : Nat → Option Addr × Nat) (l : List T) : ∀ i, ∀ u ∈ rowCells l f i, u.oneCell' = true := by
  induction l with
  | nil => intro i u hu; simp [rowCells] at hu
  | cons t l ih =>
    intro i u hu
    simp only [rowCells, List.mem_cons] at hu
    rcases hu with rfl | rfl | rfl | rfl | hu
    · rfl
    · rfl
    · rfl
    · rfl
    · exact ih (i + 1) u hu
theorem kat_row {w : World} {l : List T} {b o : Nat} (h : KAt w 0 l (some ⟨b, o, none⟩) 0) : ∃ f : Nat → Option Addr × Nat, (∀ j t, l[j]? = some t → TIn w 0 t (.agg (four t (f j).1 (f j).2))) ∧ ∀ (j : Nat) (u : Value), (rowCells l f 0)[j]? = some u → w.cell? ((⟨b, o, none⟩ : Addr).add j) = some u := by
  have hx : ∀ j, ∃ p : Option Addr × Nat, ∀ t, l[j]? = some t → w.cell? ⟨b, o + j * 4, none⟩ = some (.int .i64 t.kind) ∧ w.cell? ⟨b, o + j * 4 + 1, none⟩ = some (.string t.s) ∧ w.cell? ⟨b, o + j * 4 + 2, none⟩ = some (.int .i64 t.n) ∧ w.cell? ⟨b, o + j * 4 + 3, none⟩ = some (.slice p.1 t.k.length p.2) ∧ TIn w 0 t (.agg (four t p.1 p.2)) := by
    intro j
    cases hj : l[j]? with
    | none => exact ⟨(none, 0), fun t ht => by cases ht⟩
    | some t =>
      obtain ⟨b', o', ka, kc, e, c0, c1, c2, c3, ht⟩ := h.cells hj
      injection e with e
      injection e with e1 e2
      subst e1 e2
      exact ⟨(ka, kc), fun t' ht' => by injection ht' with ht'; subst ht'; exact ⟨c0, c1, c2, c3, ht⟩⟩
  refine ⟨fun j => Classical.choose (hx j), fun j t hj => ((Classical.choose_spec (hx j)) t hj).2.2.2.2, ?_⟩
  intro j u hu
  have hlen := (List.getElem?_eq_some_iff.1 hu).1
  rw [rowCells_len] at hlen
  obtain ⟨q, r, hr, rfl⟩ : ∃ q r, r < 4 ∧ j = q * 4 + r := ⟨j / 4, j % 4, Nat.mod_lt _ (by omega), by omega⟩
  obtain ⟨t, ht⟩ : ∃ t, l[q]? = some t := ⟨_, List.getElem?_eq_getElem (by omega)⟩
  have hg := rowCells_get (fun j => Classical.choose (hx j)) l 0 q t ht
  have hs := (Classical.choose_spec (hx q)) t ht
  rw [Nat.zero_add] at hg
  rw [Go.WideShapes.add_plain, ← Nat.add_assoc]
  have h4 : r = 0 ∨ r = 1 ∨ r = 2 ∨ r = 3 := by omega
  rcases h4 with rfl | rfl | rfl | rfl
  · rw [Nat.add_zero] at hu ⊢; rw [hg.1] at hu; injection hu with hu; subst hu; exact hs.1
  · rw [hg.2.1] at hu; injection hu with hu; subst hu; exact hs.2.1
  · rw [hg.2.2.1] at hu; injection hu with hu; subst hu; exact hs.2.2.1
  · rw [hg.2.2.2] at hu; injection hu with hu; subst hu; exact hs.2.2.2.1

end Go.Proofs.Ytdlflpnjmldakaa
namespace Go.Proofs.Ytdlflpnjmldakaa
open Go.RowKit
set_option linter.unusedVariables false

theorem len_cnt (l : List T) : l.length ≤ cntL l := by
  induction l with
  | nil => simp
  | cons t l ih => have h1 : 1 ≤ t.cnt := by cases t; unfold T.cnt; omega
                   simp only [cntL, List.length_cons]; omega
theorem cell_set4 {W : World} {R i : Nat} {a b c d : Value} {k o : Nat} (h : k ≠ R) : ((((W.setCell ⟨R, i, none⟩ a).setCell ⟨R, i + 1, none⟩ b).setCell ⟨R, i + 2, none⟩ c).setCell ⟨R, i + 3, none⟩ d).cell? ⟨k, o, none⟩ = W.cell? ⟨k, o, none⟩ := by
  rw [World.cell?_setCell_other _ _ _ _ (by intro e; injection e with e; exact h e.symm), World.cell?_setCell_other _ _ _ _ (by intro e; injection e with e; exact h e.symm), World.cell?_setCell_other _ _ _ _ (by intro e; injection e with e; exact h e.symm), World.cell?_setCell_other _ _ _ _ (by intro e; injection e with e; exact h e.symm)]
theorem blk_put4 {W : World} {R ty : Nat} {cur : Array Value} (h : Blk W R ty cur) (i : Nat) (a b c d : Value) : Blk ((((W.setCell ⟨R, i * 4, none⟩ a).setCell ⟨R, i * 4 + 1, none⟩ b).setCell ⟨R, i * 4 + 2, none⟩ c).setCell ⟨R, i * 4 + 3, none⟩ d) R ty (put4 cur i a b c d) :=
  (((h.set _ a).set _ b).set _ c).set _ d
theorem put4_size (cur : Array Value) (i : Nat) (a b c d : Value) : (put4 cur i a b c d).size = cur.size := by simp [put4]
/-- What stands in the row behind so many rounds. -/
def rowAt (q : Nat) (v : Int) (s : ByteArray) (k : List T) (a : Int) (i : Nat) : List T := (spoilL q v s (k.take i) a).1 ++ k.drop i
theorem rowAt_get (q : Nat) (v : Int) (s : ByteArray) (k : List T) (a : Int) (i : Nat) (hi : i < k.length) : (rowAt q v s k a i)[i]? = k[i]? := by
  have hl := spoilL_len q v s (k.take i) a
  rw [List.length_take, Nat.min_eq_left (by omega)] at hl
  unfold rowAt
  rw [List.getElem?_append_right (by omega), hl, Nat.sub_self, List.getElem?_drop, Nat.add_zero]
theorem rowAt_len (q : Nat) (v : Int) (s : ByteArray) (k : List T) (a : Int) (i : Nat) : (rowAt q v s k a i).length = k.length := by
  have hl := spoilL_len q v s (k.take i) a
  unfold rowAt
  rw [List.length_append, hl, ← List.length_append, List.take_append_drop]
theorem rowAt_next (q : Nat) (v : Int) (s : ByteArray) (k : List T) (a : Int) (i : Nat) (t : T) (ht : k[i]? = some t) : rowAt q v s k a (i + 1) = (if 0 ≤ (spoilL q v s (k.take i) a).2 then (rowAt q v s k a i).set i (spoilT q v s t (spoilL q v s (k.take i) a).2).1 else rowAt q v s k a i) ∧ (spoilL q v s (k.take (i + 1)) a).2 = if 0 ≤ (spoilL q v s (k.take i) a).2 then (spoilT q v s t (spoilL q v s (k.take i) a).2).2 else (spoilL q v s (k.take i) a).2 := by
  have hi := (List.getElem?_eq_some_iff.1 ht).1
  have hl := spoilL_len q v s (k.take i) a
  rw [List.length_take, Nat.min_eq_left (by omega)] at hl
  have hd : k.drop i = t :: k.drop (i + 1) := by
    rw [List.drop_eq_getElem_cons hi]
    congr 1
    exact (List.getElem?_eq_some_iff.1 ht).2
  unfold rowAt
  rw [take_more _ _ _ ht, spoilL_snoc, hd]
  split
  · simp only [List.append_assoc, List.singleton_append]
    rw [List.set_append_right _ _ (by omega), hl, Nat.sub_self, List.set_cons_zero]
    simp
  · simp

/-- Parts that are as they were from a place on. -/
def OldIn (W0 : World) (cur : Array Value) (k : List T) (i : Nat) : Prop := ∀ j t, i ≤ j → k[j]? = some t → ∃ ka kc, CellsAt cur j t ka kc ∧ TIn W0 0 t (.agg (four t ka kc))
theorem OldIn.put {W0 : World} {cur : Array Value} {k : List T} {i : Nat} (h : OldIn W0 cur k i) (a b c d : Value) : OldIn W0 (put4 cur i a b c d) k (i + 1) := by
  intro j t hj ht
  obtain ⟨ka, kc, ⟨c0, c1, c2, c3⟩, h2⟩ := h j t (by omega) ht
  exact ⟨ka, kc, ⟨(put4_other cur i j _ _ _ _ (by omega) 0 (by omega)).trans c0, (put4_other cur i j _ _ _ _ (by omega) 1 (by omega)).trans c1, (put4_other cur i j _ _ _ _ (by omega) 2 (by omega)).trans c2, (put4_other cur i j _ _ _ _ (by omega) 3 (by omega)).trans c3⟩, h2⟩
/-- A copy of a tree's parts. -/
structure KidsRow (W0 w w' : World) (ro : Option Addr) (c2 R : Nat) (cur : Array Value) (k : List T) : Prop where
  cap : k.length ≤ c2 ∧ c2 ≤ 9223372036854775807
  at_ : k ≠ [] → ro = some ⟨R, 0, none⟩ ∧ Blk w' R 52 cur ∧ k.length * 4 ≤ cur.size
  base : w.heap.size ≤ R
  row : RowIn W0 R w' cur k
  old : OldIn W0 cur k 0
  below : Below w.heap.size w w'
theorem run_append_nil (w : World) (ty cap : Nat) : (Builtin.append_ #[50, 50] ty #[.slice none 0 0, .slice none 0 cap]).run Try.prog w = .ok (.slice none 0 0) w := by
  obtain ⟨i0, hi, hz0, hz1, hz2⟩ := info_parts infoTT
  simp [Builtin.append_, run_underlying Try.underlying50, sizeOf, typeInfo, hi, Builtin.lenOf, Builtin.firstCells]
theorem wpList_append_kids {ops : Array Oper} {rest : List Oper} {o : Oper} {a : Act} {Q : Exit → Act → World → Prop} (w : World) (hgd : o.guard = none) (s x : Operand)
    (ho : o.op = .call { callee := .builtin .append, args := #[s, x], argTypes := #[50, 50] })
    (hs : a.eval s = .slice none 0 0) (k : List T) (ao : Option Addr) (cap : Nat) (hx : a.eval x = .slice ao k.length cap) (W0 : World) (hK : KAt W0 0 k ao 0) (hb : Below W0.heap.size W0 w) (hkl : k.length ≤ 1000000)
    (h : ∀ ro c2 R cur w', KidsRow W0 w w' ro c2 R cur k → wpList Try.prog ops Q rest (a.put o.dst (.slice ro k.length c2)) w') : wpList Try.prog ops Q (o :: rest) a w := by
  obtain ⟨i0, hi, hz0, hz1, hz2⟩ := info_parts infoTT
  cases ao with
  | none =>
    have hk : k = [] := by
      cases k with
      | nil => rfl
      | cons t l => exfalso; unfold KAt at hK; obtain ⟨⟨b, o, e, _⟩, _⟩ := hK; cases e
    subst hk
    refine wpList_plain hgd fun K hKK => ?_
    have hrun := run_append_nil w o.type cap
    have hk2 := h none 0 w.heap.size #[] w ⟨⟨Nat.le_refl _, by simp⟩, fun hn => absurd rfl hn, Nat.le_refl _, fun j t hj => by simp at hj, fun j t _ hj => by simp at hj, Below.refl _ _⟩
    unfold Oper.wp
    simp at hx
    simp [execOp, ho, resolve, invoke, builtin, hs, hx, hrun, Result.andThen]
    exact hKK _ _ hk2
  | some ad =>
    obtain ⟨f, hT, hC⟩ : ∃ f : Nat → Option Addr × Nat, (∀ j t, k[j]? = some t → TIn W0 0 t (.agg (four t (f j).1 (f j).2))) ∧ ∀ (j : Nat) (u : Value), (rowCells k f 0)[j]? = some u → W0.cell? (ad.add j) = some u := by
      cases k with
      | nil => exact ⟨fun _ => (none, 0), fun j t hj => by simp at hj, fun j u hj => by simp [rowCells] at hj⟩
      | cons t l =>
        have hK2 := hK
        unfold KAt at hK2
        obtain ⟨⟨b, o, e, _⟩, _⟩ := hK2
        injection e with e
        subst e
        exact kat_row hK
    refine wpList_append_own_at w hgd s x 50 ho w.heap.size 52 i0 (.agg zeroT) 4 56 Try.underlying50 hi hz0 hz1 hz2 rfl (by decide) _ _ _ hs (World.ownsRow_nil _ _ _ _) ad k.length cap (rowCells k f 0) hx (rowCells_len f k 0) ?_ (rowCells_one f k 0) (by unfold maxLen; omega) (by omega) (Nat.le_refl _) ?_
    · intro j u hj
      have hc := hC j u hj
      exact (hb.cell (World.block_lt_of_cell? W0 _ hc)).trans hc
    · intro v' w' hown hgrow _ _
      have hbl : Below w.heap.size w w' := (Below.refl _ _).grown hgrow (Nat.le_refl _) (fun k hk => by simp [Value.ownBlock] at hk)
      simp only [Nat.zero_add, List.nil_append] at hown
      rcases hown.2 with ⟨rfl, h0⟩ | ⟨g, c2, cur, rfl, hg, hG, hn, hm, hz, ht⟩
      · have hk : k = [] := List.length_eq_zero_iff.1 h0
        subst hk
        exact h none 0 w.heap.size #[] w' ⟨⟨Nat.le_refl _, by simp⟩, fun hn => absurd rfl hn, Nat.le_refl _, fun j t hj => by simp at hj, fun j t _ hj => by simp at hj, hbl⟩
      · have hcells : ∀ j t, k[j]? = some t → CellsAt cur j t (f j).1 (f j).2 := by
          intro j t hj
          have hjl := (List.getElem?_eq_some_iff.1 hj).1
          have hgt := rowCells_get f k 0 j t hj
          have hcur : ∀ m, m < k.length * 4 → cur[m]? = (rowCells k f 0)[m]? := by
            intro m hm
            rw [← ht, List.getElem?_take, if_pos hm, Array.getElem?_toList]
          rw [Nat.zero_add] at hgt
          exact ⟨(hcur _ (by omega)).trans hgt.1, (hcur _ (by omega)).trans hgt.2.1, (hcur _ (by omega)).trans hgt.2.2.1, (hcur _ (by omega)).trans hgt.2.2.2⟩
        exact h _ c2 g cur w' ⟨⟨hn, by unfold maxLen at hm; omega⟩, fun _ => ⟨rfl, hG, by omega⟩, hg, fun j t hj => ⟨(f j).1, (f j).2, hcells j t hj, spread_old (hT j t hj) (hb.trans (hbl.mono hb.size))⟩, fun j t _ hj => ⟨(f j).1, (f j).2, hcells j t hj, hT j t hj⟩, hbl⟩

set_option maxHeartbeats 4000000 in
set_option maxRecDepth 100000 in
theorem spoil_any (what v : Int) (s : ByteArray) (hw1 : -9223372036854775808 ≤ what) (hw2 : what ≤ 9223372036854775807) (hs : s.size ≤ maxLen) (W0 : World) (t : T) : t.cnt ≤ 999990 → ∀ (a : Int), 0 ≤ a → a ≤ 4611686018427387904 → ∀ (w : World) (x : Value), TIn W0 0 t x → Below W0.heap.size W0 w →
    Calls Try.prog 55 #[x, .int .i64 a, .int .i64 what, .int .i64 v, .string s] w (SpoilPost W0 w (spoilT (what % 5).toNat v s t a)) := by
  induction t using T.ind with
  | _ kind s0 n k ih =>
  intro hcnt a ha0 ha1 w x hx hb
  by_cases h0 : a = 0
  · subst h0
    have h := spoil_head W0 (.mk kind s0 n k) what v s hw1 hw2 hs w x hx hb
    have he : spoilT (what % 5).toNat v s (.mk kind s0 n k) 0 = (spoilHead (what % 5).toNat v s (.mk kind s0 n k), -1) := by unfold spoilT; rw [if_pos rfl]
    rw [he]
    exact h
  · have HR : Hid (spoilT (what % 5).toNat v s (.mk kind s0 n k) a = (.mk kind s0 n (spoilL (what % 5).toNat v s k (a - 1)).1, (spoilL (what % 5).toNat v s k (a - 1)).2)) := by unfold Hid spoilT; rw [if_neg h0]
    have h0' : (a == 0) = false := by rw [beq_eq_false_iff_ne]; exact h0
    have hct : (T.mk kind s0 n k).cnt = cntL k + 1 := by rw [T.cnt]
    rw [hct] at hcnt
    have hkl : k.length ≤ 1000000 := by have := len_cnt k; omega
    have HIH : Hid (∀ t ∈ k, ∀ (a : Int), 0 ≤ a → a ≤ 4611686018427387904 → ∀ (w : World) (x : Value), TIn W0 0 t x → Below W0.heap.size W0 w → Calls Try.prog 55 #[x, .int .i64 a, .int .i64 what, .int .i64 v, .string s] w (SpoilPost W0 w (spoilT (what % 5).toNat v s t a))) := fun t ht => ih t ht (by have := cntL_mem k t ht; omega)
    clear ih hct hcnt
    obtain ⟨ao, cap, rfl, hc1, hc2, hK⟩ := hx
    simp only [T.kind, T.s, T.n, T.k] at hc1 hK ⊢
    have HK := hidIn hK
    have HB0 := hidIn hb
    clear hK hb
    generalize (what % 5).toNat = q at *
    go_enter Try.func55, Try.ntmps55
    go_wp2_with (first
      | (at_builtin; refine wpList_append_kids _ rfl _ _ rfl rfl k ao cap rfl W0 HK.out (HB0.out.trans (Below.mono (below_alloc (below_alloc (Below.refl _ _) _) _) HB0.out.size)) hkl ?_; intro ro c2 R cur w1 hrow)
      | go_in)
    obtain ⟨W, hW⟩ : ∃ W, W = (w.alloc (.cells #[.int .i64 kind, .string s0, .int .i64 n, .slice ao k.length cap] 52)).alloc (.cells #[.int .i64 0, .string ⟨#[]⟩, .int .i64 0, .slice none 0 0] 52) := ⟨_, rfl⟩
    rw [← hW] at hrow
    have HB : Hid (Below w.heap.size w W) := by rw [hW]; exact below_alloc (below_alloc (Below.refl _ _) _) _
    have HPW : Hid (Blk W w.heap.size 52 #[.int .i64 kind, .string s0, .int .i64 n, .slice ao k.length cap]) := by rw [hW]; exact blk_keep (blk_new rfl) _
    have HZW : Hid (Blk W (w.heap.size + 1) 52 zeroT) := by rw [hW]; exact blk_new (by simp)
    have HWS : Hid (W.heap.size = w.heap.size + 2) := by unfold Hid; rw [hW]; simp
    have HROW := hidIn hrow
    clear hW hrow
    go_loopw [45, 1] (fun s45 s1 wr => ∃ (i : Nat) (cr : Array Value), i ≤ k.length ∧ s45 = .int .i64 i ∧ s1 = .int .i64 (spoilL q v s (k.take i) (a - 1)).2 ∧ (k ≠ [] → Blk wr R 52 cr ∧ k.length * 4 ≤ cr.size) ∧ RowIn W0 R wr cr (rowAt q v s k (a - 1) i) ∧ OldIn W0 cr k i ∧ Below W.heap.size W wr) (fun s45 _ _ => k.length - (intOf s45).toNat)
    case atStart => exact ⟨0, cur, by omega, rfl, by rw [List.take_zero, spoilL], fun hn => (HROW.out.at_ hn).2, by have h := HROW.out.row; simpa [rowAt, spoilL] using h, HROW.out.old, HROW.out.below⟩
    case round =>
      obtain ⟨i, cr, hi, rfl, rfl, hblk, hrow, hold, hbr⟩ := hrel
      have HBLK := hidIn hblk
      have HRW := hidIn hrow
      have HOLD := hidIn hold
      have HBR := hidIn hbr
      clear hblk hrow hold hbr
      have hbd := spoilL_bd q v s (k.take i) (a - 1) (by omega)
      by_cases hlt : i < k.length
      · have hlt' : (i : Int) < (k.length : Int) := by omega
        obtain ⟨t, hti⟩ : ∃ t, k[i]? = some t := ⟨_, List.getElem?_eq_getElem hlt⟩
        have hne : k ≠ [] := by intro e; rw [e] at hlt; simp at hlt
        have HNX := hidIn (rowAt_next q v s k (a - 1) i t hti)
        have HGET := hidIn ((rowAt_get q v s k (a - 1) i hlt).trans hti)
        have HM : Hid (t ∈ k) := List.mem_of_getElem? hti
        obtain ⟨hro, _, _⟩ := HROW.out.at_ hne
        subst hro
        obtain ⟨hbk, hsz⟩ := HBLK.out hne
        generalize (spoilL q v s (k.take i) (a - 1)).2 = A at *
        by_cases hA : 0 ≤ A
        · obtain ⟨ka, kc, ⟨d0, d1, d2, d3⟩, htin⟩ := HOLD.out i t (Nat.le_refl _) hti
          have c0 : wr.cell? ⟨R, i * 4, none⟩ = _ := (hbk.cell _).trans d0
          have c1 : wr.cell? ⟨R, i * 4 + 1, none⟩ = _ := (hbk.cell _).trans d1
          have c2' : wr.cell? ⟨R, i * 4 + 2, none⟩ = _ := (hbk.cell _).trans d2
          have c3 : wr.cell? ⟨R, i * 4 + 3, none⟩ = _ := (hbk.cell _).trans d3
          have HTI := hidIn htin
          have HBK := hidIn hbk
          have HSZ := hidIn hsz
          clear htin hti d0 d1 d2 d3 hbk hsz
          go_wp2_with fail
          have HB0W := hidIn (HB0.out.trans ((HB.out.trans (HBR.out.mono HB.out.size)).mono HB0.out.size))
          refine (HIH.out t HM.out A hA (by omega) wr _ HTI.out HB0W.out).mono ?_
          rintro e w2 ⟨kb, kd, rfl, hsp, hb2⟩
          have hbd2 := spoilT_bd q v s t A hA
          generalize spoilT q v s t A = r at *
          obtain ⟨t', A2⟩ := r
          simp only [if_pos hA] at hsp hbd2 HNX ⊢
          have HBK2 : Hid (Blk w2 R 52 cr) := HBK.out.below hb2 HBK.out.lt
          have HOK : Hid (∀ m, m < k.length * 4 → ∃ u, w2.cell? ⟨R, m, none⟩ = some u) := by
            intro m hm
            have := HSZ.out
            exact ⟨cr[m]'(by omega), (HBK2.out.cell m).trans (Array.getElem?_eq_getElem _)⟩
          obtain ⟨u0, c0⟩ := HOK.out (i * 4) (by omega)
          obtain ⟨u1, c1⟩ := HOK.out (i * 4 + 1) (by omega)
          obtain ⟨u2, c2'⟩ := HOK.out (i * 4 + 2) (by omega)
          obtain ⟨u3, c3⟩ := HOK.out (i * 4 + 3) (by omega)
          have f0 := HBK2.out.frozen (i * 4)
          have f1 := HBK2.out.frozen (i * 4 + 1)
          have f2 := HBK2.out.frozen (i * 4 + 2)
          have f3 := HBK2.out.frozen (i * 4 + 3)
          have HB2 := hidIn hb2
          have HSP := hidIn hsp
          have HFIN : Hid ((k ≠ [] → Blk ((((w2.setCell ⟨R, i * 4, none⟩ (.int .i64 t'.kind)).setCell ⟨R, i * 4 + 1, none⟩ (.string t'.s)).setCell ⟨R, i * 4 + 2, none⟩ (.int .i64 t'.n)).setCell ⟨R, i * 4 + 3, none⟩ (.slice kb t'.k.length kd)) R 52 (put4 cr i (.int .i64 t'.kind) (.string t'.s) (.int .i64 t'.n) (.slice kb t'.k.length kd)) ∧ k.length * 4 ≤ (put4 cr i (.int .i64 t'.kind) (.string t'.s) (.int .i64 t'.n) (.slice kb t'.k.length kd)).size) ∧ RowIn W0 R ((((w2.setCell ⟨R, i * 4, none⟩ (.int .i64 t'.kind)).setCell ⟨R, i * 4 + 1, none⟩ (.string t'.s)).setCell ⟨R, i * 4 + 2, none⟩ (.int .i64 t'.n)).setCell ⟨R, i * 4 + 3, none⟩ (.slice kb t'.k.length kd)) (put4 cr i (.int .i64 t'.kind) (.string t'.s) (.int .i64 t'.n) (.slice kb t'.k.length kd)) ((rowAt q v s k (a - 1) i).set i t') ∧ Below W.heap.size W ((((w2.setCell ⟨R, i * 4, none⟩ (.int .i64 t'.kind)).setCell ⟨R, i * 4 + 1, none⟩ (.string t'.s)).setCell ⟨R, i * 4 + 2, none⟩ (.int .i64 t'.n)).setCell ⟨R, i * 4 + 3, none⟩ (.slice kb t'.k.length kd))) := by
            have hbase := HROW.out.base
            have hRW : W0.heap.size ≤ R := by have := HB0.out.size; have := HB.out.size; omega
            refine ⟨fun _ => ⟨blk_put4 HBK2.out i _ _ _ _, by rw [put4_size]; exact HSZ.out⟩, ?_, ?_⟩
            · have h2 : RowIn W0 R w2 cr (rowAt q v s k (a - 1) i) := HRW.out.next (fun b o c _ hc => (HB2.out.cell (p := ⟨b, o, none⟩) (World.block_lt_of_cell? _ _ hc)).trans hc) hRW
              have h3 := h2.put HGET.out (by have := HSZ.out; omega) (HSP.out.low (by have := HBK.out.lt; omega))
              exact h3.next (fun b o c hb hc => (cell_set4 hb).trans hc) hRW
            · have h4 : Below W.heap.size W w2 := HBR.out.trans (HB2.out.mono HBR.out.size)
              exact (((h4.setCell hbase _).setCell hbase _).setCell hbase _).setCell hbase _
          clear hb2 hsp
          unfold four
          go_wp2_with fail
          go_roundw
          case rel => exact ⟨i + 1, _, by omega, by go_num, by rw [HNX.out.2], HFIN.out.1, by rw [HNX.out.1]; exact HFIN.out.2.1, HOLD.out.put _ _ _ _, HFIN.out.2.2⟩
          case measure => simp [intOf]; omega
        · have hA' : A < 0 := by omega
          go_wp2_with fail
          go_roundw
          case rel =>
            have hn := HNX.out
            simp only [if_neg hA] at hn
            exact ⟨i + 1, cr, by omega, by go_num, by rw [hn.2], HBLK.out, by rw [hn.1]; exact HRW.out, fun j t hj ht => HOLD.out j t (by omega) ht, HBR.out⟩
          case measure => simp [intOf]; omega
      · have hle : i = k.length := by omega
        subst hle
        have hLk : rowAt q v s k (a - 1) k.length = (spoilL q v s k (a - 1)).1 := by simp [rowAt]
        rw [List.take_length] at hbd ⊢
        have hlen := spoilL_len q v s k (a - 1)
        have HRW2 : Hid (RowIn W0 R wr cr (spoilL q v s k (a - 1)).1) := by unfold Hid; rw [← hLk]; exact HRW.out
        have HLEN := hidIn hlen
        clear hLk HRW hlen
        generalize spoilL q v s k (a - 1) = r at *
        obtain ⟨L, A⟩ := r
        simp only at hbd HRW2 HLEN HR ⊢
        have hP := HPW.out.below HBR.out HPW.out.lt
        have hZ := HZW.out.below HBR.out HZW.out.lt
        have c0 := hP.cell 0
        have c1 := hP.cell 1
        have c2' := hP.cell 2
        have c3 := hP.cell 3
        have e0 := hP.frozen 0
        have e1 := hP.frozen 1
        have e2 := hP.frozen 2
        have e3 := hP.frozen 3
        obtain ⟨⟨z0, z1, z2, z3⟩, f0, f1, f2, f3⟩ := blk_zero hZ
        have hsz : w.heap.size + 1 ≠ w.heap.size := by omega
        have HZ := hidIn hZ
        clear hP hZ
        go_wp2_with fail
        refine bodyPost_ret (results_cell_slot rfl _ _ (w.heap.size + 1) 52 #[.int .i64 kind, .string s0, .int .i64 n, .slice ro k.length c2] (0, 0) _ rfl ?blk Try.underlying52 rfl infoT) rfl ?post
        case blk => change Blk _ _ _ _; (with_reducible refine blk_set4' ?_ _ _ _ _); (repeat first | with_reducible exact HZ.out | with_reducible refine blk_other ?_ hsz _ _)
        case post =>
          rw [HR.out]
          have hb3 : Below w.heap.size w wr := HB.out.trans (HBR.out.mono HB.out.size)
          refine ⟨ro, c2, ?_, ?_, ?_⟩
          · show _ = Ending.returned (.tuple #[.agg #[.int .i64 kind, .string s0, .int .i64 n, .slice ro L.length c2], .int .i64 A])
            rw [HLEN.out]
            rfl
          · intro X hX
            have hcap := HROW.out.cap
            refine ⟨ro, c2, rfl, by show L.length ≤ c2; rw [HLEN.out]; exact hcap.1, hcap.2, ?_⟩
            have hbase := HROW.out.base
            have hws := HWS.out
            have hold : ∀ b o c, (b < W0.heap.size ∨ R ≤ b) → wr.cell? ⟨b, o, none⟩ = some c → X.cell? ⟨b, o, none⟩ = some c := by
              intro b o c hb hc
              have hW0 := HB0.out.size
              refine hX b o c (by omega) ?_
              rw [World.cell?_setCell_other _ _ _ _ (by intro e; injection e with e; omega), World.cell?_setCell_other _ _ _ _ (by intro e; injection e with e; omega), World.cell?_setCell_other _ _ _ _ (by intro e; injection e with e; omega), World.cell?_setCell_other _ _ _ _ (by intro e; injection e with e; omega), World.cell?_setCell_other _ _ _ _ (by intro e; injection e with e; omega)]
              exact hc
            refine KAt_mk (fun j t hj => ?_)
            have hj' : L[j]? = some t := hj
            have hne : k ≠ [] := by
              intro e
              have h1 := (List.getElem?_eq_some_iff.1 hj').1
              rw [HLEN.out, e] at h1
              simp at h1
            obtain ⟨hro, _, _⟩ := HROW.out.at_ hne
            obtain ⟨hbk, _⟩ := HBLK.out hne
            obtain ⟨ka, kc, ⟨d0, d1, d2, d3⟩, hsp⟩ := HRW2.out j t hj'
            refine ⟨R, 0, hro, ?_⟩
            rw [Nat.zero_add, Nat.zero_add]
            exact TAt_mk (hsp X (fun b o c hb hc => hold b o c (by omega) hc)) (Nat.zero_le _) (hold _ _ _ (.inr (Nat.le_refl _)) ((hbk.cell _).trans d0)) (hold _ _ _ (.inr (Nat.le_refl _)) ((hbk.cell _).trans d1)) (hold _ _ _ (.inr (Nat.le_refl _)) ((hbk.cell _).trans d2)) (hold _ _ _ (.inr (Nat.le_refl _)) ((hbk.cell _).trans d3))
          · (repeat first | with_reducible exact hb3 | with_reducible refine below_set ?_ (by omega) _ _)

end Go.Proofs.Ytdlflpnjmldakaa
namespace Go.Proofs.Ytdlflpnjmldakaa
open Go.RowKit
set_option linter.unusedVariables false

def SpoiltPost (W0 w : World) (t : T) (q : Nat) (v : Int) (s : ByteArray) (e : Ending) (w' : World) : Prop :=
  ∃ a ka kc, e = .returned (.agg (four (spoilT q v s t a).1 ka kc)) ∧ Spread W0 w.heap.size w' (spoilT q v s t a).1 (.agg (four (spoilT q v s t a).1 ka kc)) ∧ Below w.heap.size w w'

set_option maxHeartbeats 2000000 in
set_option maxRecDepth 100000 in
theorem spoilt_any (t : T) (at' what v : Int) (s : ByteArray) (ha1 : -9223372036854775808 ≤ at') (ha2 : at' ≤ 9223372036854775807) (hw1 : -9223372036854775808 ≤ what) (hw2 : what ≤ 9223372036854775807) (hs : s.size ≤ maxLen) (hcnt : t.cnt ≤ 999990) (hn1 : 1 ≤ t.nodes) (hn2 : t.nodes ≤ 1000000) (W0 w : World) (x : Value) (hx : TIn W0 0 t x) (hb : Below W0.heap.size W0 w) :
    Calls Try.prog 31 #[x, .int .i64 at', .int .i64 what, .int .i64 v, .string s] w (SpoiltPost W0 w t (what % 5).toNat v s) := by
  have HB0 := hidIn hb
  clear hb
  have HX := hidIn hx
  obtain ⟨ao, cap, rfl, _, _, _⟩ := hx
  have HCNT := hidIn hcnt
  have HSS := hidIn hs
  clear hs hcnt
  go_enter Try.func31, Try.ntmps31
  go_wp2_with fail
  obtain ⟨W, hW⟩ : ∃ W, W = (w.alloc (.cells #[.int .i64 t.kind, .string t.s, .int .i64 t.n, .slice ao t.k.length cap] 52)).alloc (.cells #[.int .i64 0, .string ⟨#[]⟩, .int .i64 0, .slice none 0 0] 52) := ⟨_, rfl⟩
  have HB : Hid (Below w.heap.size w W) := by rw [hW]; exact below_alloc (below_alloc (Below.refl _ _) _) _
  have HP : Hid (Blk W w.heap.size 52 #[.int .i64 t.kind, .string t.s, .int .i64 t.n, .slice ao t.k.length cap]) := by rw [hW]; exact blk_keep (blk_new rfl) _
  have HZ : Hid (Blk W (w.heap.size + 1) 52 zeroT) := by rw [hW]; exact blk_new (by simp)
  have HWS : Hid (W.heap.size = w.heap.size + 2) := by unfold Hid; rw [hW]; simp
  have HXW := hidIn (HX.out.below (HB0.out.trans (HB.out.mono HB0.out.size)))
  rw [← hW]
  clear hW
  refine (refSize_any t W _ HXW.out hn2).mono ?_
  rintro e w2 ⟨rfl, hb2⟩
  have hP := HP.out.below hb2 HP.out.lt
  have hZ := HZ.out.below hb2 HZ.out.lt
  have c0 := hP.cell 0
  have c1 := hP.cell 1
  have c2 := hP.cell 2
  have c3 := hP.cell 3
  obtain ⟨⟨z0, z1, z2, z3⟩, f0, f1, f2, f3⟩ := blk_zero hZ
  have HB2 := hidIn hb2
  have hn1' : (1 : Int) ≤ (t.nodes : Int) := by omega
  have hn2' : (t.nodes : Int) ≤ 4611686018427387904 := by omega
  have hm0 := Int.emod_nonneg at' (show (t.nodes : Int) ≠ 0 by omega)
  have hm1 := Int.emod_lt_of_pos at' (show 0 < (t.nodes : Int) by omega)
  have hsz2 : w.heap.size + 2 ≤ w2.heap.size := by have := HWS.out; have := hb2.size; omega
  clear hb2 hP hZ
  go_wp2_with fail
  obtain ⟨Y, hY⟩ : ∃ Y, Y = w2.alloc (.cells #[.int .i64 0, .string ⟨#[]⟩, .int .i64 0, .slice none 0 0] 52) := ⟨_, rfl⟩
  have HBY : Hid (Below W.heap.size W Y) := by rw [hY]; exact below_alloc HB2.out _
  have hYZ : Blk Y w2.heap.size 52 zeroT := by rw [hY]; exact blk_new rfl
  have HYZ := hidIn hYZ
  have hYP := HP.out.below HBY.out HP.out.lt
  rw [← hY]
  clear hY c0 c1 c2 c3 z0 z1 z2 z3 f0 f1 f2 f3
  have hYc : ∀ k, k < 4 → ∀ X, X = Y ∨ X = Y.drew → X.cell? ⟨w.heap.size, k, none⟩ = (#[.int .i64 t.kind, .string t.s, .int .i64 t.n, .slice ao t.k.length cap] : Array Value)[k]? := by
    rintro k _ X (rfl | rfl)
    · exact hYP.cell k
    · exact hYP.cell k
  have c0 := hYP.cell 0
  have c1 := hYP.cell 1
  have c2 := hYP.cell 2
  have c3 := hYP.cell 3
  clear hYc hYP hYZ
  have HC : Hid (∀ X, Below Y.heap.size Y X → Calls Try.prog 55 #[.agg #[.int .i64 t.kind, .string t.s, .int .i64 t.n, .slice ao t.k.length cap], .int .i64 (at' % (t.nodes : Int)), .int .i64 what, .int .i64 v, .string s] X (fun e w5 => ∃ ka kc t' A, e = .returned (.tuple #[.agg #[.int .i64 t'.kind, .string t'.s, .int .i64 t'.n, .slice ka t'.k.length kc], .int .i64 A]) ∧ t' = (spoilT (what % 5).toNat v s t (at' % (t.nodes : Int))).1 ∧ Spread W0 Y.heap.size w5 t' (.agg (four t' ka kc)) ∧ Below Y.heap.size Y w5)) := by
    intro X hX
    have hwX : Below W0.heap.size W0 X := HB0.out.trans ((HB.out.trans ((HBY.out.trans (hX.mono HBY.out.size)).mono HB.out.size)).mono HB0.out.size)
    refine (spoil_any what v s hw1 hw2 HSS.out W0 t HCNT.out _ hm0 (by omega) X _ HX.out hwX).mono ?_
    rintro e w5 ⟨ka, kc, rfl, hsp, hb5⟩
    exact ⟨ka, kc, _, _, rfl, rfl, hsp.low hX.size, hX.trans (hb5.mono hX.size)⟩
  have hltY : w.heap.size + 1 < Y.heap.size := by have := HWS.out; have := HBY.out.size; omega
  have hlt2 : w2.heap.size < Y.heap.size := HYZ.out.lt
  have HZY : Hid (Blk Y (w.heap.size + 1) 52 zeroT) := HZ.out.below HBY.out HZ.out.lt
  clear HX HXW HCNT HSS
  have hne : w.heap.size + 1 ≠ w2.heap.size := by have := HWS.out; have := HB2.out.size; omega
  go_region_with (first | (go_at_call 8; refine calls_same (within_any _ _ _ hn1' hn2' ha1 ha2) ?_) | (go_at_call 55; refine (HC.out _ (by first | exact below_drew (Below.refl _ _) | exact Below.refl _ _)).mono ?_; rintro e w5 ⟨ka, kc, t', A, rfl, hteq, hsp, hb5⟩; have hZ5 := HYZ.out.below hb5 HYZ.out.lt; have hR5 := HZY.out.below hb5 HZY.out.lt; obtain ⟨⟨z0, z1, z2, z3⟩, f0, f1, f2, f3⟩ := blk_zero hZ5; obtain ⟨⟨y0, y1, y2, y3⟩, e0, e1, e2, e3⟩ := blk_zero hR5; have HR5 := hidIn hR5; have HSP := hidIn hsp; have HB5 := hidIn hb5; have HTE := hidIn hteq; clear hZ5 hR5 hsp hb5 hteq))
  all_goals
    go_wp2_with fail
    refine bodyPost_ret (results_cell_row rfl _ _ (w.heap.size + 1) 52 #[.int .i64 t'.kind, .string t'.s, .int .i64 t'.n, .slice ka t'.k.length kc] (0, 0) _ rfl ?blk Try.underlying52 rfl infoT) rfl ?post
    case blk => change Blk _ _ _ _; (with_reducible refine blk_set4' ?_ _ _ _ _); (repeat first | with_reducible exact HR5.out | with_reducible refine blk_other ?_ hne _ _)
    case post =>
      have hte := HTE.out
      refine ⟨at' % (t.nodes : Int), ka, kc, ?_, ?_, ?_⟩
      · rw [← hte]; rfl
      · rw [← hte]
        have hW0 := HB0.out.size
        intro X hX
        refine HSP.out X (fun b o c hb hc => hX b o c (by omega) ?_)
        rw [World.cell?_setCell_other _ _ _ _ (by intro e; injection e with e; omega), World.cell?_setCell_other _ _ _ _ (by intro e; injection e with e; omega), World.cell?_setCell_other _ _ _ _ (by intro e; injection e with e; omega), World.cell?_setCell_other _ _ _ _ (by intro e; injection e with e; omega), World.cell?_setCell_other _ _ _ _ (by intro e; injection e with e; omega), World.cell?_setCell_other _ _ _ _ (by intro e; injection e with e; omega), World.cell?_setCell_other _ _ _ _ (by intro e; injection e with e; omega), World.cell?_setCell_other _ _ _ _ (by intro e; injection e with e; omega)]
        exact hc
      · have hb3 : Below w.heap.size w w5 := HB.out.trans ((HBY.out.trans (HB5.out.mono HBY.out.size)).mono HB.out.size)
        (repeat first | with_reducible exact hb3 | with_reducible refine below_set ?_ (by omega) _ _)

end Go.Proofs.Ytdlflpnjmldakaa
namespace Go.Proofs.Ytdlflpnjmldakaa
open Go.ChangeShapes Go.WideShapes Go.ChangeAt Go.RowKit
set_option linter.unusedVariables false

def planV (p : Pl) : Value := .agg #[.slice p.na p.nl p.nc, .slice p.wa p.wl p.wc]
theorem cellsPlan : Try.prog.cellsOf 49 = 2 := by kernel_rfl
theorem plan_int_bd {n : Int} (h : (Lit.int .i64 n).wf = true) : -9223372036854775808 ≤ n ∧ n ≤ 9223372036854775807 := by
  have := bounds_i64 h
  omega
theorem plan_getD {α : Type} (l : List α) (i : Nat) (d : α) (h : i < l.length) : l.getD i d ∈ l := by
  rw [List.getD, List.getElem?_eq_getElem h]; exact List.getElem_mem h
theorem plan_cell_lt {w : World} {b o : Nat} {v : Value} (h : w.cell? ⟨b, o, none⟩ = some v) : b < w.heap.size := World.block_lt_of_cell? w _ h
theorem plan_at {w : World} {a : Addr} {i : Nat} {v v0 : Value} (h0 : w.cell? (a.add 0) = some v0) (h : w.cell? (a.add i) = some v) : ∃ b off, a = ⟨b, off, none⟩ ∧ w.cell? ⟨b, off + i, none⟩ = some v := by
  obtain ⟨b, off, spot⟩ := a
  have hspot : spot = none := by simpa [Addr.add] using World.cell?_spot h0
  subst hspot
  rw [Go.WideShapes.add_plain] at h
  exact ⟨b, off, rfl, h⟩
theorem ints_open {H : Type} {enc : TypeId × Value → H} {W : World} {x : Value} {n : Nat} {y : DataW H × List MemPlace} (hf : DataW.trod enc Try.prog W 0 (fun _ => true) true n 47 [x] = some y) : ∃ a l c f, x = .slice a l c ∧ HasInts W a l f ∧ l ≤ 9223372036854775807 := by
  rcases open_ints Try.underlying47 Try.underlying3 (by kernel_rfl) hf with ⟨hcs, _⟩ | ⟨x, l, c, ss, hcs, _, hl, hm, hz, _, hcell, hws⟩
  · simp at hcs
    exact ⟨none, 0, 0, fun _ => 0, hcs, fun i hi => absurd hi (by omega), by omega⟩
  · simp at hcs
    have hsl : ss.length = c := by simpa using hz
    refine ⟨some x, l, c, fun i => ss.getD i 0, hcs, ?_, by unfold maxLen at hm; omega⟩
    intro i hi
    have h1 := hcell i (by omega)
    obtain ⟨b, off, rfl, h2⟩ := plan_at (hcell 0 (by omega)) h1
    have h3 := plan_int_bd (hws _ (plan_getD ss i 0 (by omega)))
    exact ⟨b, off, rfl, plan_cell_lt h2, h2, h3.1, h3.2⟩
theorem strs_open {H : Type} {enc : TypeId × Value → H} {W : World} {x : Value} {n : Nat} {y : DataW H × List MemPlace} (hf : DataW.trod enc Try.prog W 0 (fun _ => true) true n 42 [x] = some y) : ∃ a l c f, x = .slice a l c ∧ HasStrs W a l f ∧ l ≤ 9223372036854775807 := by
  rcases open_strings Try.underlying42 Try.underlying9 (by kernel_rfl) hf with ⟨hcs, _⟩ | ⟨x, l, c, ss, hcs, _, hl, hm, hz, _, hcell, hws⟩
  · simp at hcs
    exact ⟨none, 0, 0, fun _ => ByteArray.empty, hcs, fun i hi => absurd hi (by omega), by omega⟩
  · simp at hcs
    have hsl : ss.length = c := by simpa using hz
    refine ⟨some x, l, c, fun i => ss.getD i ByteArray.empty, hcs, ?_, by unfold maxLen at hm; omega⟩
    intro i hi
    have h1 := hcell i (by omega)
    obtain ⟨b, off, rfl, h2⟩ := plan_at (hcell 0 (by omega)) h1
    exact ⟨b, off, rfl, plan_cell_lt h2, h2, hws _ (plan_getD ss i ByteArray.empty (by omega))⟩
set_option maxRecDepth 100000 in
theorem plan_open {H : Type} {enc : TypeId × Value → H} {W : World} {b0 : Nat} {v : Value} {d : DataW H} {ps : List MemPlace} (hv : Value.okWide Try.prog W .any b0 49 v) (h : DataW.Trod enc Try.prog W 0 (fun _ => true) true 49 v d ps) : ∃ p : Pl, v = planV p ∧ PlanIn W p := by
  obtain ⟨c0, c1, y0, y1, m, rfl, _, _, hy0, hy1⟩ := Go.Joins.open_agg2 Try.underlying49 (by kernel_rfl) cellsPlan hv h
  obtain ⟨a, l, c, f, rfl, h1, h2⟩ := ints_open hy0
  obtain ⟨a', l', c', f', rfl, h3, h4⟩ := strs_open hy1
  exact ⟨⟨a, l, c, f, a', l', c', f'⟩, rfl, h1, h3, h2, h4⟩

end Go.Proofs.Ytdlflpnjmldakaa
namespace Go.Proofs.Ytdlflpnjmldakaa
open Go.RowKit
set_option linter.unusedVariables false

def O.whole : O → Prop
  | .const n => -9223372036854775808 ≤ n ∧ n ≤ 9223372036854775807
  | .fix s => s.size ≤ 2147483648
  | .add l r => l.whole ∧ r.whole
  | .neg o => o.whole
  | .mul l r => l.whole ∧ r.whole
  | .max l r => l.whole ∧ r.whole
  | .odd _ => False
theorem whole_ok (o : O) (h : o.whole) : o.Ok := by
  induction o with
  | const n => exact h
  | fix s => exact h
  | add l r h1 h2 => exact ⟨h1 h.1, h2 h.2⟩
  | neg o h1 => exact h1 h
  | mul l r h1 h2 => exact ⟨h1 h.1, h2 h.2⟩
  | max l r h1 h2 => exact ⟨h1 h.1, h2 h.2⟩
  | odd v => exact absurd h id
theorem whole_same (o : O) (h : o.whole) : sameO o o = true := by
  induction o with
  | const n => simp [sameO]
  | fix s => simp [sameO]
  | add l r h1 h2 => simp [sameO, h1 h.1, h2 h.2]
  | neg o h1 => simp [sameO, h1 h]
  | mul l r h1 h2 => simp [sameO, h1 h.1, h2 h.2]
  | max l r h1 h2 => simp [sameO, h1 h.1, h2 h.2]
  | odd v => exact absurd h id
theorem whole_kind (o : O) (h : o.whole) : o.kind ≠ 0 := by
  cases o <;> simp [O.kind]
  exact h
theorem whole_solid (o : O) (h : o.whole) : ∃ t x, o.val = .iface t x := by
  cases o <;> first | exact ⟨_, _, rfl⟩ | exact absurd h id
theorem shaped_plain (o : O) (h : o.Ok) : (plain o).Shaped := by
  induction o with
  | const n => simp only [plain, T.Shaped, ShapedL]; exact ⟨by simp, by simp, by simp, h.1, h.2, by decide, trivial⟩
  | fix s => simp only [plain, T.Shaped, ShapedL]; exact ⟨by simp, by simp, by simp, by decide, by decide, h, trivial⟩
  | odd v => simp only [plain, T.Shaped, ShapedL]; exact ⟨by simp, by simp, by simp, by decide, by decide, by decide, trivial⟩
  | neg o h1 => simp only [plain, T.Shaped, ShapedL]; exact ⟨by simp, by simp, by simp, by decide, by decide, by decide, h1 h, trivial⟩
  | add l r h1 h2 => simp only [plain, T.Shaped, ShapedL]; exact ⟨by simp, by simp, by simp, by decide, by decide, by decide, h1 h.1, h2 h.2, trivial⟩
  | mul l r h1 h2 => simp only [plain, T.Shaped, ShapedL]; exact ⟨by simp, by simp, by simp, by decide, by decide, by decide, h1 h.1, h2 h.2, trivial⟩
  | max l r h1 h2 => simp only [plain, T.Shaped, ShapedL]; exact ⟨by simp, by simp, by simp, by decide, by decide, by decide, h1 h.1, h2 h.2, trivial⟩
theorem obsOf_whole (o : O) (h : o.whole) : obsOf (plain o) = o := by
  induction o with
  | const n => simp [plain, obsOf]
  | fix s => simp [plain, obsOf]
  | add l r h1 h2 => simp [plain, obsOf, obsL, h1 h.1, h2 h.2]
  | neg o h1 => simp [plain, obsOf, obsL, h1 h]
  | mul l r h1 h2 => simp [plain, obsOf, obsL, h1 h.1, h2 h.2]
  | max l r h1 h2 => simp [plain, obsOf, obsL, h1 h.1, h2 h.2]
  | odd v => exact absurd h id
theorem tab_bd (k : Nat) : -9223372036854775808 ≤ tabN k ∧ tabN k ≤ 9223372036854775807 := by
  unfold tabN tabL
  by_cases h : k < 10
  · have : k = 0 ∨ k = 1 ∨ k = 2 ∨ k = 3 ∨ k = 4 ∨ k = 5 ∨ k = 6 ∨ k = 7 ∨ k = 8 ∨ k = 9 := by omega
    rcases this with rfl | rfl | rfl | rfl | rfl | rfl | rfl | rfl | rfl | rfl <;> decide
  · rw [List.getD, List.getElem?_eq_none (by simp; omega)]; decide
theorem numO_whole (p : Pl) : ∀ d i left, (numO p d i left).1.whole ∧ (numO p d i left).1.nodes + 1 ≤ 2 ^ (d + 1) ∧ (numO p d i left).1.depth ≤ d + 1 := by
  intro d
  induction d with
  | zero =>
    intro i left
    unfold numO
    split
    · exact ⟨tab_bd _, by simp [O.nodes], by simp [O.depth]⟩
    · exact ⟨by show (wordOf p (i + 1)).size ≤ _; have := wordOf_size p (i + 1); omega, by simp [O.nodes], by simp [O.depth]⟩
  | succ d ih =>
    intro i left
    have h1 := ih (i + 1) (left - 1)
    have h2 := ih (numO p d (i + 1) (left - 1)).2.1 (numO p d (i + 1) (left - 1)).2.2
    have hp : 2 ^ (d + 1 + 1) = 2 * 2 ^ (d + 1) := by rw [Nat.pow_succ]; omega
    have hp1 : 2 ≤ 2 ^ (d + 1) := by
      have := Nat.one_le_two_pow (n := d)
      rw [Nat.pow_succ]; omega
    unfold numO
    split
    · exact ⟨tab_bd _, by simp only [O.nodes]; omega, by simp [O.depth]⟩
    · split
      · exact ⟨by show (wordOf p (i + 1)).size ≤ _; have := wordOf_size p (i + 1); omega, by simp only [O.nodes]; omega, by simp [O.depth]⟩
      · split
        · exact ⟨h1.1, by simp only [O.nodes]; omega, by simp only [O.depth]; omega⟩
        · simp only
          split
          · exact ⟨⟨h1.1, h2.1⟩, by simp only [O.nodes]; omega, by simp only [O.depth]; omega⟩
          · split
            · exact ⟨⟨h1.1, h2.1⟩, by simp only [O.nodes]; omega, by simp only [O.depth]; omega⟩
            · exact ⟨⟨h1.1, h2.1⟩, by simp only [O.nodes]; omega, by simp only [O.depth]; omega⟩
/-- The number of a plan. -/
def numP (p : Pl) : O := (numO p 4 0 16).1
theorem numP_whole (p : Pl) : (numP p).whole := (numO_whole p 4 0 16).1
theorem numP_nodes (p : Pl) : (numP p).nodes ≤ 31 := by have := (numO_whole p 4 0 16).2.1; simp at this; unfold numP; omega
/-- What is known of the call that makes a plan's number. -/
def MakesP (p : Pl) : Prop := ∀ w : World, PlanIn w p → Calls Try.prog 21 #[planV p] w fun e w' => ∃ v, e = .returned v ∧ TIn w' w.heap.size (plain (numP p)) v ∧ Below w.heap.size w w'
/-- The number of the tree of a whole number. -/
theorem obsP_any (o : O) (h : o.whole) (w : World) (v : Value) (B : Nat) (ht : TIn w B (plain o) v) : Calls Try.prog 20 #[v] w fun e w' => e = .returned o.val ∧ Below w.heap.size w w' := by
  have := obsT_any (plain o) (shaped_plain o (whole_ok o h)) w v (ht.low (Nat.zero_le _))
  rw [obsOf_whole o h] at this
  exact this

end Go.Proofs.Ytdlflpnjmldakaa
namespace Go.Proofs.Ytdlflpnjmldakaa
open Go.RowKit
set_option linter.unusedVariables false

theorem kOf_lt (p : Pl) (d i : Nat) (left : Int) : kOf p d i left < 9 := by
  unfold kOf
  split <;> omega
theorem kOf_zero (p : Pl) (i : Nat) (left : Int) : kOf p 0 i left ≤ 2 := by
  unfold kOf
  rw [if_pos (.inl rfl)]
  omega
/-- How far a number goes. -/
def reach : Nat → Nat
  | 0 => 2
  | d + 1 => 2 * reach d + 1
theorem reach_pos : ∀ d, 2 ≤ reach d
  | 0 => Nat.le_refl _
  | d + 1 => by have := reach_pos d; simp only [reach]; omega
theorem numO_reach (p : Pl) : ∀ d i left, (numO p d i left).2.1 ≤ i + reach d ∧ left - reach d ≤ (numO p d i left).2.2 ∧ (numO p d i left).2.2 ≤ left := by
  intro d
  induction d with
  | zero =>
    intro i left
    unfold numO
    split <;> simp [reach] <;> omega
  | succ d ih =>
    intro i left
    have hr := reach_pos d
    have h1 := ih (i + 1) (left - 1)
    have h2 := ih (numO p d (i + 1) (left - 1)).2.1 (numO p d (i + 1) (left - 1)).2.2
    unfold numO
    simp only [reach]
    split
    · simp only; omega
    · split
      · simp only; omega
      · split
        · simp only; omega
        · simp only; omega

theorem mobs_any (w0 : World) (M : Nat) (p : Pl) (label : Int) : ∀ d, d ≤ 10 → Less w0 M p label d (900000 - reach d) := by
  intro d
  induction d with
  | zero =>
    intro _ w i left h hi hl1 hl2
    have hk := kOf_zero p i left
    simp only [reach] at hi hl1
    exact mobs_leaf w0 w M p 0 i left label h (by omega) (by omega) (by omega) hl2 (by omega) _ rfl
  | succ d ih =>
    intro hd w i left h hi hl1 hl2
    have hr := reach_pos d
    have hr2 : reach d ≤ 10000 := by
      have : d = 0 ∨ d = 1 ∨ d = 2 ∨ d = 3 ∨ d = 4 ∨ d = 5 ∨ d = 6 ∨ d = 7 ∨ d = 8 ∨ d = 9 := by omega
      rcases this with rfl | rfl | rfl | rfl | rfl | rfl | rfl | rfl | rfl | rfl <;> decide
    have ih' := ih (by omega)
    simp only [reach] at hi hl1
    have hk := kOf_lt p (d + 1) i left
    have hn := numO_reach p d (i + 1) (left - 1)
    have hn2 := numO_reach p d (numO p d (i + 1) (left - 1)).2.1 (numO p d (i + 1) (left - 1)).2.2
    by_cases h4 : kOf p (d + 1) i left ≤ 4
    · have := mobs_leaf w0 w M p (d + 1) i left label h (by omega) (by omega) (by omega) hl2 h4 _ rfl
      have e : numO p (d + 1) i left = if kOf p (d + 1) i left ≤ 1 then (O.const (tabN (nth p (i + 1) % 10).toNat), i + 2, left - 1) else (O.fix (wordOf p (i + 1)), i + 2, left - 1) := by
        rw [numO]
        split
        · rfl
        · first | rw [if_pos h4] | rfl
      rw [e]
      exact this
    · by_cases h5 : kOf p (d + 1) i left = 5
      · have e : numO p (d + 1) i left = (.neg (numO p d (i + 1) (left - 1)).1, (numO p d (i + 1) (left - 1)).2) := by
          rw [numO, if_neg (by omega), if_neg h4, if_pos h5]
        exact mobs_neg w0 w M p d i left label (900000 - reach d) ih' h (by omega) (by omega) (by omega) (by omega) hl2 h5 _ e
      · obtain ⟨j, hj⟩ : ∃ j, kOf p (d + 1) i left = j + 6 := ⟨kOf p (d + 1) i left - 6, by omega⟩
        have hj3 : j < 3 := by omega
        refine mobs_bin w0 w M p d i left label (900000 - reach d) 0 ih' h (by omega) (by omega) (by omega) (by omega) hl2 j hj3 hj (numO p d (i + 1) (left - 1)).1 (numO p d (numO p d (i + 1) (left - 1)).2.1 (numO p d (i + 1) (left - 1)).2.2).1 (numO p d (i + 1) (left - 1)).2.1 (numO p d (numO p d (i + 1) (left - 1)).2.1 (numO p d (i + 1) (left - 1)).2.2).2.1 (numO p d (i + 1) (left - 1)).2.2 (numO p d (numO p d (i + 1) (left - 1)).2.1 (numO p d (i + 1) (left - 1)).2.2).2.2 rfl rfl (by omega) (by omega) (by omega) _ ?_
        rw [numO, if_neg (by omega), if_neg h4, if_neg h5, hj]
        have : j = 0 ∨ j = 1 ∨ j = 2 := by omega
        rcases this with rfl | rfl | rfl <;> exact ⟨rfl, rfl⟩

set_option maxHeartbeats 1000000 in
set_option maxRecDepth 100000 in
theorem number_any (p : Pl) : MakesP p := by
  intro w h
  unfold planV
  have HP : Hid (PlanIn w p) := h
  clear h
  go_enter Try.func21, Try.ntmps21
  go_wp2_with fail
  obtain ⟨W, hW⟩ : ∃ W, W = ((w.alloc (.cells #[.slice p.na p.nl p.nc, .slice p.wa p.wl p.wc] 49)).alloc (.cells #[.int .i64 0, .string ⟨#[]⟩, .int .i64 0, .slice none 0 0] 52)).alloc (.cells #[.slice p.na p.nl p.nc, .slice p.wa p.wl p.wc, .int .i64 0, .int .i64 16, .int .i64 0] 95) := ⟨_, rfl⟩
  have hWs : W.heap.size = w.heap.size + 3 := by rw [hW]; simp
  have HB : Hid (Below w.heap.size w W) := by rw [hW]; exact below_alloc (below_alloc (below_alloc (Below.refl _ _) _) _) _
  have HMI : Hid (MIn w W (w.heap.size + 1 + 1) p 0 16 0) := by
    refine ⟨HP.out, by omega, HB.out, ?_⟩
    rw [hW]
    exact blk_new (by simp)
  have HZ : Hid (Blk W (w.heap.size + 1) 52 zeroT) := by
    rw [hW]
    exact (Below.heap_alloc _ _ _ (by simp)).trans (blk_new (by simp))
  rw [← hW]
  clear hW
  have HC := mobs_any w (w.heap.size + 1 + 1) p 0 4 (by omega) W 0 16 HMI.out (by omega) (by have : reach 4 = 47 := rfl; rw [this]; decide) (by omega)
  refine HC.mono ?_
  rintro e w5 ⟨v, rfl, ht5, hm5, hg5⟩
  clear HC
  have ht5' := ht5
  obtain ⟨la, lc, rfl, _, _, _⟩ := ht5'
  have HZ5 : Hid (Blk w5 (w.heap.size + 1) 52 zeroT) := HZ.out.grew hg5 (by omega)
  obtain ⟨⟨z0, z1, z2, z3⟩, f0, f1, f2, f3⟩ := blk_zero HZ5.out
  have HB5 : Hid (Below w.heap.size w w5) := HB.out.trans (hg5.below (by omega) (by omega) (fun k hk => by cases hk))
  have HT5 : Hid (TIn w5 W.heap.size (plain (numP p)) (.agg #[.int .i64 (plain (numP p)).kind, .string (plain (numP p)).s, .int .i64 (plain (numP p)).n, .slice la (plain (numP p)).k.length lc])) := ht5
  have HWS : Hid (W.heap.size = w.heap.size + 3) := hWs
  clear ht5 hm5 hg5 HZ HMI hWs HB
  rw [show (numO p 4 0 16).1 = numP p from rfl]
  go_wp2_with fail
  refine bodyPost_ret (results_cell_row rfl _ _ (w.heap.size + 1) 52 #[.int .i64 (plain (numP p)).kind, .string (plain (numP p)).s, .int .i64 (plain (numP p)).n, .slice la (plain (numP p)).k.length lc] (0, 0) _ rfl (set4_blk HZ5.out _ _ _ _) Try.underlying52 rfl infoT) rfl ?_
  have hs := HWS.out
  refine ⟨_, rfl, (HT5.out.set4 (R := w.heap.size + 1) (by omega) _ _ _ _).low (by omega), ?_⟩
  exact (((HB5.out.setCell (Nat.le_succ _) _).setCell (Nat.le_succ _) _).setCell (Nat.le_succ _) _).setCell (Nat.le_succ _) _

end Go.Proofs.Ytdlflpnjmldakaa
namespace Go.Proofs.Ytdlflpnjmldakaa
open Go.RowKit
set_option linter.unusedVariables false

def SomePost (w : World) (e : Ending) (w' : World) : Prop :=
  ∃ (o : O) (ka : Option Addr) (kc : Nat), e = .returned (.tuple #[o.val, .agg #[.int .i64 (plain o).kind, .string (plain o).s, .int .i64 (plain o).n, .slice ka (plain o).k.length kc]]) ∧ o.Ok ∧ o.nodes ≤ 1000 ∧ TIn w' w.heap.size (plain o) (.agg (four (plain o) ka kc)) ∧ Below w.heap.size w w'
theorem tdiv_in (a b : Int) (hb : 2 ≤ b) (h1 : -9223372036854775808 ≤ a) (h2 : a ≤ 9223372036854775807) : -9223372036854775808 ≤ a.tdiv b ∧ a.tdiv b ≤ 9223372036854775807 := by
  by_cases h : 0 ≤ a
  · have h3 := Int.tdiv_nonneg h (by omega : 0 ≤ b)
    have h4 : a.tdiv b ≤ a := Int.tdiv_le_self b h
    omega
  · have h3 := Int.tdiv_nonneg (by omega : 0 ≤ -a) (by omega : 0 ≤ b)
    have h4 : (-a).tdiv b ≤ -a := Int.tdiv_le_self b (by omega)
    rw [Int.neg_tdiv] at h3 h4
    omega
/-- A slot, and a struct's cell, as results. -/
theorem results_slot_cell {P : Program} {fn : Func} {p q : Tmp} {ty : TypeId} (h : fn.results = #[.tmp q, .cell p ty]) (tmps : Array Value) (w : World) (g : Nat) (t : TypeId) (cs : Array Value) (fr : Nat × Nat) (d : TypeDesc)
    (hp : tmps.getD p undef = .pointer (some ⟨g, 0, none⟩)) (hg : w.heap[g]? = some (.cells cs t fr))
    (hu : P.underlying ty = some d) (hd : (match d with | .struct _ | .array _ _ => true | _ => false) = true) (hi : (P.info? ty).map (·.size) = some cs.size) :
    (results fn tmps).run P w = .ok (.tuple #[tmps.getD q undef, .agg cs]) w := by
  have hp' : tmps[p]?.getD undef = .pointer (some ⟨g, 0, none⟩) := by simpa using hp
  simp [results, h, hp', asAddr, run_loadVar_row w g t ty cs fr d hg hu hd hi]

set_option maxHeartbeats 4000000 in
set_option maxRecDepth 100000 in
theorem some4_any (p : Pl) (at' what v : Int) (s : ByteArray) (odd : Int) (w : World) (hp : PlanIn w p) (ha1 : -9223372036854775808 ≤ at') (ha2 : at' ≤ 9223372036854775807) (hw1 : -9223372036854775808 ≤ what) (hw2 : what ≤ 9223372036854775807) (hv1 : -9223372036854775808 ≤ v) (hv2 : v ≤ 9223372036854775807) (hs : s.size ≤ maxLen) (ho1 : -9223372036854775808 ≤ odd) (ho2 : odd ≤ 9223372036854775807) :
    Calls Try.prog 14 #[planV p, .int .i64 at', .int .i64 what, .int .i64 v, .string s, .int .i64 odd] w (SomePost w) := by
  unfold planV
  have HP := hidIn hp
  have HSS := hidIn hs
  clear hp hs
  go_enter Try.func14, Try.ntmps14
  go_wp2_with fail
  obtain ⟨W, hW⟩ : ∃ W, W = (w.alloc (.cells #[.slice p.na p.nl p.nc, .slice p.wa p.wl p.wc] 49)).alloc (.cells #[.int .i64 0, .string ⟨#[]⟩, .int .i64 0, .slice none 0 0] 52) := ⟨_, rfl⟩
  have HB : Hid (Below w.heap.size w W) := by rw [hW]; exact below_alloc (below_alloc (Below.refl _ _) _) _
  have HZ : Hid (Blk W (w.heap.size + 1) 52 zeroT) := by rw [hW]; exact blk_new (by simp)
  have HWS : Hid (W.heap.size = w.heap.size + 2) := by unfold Hid; rw [hW]; simp
  have HPW := hidIn (HP.out.below HB.out)
  rw [← hW]
  clear hW HP
  refine (number_any p W HPW.out).mono ?_
  rintro e w1 ⟨v1, rfl, ht1, hb1⟩
  have ht1' := ht1
  obtain ⟨ka, kc, rfl, _, _, _⟩ := ht1'
  have HSH := hidIn (shaped_plain _ (whole_ok _ (numP_whole p)))
  have HCN : Hid ((plain (numP p)).cnt ≤ 70) := by have h1 := plain_cnt (numP p); have h2 := numP_nodes p; show _ ≤ _; omega
  have HND : Hid (1 ≤ (plain (numP p)).nodes ∧ (plain (numP p)).nodes ≤ 31) := by
    rw [plain_nodes]
    have h2 := numP_nodes p
    refine ⟨?_, h2⟩
    have := numP_whole p
    cases h : numP p <;> simp [O.nodes]
    rw [h] at this
    exact this
  have HT1 := hidIn ht1
  have HB1 := hidIn hb1
  clear ht1 hb1
  generalize plain (numP p) = t at *
  by_cases hwt : what.tmod 4 = 0
  · have hwt' : (what.tmod 4 == 0) = true := by rw [hwt]; rfl
    have hdq : -9223372036854775808 ≤ what.tdiv 4 ∧ what.tdiv 4 ≤ 9223372036854775807 := tdiv_in what 4 (by omega) hw1 hw2
    have hwq : IntKind.i64.wrap (what.tdiv 4) = what.tdiv 4 := wrap_small _ hdq.1 hdq.2
    go_wp2_with fail
    obtain ⟨Y, hY⟩ : ∃ Y, Y = w1.alloc (.cells #[.int .i64 t.kind, .string t.s, .int .i64 t.n, .slice ka t.k.length kc] 52) := ⟨_, rfl⟩
    have HBY1 : Hid (Below w1.heap.size w1 Y) := by rw [hY]; exact below_alloc (Below.refl _ _) _
    have HYS : Hid (Y.heap.size = w1.heap.size + 1) := by unfold Hid; rw [hY]; simp
    have HY14 : Hid (Blk Y w1.heap.size 52 #[.int .i64 t.kind, .string t.s, .int .i64 t.n, .slice ka t.k.length kc]) := by rw [hY]; exact blk_new rfl
    rw [← hY]
    clear hY
    refine (spoilt_any t at' _ v s ha1 ha2 hdq.1 hdq.2 HSS.out (by have := HCN.out; omega) HND.out.1 (by have := HND.out.2; omega) w1 Y _ (HT1.out.low (Nat.zero_le _)) HBY1.out).mono ?_
    rintro e w2 ⟨a, kb, kd, rfl, hsp, hb2⟩
    have HSH2 := hidIn (spoil_shaped (what.tdiv 4 % 5).toNat v s ⟨hv1, hv2⟩ t HSH.out a)
    have HCN2 : Hid ((spoilT (what.tdiv 4 % 5).toNat v s t a).1.cnt ≤ 70) := Nat.le_trans (spoil_cnt _ v s t a) HCN.out
    generalize (spoilT (what.tdiv 4 % 5).toNat v s t a).1 = t2 at *
    have hk2 := HY14.out.below hb2 HY14.out.lt
    obtain ⟨c0, c1, c2, c3⟩ : w2.cell? ⟨w1.heap.size, 0, none⟩ = some (.int .i64 t.kind) ∧ w2.cell? ⟨w1.heap.size, 1, none⟩ = some (.string t.s) ∧ w2.cell? ⟨w1.heap.size, 2, none⟩ = some (.int .i64 t.n) ∧ w2.cell? ⟨w1.heap.size, 3, none⟩ = some (.slice ka t.k.length kc) := ⟨hk2.cell 0, hk2.cell 1, hk2.cell 2, hk2.cell 3⟩
    have f0 := hk2.frozen 0
    have f1 := hk2.frozen 1
    have f2 := hk2.frozen 2
    have f3 := hk2.frozen 3
    have HTX : Hid (TIn ((((w2.setCell ⟨w1.heap.size, 0, none⟩ (.int .i64 t2.kind)).setCell ⟨w1.heap.size, 1, none⟩ (.string t2.s)).setCell ⟨w1.heap.size, 2, none⟩ (.int .i64 t2.n)).setCell ⟨w1.heap.size, 3, none⟩ (.slice kb t2.k.length kd)) 0 t2 (.agg (four t2 kb kd))) := hsp _ (fun b o c hb hc => by have := HYS.out; rw [set4_cell' (by omega)]; exact hc)
    have HBX : Hid (Below W.heap.size W ((((w2.setCell ⟨w1.heap.size, 0, none⟩ (.int .i64 t2.kind)).setCell ⟨w1.heap.size, 1, none⟩ (.string t2.s)).setCell ⟨w1.heap.size, 2, none⟩ (.int .i64 t2.n)).setCell ⟨w1.heap.size, 3, none⟩ (.slice kb t2.k.length kd))) := by
      have h1 : Below W.heap.size W w2 := HB1.out.trans ((HBY1.out.trans (hb2.mono HBY1.out.size)).mono HB1.out.size)
      have hs := HB1.out.size
      exact (((h1.setCell hs _).setCell hs _).setCell hs _).setCell hs _
    clear hsp hb2 hk2
    unfold four
    go_wp2_with fail
    refine (obsT_any t2 HSH2.out _ _ HTX.out).mono ?_
    rintro e w3 ⟨rfl, hb3⟩
    have HB3 : Hid (Below W.heap.size W w3) := HBX.out.trans (hb3.mono HBX.out.size)
    have HO0 := hidIn (obsOf_ok t2 HSH2.out)
    have HN0 : Hid ((obsOf t2).nodes ≤ 70) := by have h1 := obsOf_nodes t2; have h2 := HCN2.out; show _ ≤ _; omega
    clear hb3
    generalize obsOf t2 = o0 at *
    by_cases hodd : odd.tmod 9 = 8
    · have hodd' : (odd.tmod 9 == 8) = true := by rw [hodd]; rfl
      have hdv : -9223372036854775808 ≤ odd.tdiv 9 ∧ odd.tdiv 9 ≤ 9223372036854775807 := tdiv_in odd 9 (by omega) ho1 ho2
      have hwr : IntKind.i64.wrap (odd.tdiv 9) = odd.tdiv 9 := wrap_small _ hdv.1 hdv.2
      have q0 := o0.one' HO0.out
      have cv0 := q0.cells
      have mv0 := q0.cells
      unfold Value.cells at mv0
      go_wp2_with fail
      refine (odd_any _ w3 hdv.1 hdv.2).mono ?_
      rintro e w5 ⟨o5, rfl, hok5, h51, hb5⟩
      obtain ⟨o, ho⟩ : ∃ o, o = O.add o0 o5 := ⟨_, rfl⟩
      have HOK : Hid o.Ok := by rw [ho]; exact ⟨HO0.out, hok5⟩
      have HON : Hid (o.nodes ≤ 1000) := by
        rw [ho]
        have h1 := HN0.out
        rcases h51 with rfl | ⟨v, rfl⟩
        · simp only [O.nodes]; show _ ≤ _; omega
        · simp only [O.nodes]; show _ ≤ _; omega
      have HOV : Hid (o.val = .iface 34 (.agg #[o0.val, o5.val])) := by rw [ho]; rfl
      have HB3' : Hid (Below W.heap.size W w5) := HB3.out.trans (hb5.mono HB3.out.size)
      clear HB3
      have HB3 := HB3'
      have q5 := o5.one' hok5
      have cv5 := q5.cells
      have mv5 := q5.cells
      unfold Value.cells at mv5
      clear hb5 hok5 h51 ho q5 q0
      go_wp2_with fail
      rw [← HOV.out]
      refine (plainO_any o HOK.out _).mono ?_
      rintro e w4 ⟨la, lc, rfl, ht4, hb4⟩
      have HT4 := hidIn ht4
      have hb4' : Below W.heap.size W w4 := HB3.out.trans (hb4.mono HB3.out.size)
      have hZ4 := HZ.out.below hb4' HZ.out.lt
      obtain ⟨⟨z0, z1, z2, z3⟩, f0, f1, f2, f3⟩ := blk_zero hZ4
      have HZ4 := hidIn hZ4
      have HB4 := hidIn hb4'
      have HS3 := hidIn HB3.out.size
      clear ht4 hb4 hb4' hZ4
      go_wp2_with fail
      refine bodyPost_ret (results_slot_cell rfl _ _ (w.heap.size + 1) 52 (four (plain o) la lc) (0, 0) _ rfl ?blk Try.underlying52 rfl infoT) rfl ?post
      case blk => change Blk _ _ _ _; unfold four; (with_reducible exact blk_set4' HZ4.out _ _ _ _)
      case post =>
        have hWS := HWS.out
        have hs3 := HS3.out
        have hbw : Below w.heap.size w w4 := HB.out.trans (HB4.out.mono HB.out.size)
        refine ⟨o, la, lc, rfl, HOK.out, HON.out, ?_, ?_⟩
        · refine HT4.out.kept (by omega) (fun k x c hk hc => ?_)
          rw [set4_cell' (by omega)]
          exact hc
        · (repeat first | with_reducible exact hbw | with_reducible refine below_set ?_ (by omega) _ _)
    · have hodd' : (odd.tmod 9 == 8) = false := by rw [beq_eq_false_iff_ne]; exact hodd
      obtain ⟨o, ho⟩ : ∃ o, o = o0 := ⟨_, rfl⟩
      subst ho
      have HOK := HO0
      have HON : Hid (o.nodes ≤ 1000) := by have h1 := HN0.out; show _ ≤ _; omega
      go_wp2_with fail
      refine (plainO_any o HOK.out _).mono ?_
      rintro e w4 ⟨la, lc, rfl, ht4, hb4⟩
      have HT4 := hidIn ht4
      have hb4' : Below W.heap.size W w4 := HB3.out.trans (hb4.mono HB3.out.size)
      have hZ4 := HZ.out.below hb4' HZ.out.lt
      obtain ⟨⟨z0, z1, z2, z3⟩, f0, f1, f2, f3⟩ := blk_zero hZ4
      have HZ4 := hidIn hZ4
      have HB4 := hidIn hb4'
      have HS3 := hidIn HB3.out.size
      clear ht4 hb4 hb4' hZ4
      go_wp2_with fail
      refine bodyPost_ret (results_slot_cell rfl _ _ (w.heap.size + 1) 52 (four (plain o) la lc) (0, 0) _ rfl ?blk Try.underlying52 rfl infoT) rfl ?post
      case blk => change Blk _ _ _ _; unfold four; (with_reducible exact blk_set4' HZ4.out _ _ _ _)
      case post =>
        have hWS := HWS.out
        have hs3 := HS3.out
        have hbw : Below w.heap.size w w4 := HB.out.trans (HB4.out.mono HB.out.size)
        refine ⟨o, la, lc, rfl, HOK.out, HON.out, ?_, ?_⟩
        · refine HT4.out.kept (by omega) (fun k x c hk hc => ?_)
          rw [set4_cell' (by omega)]
          exact hc
        · (repeat first | with_reducible exact hbw | with_reducible refine below_set ?_ (by omega) _ _)
  · have hwt' : (what.tmod 4 == 0) = false := by rw [beq_eq_false_iff_ne]; exact hwt
    go_wp2_with fail
    have HSH2 := HSH
    have HCN2 := HCN
    have HTX : Hid (TIn (w1.alloc (.cells #[.int .i64 t.kind, .string t.s, .int .i64 t.n, .slice ka t.k.length kc] 52)) 0 t (.agg (four t ka kc))) := (HT1.out.below (below_alloc (Below.refl _ _) _)).low (Nat.zero_le _)
    have HBX : Hid (Below W.heap.size W (w1.alloc (.cells #[.int .i64 t.kind, .string t.s, .int .i64 t.n, .slice ka t.k.length kc] 52))) := below_alloc HB1.out _
    refine (obsT_any t HSH2.out _ _ HTX.out).mono ?_
    rintro e w3 ⟨rfl, hb3⟩
    have HB3 : Hid (Below W.heap.size W w3) := HBX.out.trans (hb3.mono HBX.out.size)
    have HO0 := hidIn (obsOf_ok t HSH2.out)
    have HN0 : Hid ((obsOf t).nodes ≤ 70) := by have h1 := obsOf_nodes t; have h2 := HCN2.out; show _ ≤ _; omega
    clear hb3
    generalize obsOf t = o0 at *
    by_cases hodd : odd.tmod 9 = 8
    · have hodd' : (odd.tmod 9 == 8) = true := by rw [hodd]; rfl
      have hdv : -9223372036854775808 ≤ odd.tdiv 9 ∧ odd.tdiv 9 ≤ 9223372036854775807 := tdiv_in odd 9 (by omega) ho1 ho2
      have hwr : IntKind.i64.wrap (odd.tdiv 9) = odd.tdiv 9 := wrap_small _ hdv.1 hdv.2
      have q0 := o0.one' HO0.out
      have cv0 := q0.cells
      have mv0 := q0.cells
      unfold Value.cells at mv0
      go_wp2_with fail
      refine (odd_any _ w3 hdv.1 hdv.2).mono ?_
      rintro e w5 ⟨o5, rfl, hok5, h51, hb5⟩
      obtain ⟨o, ho⟩ : ∃ o, o = O.add o0 o5 := ⟨_, rfl⟩
      have HOK : Hid o.Ok := by rw [ho]; exact ⟨HO0.out, hok5⟩
      have HON : Hid (o.nodes ≤ 1000) := by
        rw [ho]
        have h1 := HN0.out
        rcases h51 with rfl | ⟨v, rfl⟩
        · simp only [O.nodes]; show _ ≤ _; omega
        · simp only [O.nodes]; show _ ≤ _; omega
      have HOV : Hid (o.val = .iface 34 (.agg #[o0.val, o5.val])) := by rw [ho]; rfl
      have HB3' : Hid (Below W.heap.size W w5) := HB3.out.trans (hb5.mono HB3.out.size)
      clear HB3
      have HB3 := HB3'
      have q5 := o5.one' hok5
      have cv5 := q5.cells
      have mv5 := q5.cells
      unfold Value.cells at mv5
      clear hb5 hok5 h51 ho q5 q0
      go_wp2_with fail
      rw [← HOV.out]
      refine (plainO_any o HOK.out _).mono ?_
      rintro e w4 ⟨la, lc, rfl, ht4, hb4⟩
      have HT4 := hidIn ht4
      have hb4' : Below W.heap.size W w4 := HB3.out.trans (hb4.mono HB3.out.size)
      have hZ4 := HZ.out.below hb4' HZ.out.lt
      obtain ⟨⟨z0, z1, z2, z3⟩, f0, f1, f2, f3⟩ := blk_zero hZ4
      have HZ4 := hidIn hZ4
      have HB4 := hidIn hb4'
      have HS3 := hidIn HB3.out.size
      clear ht4 hb4 hb4' hZ4
      go_wp2_with fail
      refine bodyPost_ret (results_slot_cell rfl _ _ (w.heap.size + 1) 52 (four (plain o) la lc) (0, 0) _ rfl ?blk Try.underlying52 rfl infoT) rfl ?post
      case blk => change Blk _ _ _ _; unfold four; (with_reducible exact blk_set4' HZ4.out _ _ _ _)
      case post =>
        have hWS := HWS.out
        have hs3 := HS3.out
        have hbw : Below w.heap.size w w4 := HB.out.trans (HB4.out.mono HB.out.size)
        refine ⟨o, la, lc, rfl, HOK.out, HON.out, ?_, ?_⟩
        · refine HT4.out.kept (by omega) (fun k x c hk hc => ?_)
          rw [set4_cell' (by omega)]
          exact hc
        · (repeat first | with_reducible exact hbw | with_reducible refine below_set ?_ (by omega) _ _)
    · have hodd' : (odd.tmod 9 == 8) = false := by rw [beq_eq_false_iff_ne]; exact hodd
      obtain ⟨o, ho⟩ : ∃ o, o = o0 := ⟨_, rfl⟩
      subst ho
      have HOK := HO0
      have HON : Hid (o.nodes ≤ 1000) := by have h1 := HN0.out; show _ ≤ _; omega
      go_wp2_with fail
      refine (plainO_any o HOK.out _).mono ?_
      rintro e w4 ⟨la, lc, rfl, ht4, hb4⟩
      have HT4 := hidIn ht4
      have hb4' : Below W.heap.size W w4 := HB3.out.trans (hb4.mono HB3.out.size)
      have hZ4 := HZ.out.below hb4' HZ.out.lt
      obtain ⟨⟨z0, z1, z2, z3⟩, f0, f1, f2, f3⟩ := blk_zero hZ4
      have HZ4 := hidIn hZ4
      have HB4 := hidIn hb4'
      have HS3 := hidIn HB3.out.size
      clear ht4 hb4 hb4' hZ4
      go_wp2_with fail
      refine bodyPost_ret (results_slot_cell rfl _ _ (w.heap.size + 1) 52 (four (plain o) la lc) (0, 0) _ rfl ?blk Try.underlying52 rfl infoT) rfl ?post
      case blk => change Blk _ _ _ _; unfold four; (with_reducible exact blk_set4' HZ4.out _ _ _ _)
      case post =>
        have hWS := HWS.out
        have hs3 := HS3.out
        have hbw : Below w.heap.size w w4 := HB.out.trans (HB4.out.mono HB.out.size)
        refine ⟨o, la, lc, rfl, HOK.out, HON.out, ?_, ?_⟩
        · refine HT4.out.kept (by omega) (fun k x c hk hc => ?_)
          rw [set4_cell' (by omega)]
          exact hc
        · (repeat first | with_reducible exact hbw | with_reducible refine below_set ?_ (by omega) _ _)

end Go.Proofs.Ytdlflpnjmldakaa
namespace Go.Proofs.Ytdlflpnjmldakaa.Vl
open Go.RowKit Wd Cn
set_option linter.unusedVariables false

theorem ints_below {w w' : World} {a : Option Addr} {len : Nat} {f : Nat → Int} (h : HasInts w a len f) (hb : Below w.heap.size w w') : HasInts w' a len f := by
  intro i hi
  obtain ⟨b, o, e, hl, hc, h1⟩ := h i hi
  exact ⟨b, o, e, Nat.lt_of_lt_of_le hl hb.size, (hb.cell (p := ⟨b, o + i, none⟩) hl).trans hc, h1⟩
/-- The document's world, just made. -/
theorem bo_new {w0 W : World} {p f c : Nat} {K : KW} (h : In w0 W p f c K) : Bo w0 (W.alloc (.cells #[.slice none 0 0, .slice none 0 0] 59)) p f c W.heap.size W.heap.size K ⟨[], []⟩ := by
  refine ⟨h.step (below_alloc (Below.refl _ _) _), ⟨.slice none 0 0, .slice none 0 0, heap_alloc_new _ _, World.ownsRow_nil _ _ _ _, World.ownsRow_nil _ _ _ _, Nat.le_refl _⟩, h.below.size, by simp⟩

set_option maxHeartbeats 8000000 in
set_option maxRecDepth 100000 in
theorem tells_walk (pl : Pl) (at' what v0 : Int) (s : ByteArray) (odd : Int) (la : Option Addr) (ll lc : Nat) (lf : Nat → Int) (day : Int) (w : World) (hp : PlanIn w pl) (ha1 : -9223372036854775808 ≤ at') (ha2 : at' ≤ 9223372036854775807) (hw1 : -9223372036854775808 ≤ what) (hw2 : what ≤ 9223372036854775807)
    (hv1 : -9223372036854775808 ≤ v0) (hv2 : v0 ≤ 9223372036854775807) (hs : s.size ≤ 140737488351232) (ho1 : -9223372036854775808 ≤ odd) (ho2 : odd ≤ 9223372036854775807) (hl : HasInts w la ll lf) (hll : ll ≤ 9223372036854775807) (hd1 : -9223372036854775808 ≤ day) (hd2 : day ≤ 9223372036854775807) :
    Calls Try.prog 5 #[planV pl, .int .i64 at', .int .i64 what, .int .i64 v0, .string s, .int .i64 odd, .slice la ll lc, .int .i64 day] w fun e w' => e = .returned (.bool true) ∧ Below w.heap.size w w' := by
  obtain ⟨d, hd⟩ : ∃ d : Nat, day % 9 = d := ⟨(day % 9).toNat, by omega⟩
  have hd9 : d < 9 := by omega
  have HWD := hidV (fun w : World => within_any day 9 w (by omega) (by omega) hd1 hd2)
  rw [hd] at HWD
  have HDO : Hid (dayOk d) := ⟨by omega, by omega⟩
  have HP := hidV hp
  have HL := hidV hl
  have HC1 : Hid (∀ W, PlanIn W pl → Calls Try.prog 14 #[.agg #[.slice pl.na pl.nl pl.nc, .slice pl.wa pl.wl pl.wc], .int .i64 at', .int .i64 what, .int .i64 v0, .string s, .int .i64 odd] W (SomePost W)) := fun W hW => some4_any pl at' what v0 s odd W hW ha1 ha2 hw1 hw2 hv1 hv2 (by unfold maxLen; omega) ho1 ho2
  clear hp hl hd hd1 hd2 ha1 ha2 hw1 hw2 hv1 hv2 hs ho1 ho2
  unfold planV
  go_enter Try.func5, Try.ntmps5
  go_wp2_with fail
  have hb0 : Below w.heap.size w (w.alloc (.cells #[.slice pl.na pl.nl pl.nc, .slice pl.wa pl.wl pl.wc] 49)) := below_alloc (Below.refl _ _) _
  have HB0 := hidV hb0
  refine (HC1.out _ (HP.out.below HB0.out)).mono ?_
  rintro e w1 ⟨o, ka, kc, rfl, hok, hn, ht, hb1⟩
  have HOK := hidV hok
  have HNB : Hid (o.nodes ≤ 1000000) := by show _ ≤ _; omega
  have HCN : Hid ((plain o).cnt ≤ 999990) := by have h1 := plain_cnt o; show _ ≤ _; omega
  have HB1 := hidV (HB0.out.trans (hb1.mono HB0.out.size))
  obtain ⟨W2, hW2⟩ : ∃ W2, W2 = w1.alloc (.cells #[.int .i64 (plain o).kind, .string (plain o).s, .int .i64 (plain o).n, .slice ka (plain o).k.length kc] 52) := ⟨_, rfl⟩
  have HB2 : Hid (Below w.heap.size w W2) := by rw [hW2]; exact below_alloc HB1.out _
  have HT2 : Hid (TIn W2 0 (plain o) (.agg (four (plain o) ka kc))) := by rw [hW2]; exact (ht.below (below_alloc (Below.refl _ _) _)).low (Nat.zero_le _)
  have HBK : Hid (W2.heap[w1.heap.size]? = some (.cells #[.int .i64 (plain o).kind, .string (plain o).s, .int .i64 (plain o).n, .slice ka (plain o).k.length kc] 52)) := by rw [hW2]; exact heap_alloc_new _ _
  have HD : Hid (∀ w', Below W2.heap.size W2 w' → TIn w' 0 (plain o) (.agg (four (plain o) ka kc)) ∧ w'.cell? ⟨w1.heap.size, 0, none⟩ = some (.int .i64 (plain o).kind) ∧ w'.cell? ⟨w1.heap.size, 1, none⟩ = some (.string (plain o).s) ∧ w'.cell? ⟨w1.heap.size, 2, none⟩ = some (.int .i64 (plain o).n) ∧ w'.cell? ⟨w1.heap.size, 3, none⟩ = some (.slice ka (plain o).k.length kc)) := fun w' hw' => by
    have hh := (hw'.block _ (Array.getElem?_eq_some_iff.1 HBK.out).1).trans HBK.out
    exact ⟨HT2.out.below hw', cell_of_row _ _ _ _ _ _ hh, cell_of_row _ _ _ _ _ _ hh, cell_of_row _ _ _ _ _ _ hh, cell_of_row _ _ _ _ _ _ hh⟩
  have HLI := hidV (ints_below HL.out HB2.out)
  clear hok hn ht hb1 hb0 HP HC1 HL
  go_wp2_with fail
  rw [← hW2]
  refine (new_in' W2).mono ?_
  rintro e w3 ⟨p, f, c, rfl, hi⟩
  have HBO := hidV (bo_new hi)
  clear hi hW2
  go_wp2_with fail
  refine (known_any W2 _ p f c _ _ la ll lc lf HBO.out HLI.out hll).mono ?_
  rintro e w4 ⟨rfl, K, hb4, hvals, hlen⟩
  have HB4 := hidV hb4
  have HVL := hidV hvals
  have HLN := hidV hlen
  clear hb4 hvals hlen HBO HLI
  go_wp2_with fail
  refine calls_same (HWD.out _) ?_
  go_wp2_with fail
  obtain ⟨x, hx⟩ : ∃ x, ofR K d o = x := ⟨_, rfl⟩
  have HX := hidV hx
  refine (of_any o HOK.out HNB.out w4 p f c K d HB4.out.i.kin HDO.out).mono ?_
  rintro e w5 ⟨rfl, hb5⟩
  have HB5 := hidV (HB4.out.step hb5)
  rw [hx]
  clear hb5 hx
  obtain ⟨xn, xk, xe⟩ := x
  unfold ofE
  go_wp2_with fail
  obtain ⟨nd, hnd⟩ : ∃ l, needR K d o = l := ⟨_, rfl⟩
  have HND := hidV hnd
  refine (needs_any o HOK.out HNB.out w5 p f c K d HB5.out.i.kin HDO.out).mono ?_
  rintro e w6 ⟨v6, rfl, ho6, hb6⟩
  rw [hnd] at ho6
  obtain ⟨ao, cap, rfl, hx1, hx2⟩ := own_str ho6
  have HO6 := hidV ho6
  have HB6 := hidV (HB5.out.step hb6)
  obtain ⟨g0, g1, g2, g3, g4⟩ := HD.out w6 HB6.out.i.below
  have HG0 := hidV g0
  clear hb6 hnd ho6 hx1 hx2 g0
  go_wp2_with fail
  have hchk := refCheck_any (plain o) (plain_sized o HOK.out) HCN.out (by rw [plain_nodes]; exact HNB.out) true w6 _ HG0.out
  rw [plain_chk] at hchk
  unfold four at hchk
  refine hchk.mono ?_
  clear hchk g1 g2 g3 g4
  rintro e w7 ⟨rfl, hb7⟩
  have HB7 := hidV (HB6.out.step hb7)
  have HO7 := hidV (ownsRow_below HO6.out hb7)
  clear hb7
  by_cases hc : chk o = 0
  rotate_left
  · have hc1 : (chk o != 0) = true := by simpa using hc
    have h1 := HX.out
    have h2 := HND.out
    unfold ofR at h1
    unfold needR at h2
    rw [if_neg hc] at h1 h2
    injection h1 with e1 e2 e3
    subst e1 e2 e3 h2
    clear hc
    generalize chk o = ck at *
    rw [List.length_nil]
    go_wp2_with fail
    refine (wakes9_any _).mono ?_
    rintro e w8 ⟨rfl, hb8⟩
    have HB8 := hidV (HB7.out.step hb8)
    clear hb8
    go_wp2_with fail
    go_ret
    exact ⟨rfl, HB2.out.trans (HB8.out.i.below.mono HB2.out.size)⟩
  · have HF := hidV (chk_form hc)
    have h1 := HX.out
    have h2 := HND.out
    unfold ofR at h1
    unfold needR at h2
    rw [if_pos hc] at h1 h2
    have HRK := hidV h1
    have HLK := hidV h2
    have HG := hidV (rk_good HVL.out d o HF.out)
    rw [h1] at HG
    rw [hc]
    obtain ⟨g0, g1, g2, g3, g4⟩ := HD.out w7 HB7.out.i.below
    obtain ⟨vF, vC, hrr⟩ := HB7.out.rr
    have hval := refValue_any o HF.out w7 _ _ _ K vF vC d g0 hrr (by have := HLN.out; omega) HVL.out HDO.out
    unfold four at hval
    have HVAL := hidV hval
    clear hval hrr g0 h1 h2 hc
    rw [HRK.out] at HVAL
    go_wp2_with fail
    refine HVAL.out.mono ?_
    rintro e w8 ⟨rfl, hb8⟩
    have HB8 := hidV (HB7.out.step hb8)
    have HO8 := hidV (ownsRow_below HO7.out hb8)
    obtain ⟨g0, g1, g2, g3, g4⟩ := HD.out w8 HB8.out.i.below
    obtain ⟨vF, vC, hrr⟩ := HB8.out.rr
    have hneed := refNeeds_any o HCN.out HNB.out w8 _ g0 _ _ K vF vC hrr (by have := HLN.out; omega) d
    unfold four at hneed
    rw [HLK.out] at hneed
    have HNEED := hidV hneed
    clear hb8 hneed hrr g0
    unfold ofE
    have HZ : Hid (xk = false → xn = 0) := HG.out.unk
    cases xk
    · obtain rfl := HZ.out rfl
      go_wp2_with fail
      refine HNEED.out.mono ?_
      rintro e w9 ⟨v9, rfl, ho9, hb9⟩
      have HB9 := hidV (HB8.out.step hb9)
      have hsame := sameStr_any nd _ _ _ _ w9 (ownsRow_below HO8.out hb9) ho9
      obtain ⟨a9, c9, rfl, hx1, hx2⟩ := own_str ho9
      have HSAME := hidV hsame
      clear hsame hb9 ho9 hx1 hx2 HNEED
      go_wp2_with fail
      refine HSAME.out.mono ?_
      rintro e w10 ⟨rfl, hb10⟩
      have HB10 := hidV (HB9.out.step hb10)
      clear hb10 HSAME
      go_wp2_with fail
      refine (wakes9_any _).mono ?_
      rintro e w11 ⟨rfl, hb11⟩
      have HB11 := hidV (HB10.out.step hb11)
      clear hb11
      go_wp2_with fail
      go_ret
      exact ⟨rfl, HB2.out.trans (HB11.out.i.below.mono HB2.out.size)⟩
    · go_wp2_with fail
      refine HNEED.out.mono ?_
      rintro e w9 ⟨v9, rfl, ho9, hb9⟩
      have HB9 := hidV (HB8.out.step hb9)
      have hsame := sameStr_any nd _ _ _ _ w9 (ownsRow_below HO8.out hb9) ho9
      obtain ⟨a9, c9, rfl, hx1, hx2⟩ := own_str ho9
      have HSAME := hidV hsame
      clear hsame hb9 ho9 hx1 hx2 HNEED
      go_wp2_with fail
      refine HSAME.out.mono ?_
      rintro e w10 ⟨rfl, hb10⟩
      have HB10 := hidV (HB9.out.step hb10)
      clear hb10 HSAME
      go_wp2_with fail
      refine (wakes9_any _).mono ?_
      rintro e w11 ⟨rfl, hb11⟩
      have HB11 := hidV (HB10.out.step hb11)
      clear hb11
      go_wp2_with fail
      go_ret
      exact ⟨rfl, HB2.out.trans (HB11.out.i.below.mono HB2.out.size)⟩

end Go.Proofs.Ytdlflpnjmldakaa.Vl
