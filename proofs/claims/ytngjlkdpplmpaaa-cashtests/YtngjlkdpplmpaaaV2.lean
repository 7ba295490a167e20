/- What Of and Needs answer of any number, on any day, by what is known. -/
import Derived.Test.YtngjlkdpplmpaaaV1
import Derived.Test.YtngjlkdpplmpaaaNames
import Derived.Test.YtngjlkdpplmpaaaKeep
namespace Go.Proofs.Ytngjlkdpplmpaaa.Vl
open Go.RowKit Wd Cn
set_option linter.unusedVariables false

/-- What Of answers. -/
def ofR (K : KW) (d : Int) (o : O) : Rk := if chk o = 0 then rk K d o else ⟨0, false, 2⟩
def ofE (r : Rk) : Ending := .returned (.tuple #[.int .i64 r.n, .bool r.known, .int .i64 r.e])
theorem chk_form {o : O} (h : chk o = 0) : formB o = true := by
  unfold chk at h
  split at h
  · assumption
  · cases h

set_option maxHeartbeats 1000000 in
theorem of_any (o : O) (hok : o.Ok) (hsz : o.nodes ≤ 1000000) (w : World) (p f c : Nat) (K : KW) (d : Int) (hk : KIn w p f c K) (hd : dayOk d) :
    Calls Try.prog 96 #[o.val, .int .i64 d, .pointer (some ⟨p, 0, none⟩)] w fun e w' => e = ofE (ofR K d o) ∧ Below w.heap.size w w' := by
  have HK : Hid (KIn w p f c K) := hk
  clear hk
  by_cases hc : chk o = 0
  · have HF : Hid (ofR K d o = rk K d o) := by unfold Hid ofR; rw [if_pos hc]
    go_enter Try.func96, Try.ntmps96
    go_wp2_with fail
    refine (check_any o hok hsz w).mono ?_
    rintro e w1 ⟨rfl, hb1⟩
    rw [hc]
    go_wp2_with fail
    refine (reckon_any o hok (chk_form hc) w1 p f c K d (HK.out.below hb1) hd).mono ?_
    rintro e w2 ⟨rfl, hb2⟩
    have HB : Hid (Below w.heap.size w w2) := hb1.trans (hb2.mono hb1.size)
    clear hb1 hb2
    generalize rk K d o = x at *
    unfold Rk.val Rk.cs
    go_wp2_with fail
    go_region
    go_wp2_with fail
    go_ret3
    rw [HF.out]
    exact ⟨rfl, (below_alloc HB.out _).drew⟩
  · have HF : Hid (ofR K d o = ⟨0, false, 2⟩) := by unfold Hid ofR; rw [if_neg hc]
    have hc1 : (chk o != 0) = true := by simpa using hc
    go_enter Try.func96, Try.ntmps96
    go_wp2_with fail
    refine (check_any o hok hsz w).mono ?_
    rintro e w1 ⟨rfl, hb1⟩
    go_wp2_with fail
    go_ret3
    rw [HF.out]
    exact ⟨rfl, hb1⟩

/-- The names that are not fixed. -/
def lackN (K : KW) (d : Int) (l : List ByteArray) : List ByteArray := l.filter fun s => !(K.fixed (s, d)).isSome
def needR (K : KW) (d : Int) (o : O) : List ByteArray := if chk o = 0 then lackN K d o.names else []
theorem lackN_snoc (K : KW) (d : Int) (l : List ByteArray) (s : ByteArray) : lackN K d (l ++ [s]) = if (K.fixed (s, d)).isSome = true then lackN K d l else lackN K d l ++ [s] := by
  unfold lackN
  rw [List.filter_append]
  cases h : K.fixed (s, d) <;> simp [h]
theorem lackN_length (K : KW) (d : Int) (l : List ByteArray) : (lackN K d l).length ≤ l.length := List.length_filter_le _ _
theorem all_small (o : O) (h : o.Ok) : ∀ s ∈ o.all, s.size ≤ 2147483648 := by
  induction o with
  | const n => intro s hs; simp [O.all] at hs
  | fix t => intro s hs; simp [O.all] at hs; subst hs; exact h
  | add l r hl hr => intro s hs; simp only [O.all, List.mem_append] at hs; exact hs.elim (hl h.1 s) (hr h.2 s)
  | neg o ho => intro s hs; exact ho h s hs
  | mul l r hl hr => intro s hs; simp only [O.all, List.mem_append] at hs; exact hs.elim (hl h.1 s) (hr h.2 s)
  | max l r hl hr => intro s hs; simp only [O.all, List.mem_append] at hs; exact hs.elim (hl h.1 s) (hr h.2 s)
  | odd v => intro s hs; simp [O.all] at hs
theorem addAll_mem (l : List ByteArray) : ∀ (acc : List ByteArray) (s : ByteArray), s ∈ addAll acc l → s ∈ acc ∨ s ∈ l := by
  induction l with
  | nil => intro acc s h; exact .inl h
  | cons x l ih =>
    intro acc s h
    rcases ih (addN acc x) s h with h1 | h1
    · unfold addN at h1
      split at h1
      · exact .inl h1
      · rcases List.mem_append.1 h1 with h2 | h2
        · exact .inl h2
        · exact .inr (by simp at h2; simp [h2])
    · exact .inr (List.mem_cons_of_mem _ h1)
theorem names_small (o : O) (h : o.Ok) : ∀ s ∈ o.names, s.size ≤ 2147483648 := fun s hs => by
  rcases addAll_mem _ _ _ hs with h1 | h1
  · simp at h1
  · exact all_small o h s h1
theorem names_length (o : O) : o.names.length ≤ o.nodes := by
  have h1 := addAll_length o.all []
  have h2 := all_nodes o
  simp at h1
  show (addAll [] o.all).length ≤ _
  omega
theorem hidV {p : Prop} (h : p) : Hid p := h

set_option maxHeartbeats 1000000 in
set_option maxRecDepth 100000 in
theorem needs_any (o : O) (hok : o.Ok) (hsz : o.nodes ≤ 1000000) (w : World) (p f c : Nat) (K : KW) (d : Int) (hk : KIn w p f c K) (hd : dayOk d) :
    Calls Try.prog 97 #[o.val, .int .i64 d, .pointer (some ⟨p, 0, none⟩)] w fun e w' => ∃ v, e = .returned v ∧ w'.ownsRow w.heap.size 9 1 v (needR K d o).length (strCells (needR K d o)) ∧ Below w.heap.size w w' := by
  obtain ⟨i0, gi, gz0, gz1, gz2⟩ := info_parts infoStr
  have HK : Hid (KIn w p f c K) := hk
  clear hk
  by_cases hc : chk o = 0
  rotate_left
  · have HF : Hid (needR K d o = []) := by unfold Hid needR; rw [if_neg hc]
    have hc1 : (chk o != 0) = true := by simpa using hc
    go_enter Try.func97, Try.ntmps97
    go_wp2_with fail
    refine (check_any o hok hsz w).mono ?_
    rintro e w1 ⟨rfl, hb1⟩
    go_wp2_with fail
    go_ret
    rw [HF.out]
    exact ⟨_, rfl, World.ownsRow_nil _ _ _ _, hb1⟩
  · have HF : Hid (needR K d o = lackN K d o.names) := by unfold Hid needR; rw [if_pos hc]
    have HS := hidV (names_small o hok)
    have hnl := names_length o
    have HD := hidV hd
    clear hd
    go_enter Try.func97, Try.ntmps97
    go_wp2_with fail
    refine (check_any o hok hsz w).mono ?_
    rintro e w1 ⟨rfl, hb1⟩
    rw [hc]
    go_wp2_with fail
    refine (names_any o hok hsz w1).mono ?_
    rintro e w2 ⟨v2, rfl, hown, hb2⟩
    obtain ⟨ao, cap, rfl, hcl, hll⟩ := own_str hown
    have HC := hidV hcl
    have HB2 : Hid (Below w.heap.size w w2) := hb1.trans (hb2.mono hb1.size)
    have hn1 : o.names.length ≤ 1000000 := by omega
    clear hcl hown hb1 hb2 hsz hok hc hnl
    generalize o.names = l at *
    go_wp2_with fail
    go_loopw [18, 7] (fun s18 s7 wr => ∃ i : Nat, i ≤ l.length ∧ s18 = .int .i64 i ∧ wr.ownsRow w2.heap.size 9 1 s7 (lackN K d (l.take i)).length (strCells (lackN K d (l.take i))) ∧ Below w2.heap.size w2 wr) (fun s18 _ _ => l.length - (intOf s18).toNat)
    case atStart => exact ⟨0, by omega, rfl, World.ownsRow_nil _ _ _ _, Below.refl _ _⟩
    case round =>
      obtain ⟨i, hi, rfl, hrow, hbr⟩ := hrel
      have HBR := hidV hbr
      have HROW := hidV hrow
      clear hbr
      by_cases hlt : i < l.length
      · have hlt' : (i : Int) < (l.length : Int) := by omega
        obtain ⟨g, rfl, hg, hc⟩ := HC.out i hlt
        have hcr : wr.cell? ⟨g, i, none⟩ = some (.string l[i]) := (HBR.out.cell (p := ⟨g, i, none⟩) hg).trans hc
        have HT : Hid (lackN K d (l.take (i + 1)) = if (K.fixed (l[i], d)).isSome = true then lackN K d (l.take i) else lackN K d (l.take i) ++ [l[i]]) := by
          unfold Hid
          rw [take_more l i l[i] (List.getElem?_eq_getElem hlt), lackN_snoc]
        have HSI : Hid (fixOk (l[i], d)) := ⟨Nat.le_trans (HS.out _ (List.getElem_mem hlt)) (by decide), HD.out.1, HD.out.2⟩
        have hal : (lackN K d (l.take i)).length ≤ 1000000 := by
          have h1 := lackN_length K d (l.take i)
          have h3 : (l.take i).length ≤ l.length := by rw [List.length_take]; omega
          omega
        clear hc
        generalize l[i] = s at *
        generalize lackN K d (l.take i) = ac at *
        go_wp2_with fail
        refine calls_same (fixed_any wr p f c K ((HK.out.below HB2.out).below HBR.out) s d HSI.out) ?_
        cases hf : (K.fixed (s, d)).isSome
        · have HT2 : Hid (lackN K d (l.take (i + 1)) = ac ++ [s]) := by unfold Hid; rw [HT.out, if_neg (by rw [hf]; simp)]
          clear HT hf
          go_wp2_with (first
            | (at_builtin; refine wpList_append_own _ rfl _ _ 67 rfl w2.heap.size 9 i0 (.string ByteArray.empty) 1 16 Try.underlying67 gi gz0 gz1 gz2 rfl (by decide) _ _ _ rfl ((hidV hrow).out.alloc _) ⟨wr.heap.size, 0, none⟩ 1 1 [.string s] rfl rfl (cell_one_at wr _ _) (by intro u hu; simp at hu; subst hu; rfl) (by unfold maxLen; omega) (by omega) (by have := HBR.out.size; simp; omega) ?_; intro v4 w4 hown4 hgrow4 _)
            | go_in)
          have HR4 : Hid (w4.ownsRow w2.heap.size 9 1 v4 (ac ++ [s]).length (strCells (ac ++ [s]))) := by simpa [strCells, Hid] using hown4
          have HB4 : Hid (Below w2.heap.size w2 w4) := (HBR.out.alloc HBR.out.size _).grown hgrow4 (by have := HBR.out.size; simp; omega) (fun j hj => (HROW.out.lt j hj).1)
          clear hown4 hgrow4 hrow HROW
          go_wp2_with fail
          go_roundw
          case rel => exact ⟨i + 1, by omega, by go_num, by rw [HT2.out]; exact HR4.out, HB4.out⟩
          case measure => simp [intOf]; omega
        · have HT2 : Hid (lackN K d (l.take (i + 1)) = ac) := by unfold Hid; rw [HT.out, if_pos hf]
          clear HT hf hrow
          go_wp2_with fail
          go_roundw
          case rel => exact ⟨i + 1, by omega, by go_num, by rw [HT2.out]; exact HROW.out, HBR.out⟩
          case measure => simp [intOf]; omega
      · have hle : i = l.length := by omega
        subst hle
        rw [List.take_length] at hrow
        have HR4 := hidV hrow
        clear hrow HROW
        go_wp2_with fail
        go_ret
        rw [HF.out]
        refine ⟨_, rfl, ?_, HB2.out.trans (HBR.out.mono HB2.out.size)⟩
        have h := HR4.out
        refine ⟨h.1, ?_⟩
        rcases h.2 with h | ⟨g, cap, cur, h1, h2, h3⟩
        · exact .inl h
        · exact .inr ⟨g, cap, cur, h1, Nat.le_trans HB2.out.size h2, h3⟩

end Go.Proofs.Ytngjlkdpplmpaaa.Vl
