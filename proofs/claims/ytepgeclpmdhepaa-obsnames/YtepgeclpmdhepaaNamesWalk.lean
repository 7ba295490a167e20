/- The walk of the statement ObsNames. -/
import Derived.Test.YtepgeclpmdhepaaKeep
import Derived.Test.YtepgeclpmdhepaaSameO
namespace Go.Proofs.Ytepgeclpmdhepaa
open Go.RowKit
set_option linter.unusedVariables false

/-- What is known of a list of numbers that came in. -/
def HasInts (w : World) (a : Option Addr) (len : Nat) (f : Nat → Int) : Prop :=
  ∀ i, i < len → ∃ b off, a = some ⟨b, off, none⟩ ∧ b < w.heap.size ∧ w.cell? ⟨b, off + i, none⟩ = some (.int .i64 (f i)) ∧ -9223372036854775808 ≤ f i ∧ f i ≤ 9223372036854775807
/-- A sum of Fixes, one by one. -/
def chain (xs : List ByteArray) : O := xs.foldl (fun o s => .add o (.fix s)) (.const 1)
theorem chain_snoc (xs : List ByteArray) (s : ByteArray) : chain (xs ++ [s]) = .add (chain xs) (.fix s) := by simp [chain]
theorem snoc_ind {α : Type} {P : List α → Prop} (h0 : P []) (h1 : ∀ l a, P l → P (l ++ [a])) : ∀ l, P l := by
  intro l
  have h : ∀ n (l : List α), l.length = n → P l := by
    intro n
    induction n with
    | zero => intro l hl; rw [List.length_eq_zero_iff.1 hl]; exact h0
    | succ n ih =>
      intro l hl
      have hne : l ≠ [] := fun e => by rw [e] at hl; simp at hl
      rw [← List.dropLast_concat_getLast hne]
      exact h1 _ _ (ih _ (by simp [hl]))
  exact h _ l rfl
theorem chain_all (xs : List ByteArray) : (chain xs).all = xs := by
  induction xs using snoc_ind with
  | h0 => rfl
  | h1 l a ih => rw [chain_snoc, O.all, ih]; rfl
theorem chain_nodes (xs : List ByteArray) : (chain xs).nodes = 2 * xs.length + 1 := by
  induction xs using snoc_ind with
  | h0 => rfl
  | h1 l a ih => rw [chain_snoc, O.nodes, ih]; simp [O.nodes]; omega
theorem chain_ok (xs : List ByteArray) : (∀ s ∈ xs, s.size ≤ 200) → (chain xs).Ok := by
  induction xs using snoc_ind with
  | h0 => intro _; simp [chain, O.Ok]
  | h1 l a ih =>
    intro h
    rw [chain_snoc]
    refine ⟨ih (fun s hs => h s (by simp [hs])), ?_⟩
    have := h a (by simp)
    show a.size ≤ _
    omega
theorem chain_iface (xs : List ByteArray) : ∃ t x, (chain xs).val = .iface t x := by
  induction xs using snoc_ind with
  | h0 => exact ⟨_, _, rfl⟩
  | h1 l a ih => rw [chain_snoc]; exact ⟨_, _, rfl⟩
theorem mem_addN (acc : List ByteArray) (s t : ByteArray) : t ∈ addN acc s ↔ t ∈ acc ∨ t = s := by
  unfold addN
  split
  · rename_i h
    have := (inN_iff _ _).1 h
    constructor
    · exact .inl
    · rintro (h | rfl)
      · exact h
      · exact this
  · simp
theorem mem_addAll (l : List ByteArray) : ∀ acc t, t ∈ addAll acc l ↔ t ∈ acc ∨ t ∈ l := by
  induction l with
  | nil => intro acc t; simp [addAll]
  | cons s l ih =>
    intro acc t
    have := ih (addN acc s) t
    simp only [addAll, List.foldl_cons] at this ⊢
    rw [this, mem_addN]
    simp only [List.mem_cons]
    constructor
    · rintro ((h | h) | h)
      · exact .inl h
      · exact .inr (.inl h)
      · exact .inr (.inr h)
    · rintro (h | h | h)
      · exact .inl (.inl h)
      · exact .inl (.inr h)
      · exact .inr h
theorem addAll_in (l : List ByteArray) : ∀ acc, (∀ s ∈ l, s ∈ acc) → addAll acc l = acc := by
  induction l with
  | nil => intro acc _; rfl
  | cons s l ih =>
    intro acc h
    have h1 : addN acc s = acc := by unfold addN; rw [if_pos ((inN_iff _ _).2 (h s (by simp)))]
    simp only [addAll, List.foldl_cons, h1]
    exact ih acc (fun t ht => h t (by simp [ht]))
theorem names_twice (xs : List ByteArray) : addAll [] (xs ++ xs) = addAll [] xs := by
  rw [addAll_append]
  exact addAll_in xs _ (fun s hs => (mem_addAll xs [] s).2 (.inr hs))
theorem addAll_snoc (xs : List ByteArray) (s : ByteArray) : addAll [] (xs ++ [s]) = addN (addAll [] xs) s := by simp [addAll]
theorem inN_take (l : List ByteArray) (k : Nat) (hk : k < l.length) (s : ByteArray) : inN (l.take (k + 1)) s = (inN (l.take k) s || decide (l[k] = s)) := by
  unfold inN
  rw [take_more l k l[k] (List.getElem?_eq_getElem hk), List.any_append]
  simp only [List.any_cons, List.any_nil, Bool.or_false]
theorem str_dec (a b : ByteArray) : (a.toList == b.toList) = decide (a = b) := by
  rw [Bool.eq_iff_iff, beq_iff_eq, decide_eq_true_eq]
  exact ⟨toList_inj, fun h => by rw [h]⟩
theorem own_below {w w' : World} {B : Nat} {e : TypeId} {size n : Nat} {v : Value} {xs : List Value} (h : w.ownsRow B e size v n xs) (hb : Below w.heap.size w w') : w'.ownsRow B e size v n xs :=
  h.kept (grown_of_below hb none) (by cases hv : v.ownBlock <;> simp)

set_option maxHeartbeats 4000000 in
set_option maxRecDepth 100000 in
theorem obsNames_walk (la : Option Addr) (ll lc : Nat) (lf : Nat → Int) (w : World) (hl : HasInts w la ll lf) (hll : ll ≤ 9223372036854775807) :
    Calls Try.prog 4 #[.slice la ll lc] w fun e w' => e = .returned (.bool true) ∧ Below w.heap.size w w' := by
  obtain ⟨i0, gi, gz0, gz1, gz2⟩ := info_parts infoStr
  have HL : Hid (HasInts w la ll lf) := hl
  clear hl
  go_enter Try.func4, Try.ntmps4
  go_wp2_with fail
  go_loopw [5, 3, 4] (fun s5 s3 s4 wr => ∃ (i : Nat) (xs : List ByteArray), i ≤ 8 ∧ i ≤ ll ∧ s5 = .int .i64 i ∧ Hid (xs.length = i) ∧ s3 = (chain xs).val ∧ Hid (∀ s ∈ xs, s.size ≤ 200) ∧ wr.ownsRow w.heap.size 9 1 s4 (addAll [] xs).length (strCells (addAll [] xs)) ∧ Below w.heap.size w wr) (fun s5 _ _ _ => 8 - (intOf s5).toNat)
  case atStart => exact ⟨0, [], by omega, by omega, rfl, rfl, rfl, (fun s h => by simp at h), World.ownsRow_nil _ _ _ _, Below.refl _ _⟩
  case round =>
    obtain ⟨i, xs, hi8, hil, rfl, HXL, rfl, HXS, hown, hbr⟩ := hrel
    have hwl : (addAll [] xs).length ≤ 8 := by have := addAll_length xs []; have := HXL.out; simp at *; omega
    obtain ⟨ct, cx, hch⟩ := chain_iface xs
    have HCH : Hid ((chain xs).val = .iface ct cx) := hch
    by_cases hgo : i < ll ∧ i < 8
    · obtain ⟨hlt, hlt8⟩ := hgo
      have hlt' : (i : Int) < (ll : Int) := by omega
      have hlt8' : (i : Int) < 8 := by omega
      obtain ⟨lb, lo, hla, hlb, hlc, hf1, hf2⟩ := HL.out i hlt
      subst hla
      rw [← hbr.cell (p := ⟨lb, lo + i, none⟩) hlb] at hlc
      rw [hch]
      clear hch
      go_wp2_with fail
      refine (kname_any _ _ _ (by decide) hf1 hf2).mono ?_
      rintro e w1 ⟨s, rfl, hs, hb1⟩
      have hown1 := own_below hown hb1
      have hbr1 := hbr.trans (hb1.mono hbr.size)
      have HS : Hid (s.size ≤ 200) := hs
      clear hown hbr hb1 hlc hs
      obtain ⟨ao, cap, rfl, hc, _⟩ := own_str hown1
      have HC : Hid (∀ k (hk : k < (addAll [] xs).length), ∃ g, ao = some ⟨g, 0, none⟩ ∧ g < w1.heap.size ∧ w1.cell? ⟨g, k, none⟩ = some (.string (addAll [] xs)[k])) := hc
      clear hc
      have HW : Hid (addAll [] (xs ++ [s]) = addN (addAll [] xs) s) := addAll_snoc xs s
      generalize hW : addAll [] xs = want at *
      clear hW
      go_wp2_with fail
      go_loop [34, 7] (fun s34 s7 => ∃ k : Nat, k ≤ want.length ∧ s34 = .int .i64 k ∧ s7 = .bool (inN (want.take k) s)) (fun s34 _ => want.length - (intOf s34).toNat)
      case atStart => exact ⟨0, by omega, rfl, rfl⟩
      case round =>
        obtain ⟨k, hk, rfl, rfl⟩ := hrel
        by_cases hkl : k < want.length
        · have hkl' : (k : Int) < (want.length : Int) := by omega
          obtain ⟨g, rfl, hg, hcg⟩ := HC.out k hkl
          have HT : Hid (inN (want.take (k + 1)) s = (inN (want.take k) s || decide (want[k] = s))) := inN_take want k hkl s
          generalize want[k] = wk at *
          cases hin : inN (want.take k) s
          · go_wp2_with fail
            go_round
            case rel => exact ⟨k + 1, by omega, by go_num, by rw [HT.out, hin, Bool.false_or]; exact congrArg Value.bool (str_dec wk s)⟩
            case measure => simp [intOf]; omega
          · go_wp2_with fail
            go_round
            case rel => exact ⟨k + 1, by omega, by go_num, by rw [HT.out, hin, Bool.true_or]⟩
            case measure => simp [intOf]; omega
        · have hkl' : ¬ (k : Int) < (want.length : Int) := by omega
          have hke : k = want.length := by omega
          subst hke
          rw [List.take_length]
          have HRS : Hid (∀ v : Value, v = .iface 37 (.agg #[.iface ct cx, .iface 43 (.agg #[.string s])]) → v = (chain (xs ++ [s])).val) := by
            rintro v rfl
            rw [chain_snoc]
            show _ = Value.iface _ (.agg #[(chain xs).val, _])
            rw [HCH.out]
            rfl
          have HXS2 : Hid (∀ t ∈ xs ++ [s], t.size ≤ 200) := by
            intro t ht
            rcases List.mem_append.1 ht with h | h
            · exact HXS.out t h
            · simp at h; subst h; exact HS.out
          cases hin : inN want s
          · have HA : Hid (addAll [] (xs ++ [s]) = want ++ [s]) := by unfold Hid; rw [HW.out]; unfold addN; rw [if_neg (by rw [hin]; simp)]
            clear HC
            go_wp2_with (at_builtin; refine wpList_append_own _ rfl (.tmp 49) (.tmp 51) 23 rfl w.heap.size 9 i0 (.string ByteArray.empty) 1 16 Try.underlying23 gi gz0 gz1 gz2 rfl (by decide) _ _ _ rfl (hown1.alloc _) ⟨w1.heap.size, 0, none⟩ 1 1 [.string s] rfl rfl (cell_one_at w1 _ _) (by intro u hu; simp at hu; subst hu; rfl) (by unfold maxLen; omega) (by omega) (by have := hbr1.size; simp; omega) ?_; intro v2 w2 hown2 hgrow2 _)
            have hb2 : Below w.heap.size w w2 := (hbr1.alloc hbr1.size _).grown hgrow2 (by have := hbr1.size; simp; omega) (fun k hk => (hown1.lt k hk).1)
            have hown3 : w2.ownsRow w.heap.size 9 1 v2 (addAll [] (xs ++ [s])).length (strCells (addAll [] (xs ++ [s]))) := by rw [HA.out]; simpa [strCells] using hown2
            clear hown2 hgrow2 hown1 hbr1
            go_roundw
            case rel => exact ⟨i + 1, xs ++ [s], by omega, by omega, by go_num, by unfold Hid; simp [HXL.out], HRS.out _ rfl, HXS2.out, hown3, hb2⟩
            case measure => simp [intOf]; omega
          · have HA : Hid (addAll [] (xs ++ [s]) = want) := by unfold Hid; rw [HW.out]; unfold addN; rw [if_pos hin]
            go_wp2_with fail
            go_roundw
            case rel => exact ⟨i + 1, xs ++ [s], by omega, by omega, by go_num, by unfold Hid; simp [HXL.out], HRS.out _ rfl, HXS2.out, by rw [HA.out]; exact hown1, hbr1⟩
            case measure => simp [intOf]; omega
    · by_cases hlt : i < ll
      · have hlt' : (i : Int) < (ll : Int) := by omega
        have h8' : ¬ (i : Int) < 8 := by omega
        have h8d : decide ((i : Int) < 8) = false := by simpa using h8'
        have HO : Hid (chain xs).Ok := chain_ok xs HXS.out
        have HM : Hid ((O.mul (chain xs) (chain xs)).Ok) := ⟨HO.out, HO.out⟩
        have HN : Hid ((chain xs).nodes ≤ 1000000) := by have := HXL.out; unfold Hid; rw [chain_nodes]; omega
        have HN2 : Hid ((O.mul (chain xs) (chain xs)).nodes ≤ 1000000) := by have := HXL.out; unfold Hid; rw [O.nodes, chain_nodes]; omega
        have HA : Hid ((chain xs).names = addAll [] xs) := by unfold Hid O.names; rw [chain_all]
        have HA2 : Hid ((O.mul (chain xs) (chain xs)).names = addAll [] xs) := by unfold Hid O.names; rw [O.all, chain_all, names_twice]
        have HMV : Hid ((O.mul (chain xs) (chain xs)).val = .iface 38 (.agg #[.iface ct cx, .iface ct cx])) := by show Value.iface _ (.agg #[(chain xs).val, (chain xs).val]) = _; rw [HCH.out]
        have HKL : Hid (((chain xs).kids.length : Int) = 2 * (min (ll : Int) 1)) := by
          unfold Hid
          cases hx : xs with
          | nil => have h := HXL.out; rw [hx] at h; simp at h; subst h; have : ll = 0 := by omega
                   subst this; rfl
          | cons y ys =>
            have h := HXL.out
            rw [hx] at h
            simp at h
            have hne : xs ≠ [] := by rw [hx]; simp
            rw [← hx, ← List.dropLast_concat_getLast hne, chain_snoc]
            show ((2 : Nat) : Int) = _
            omega
        clear hwl
        generalize addAll [] xs = want at *
        rw [hch]
        clear hch
        go_wp2_with fail
        rw [← HCH.out]
        refine (names_any _ HO.out HN.out _).mono ?_
        rintro e w1 ⟨v1, rfl, hown1, hb1⟩
        rw [HA.out] at hown1
        have hown2 := own_below hown hb1
        have hbr1 := hbr.trans (hb1.mono hbr.size)
        go_wp2_with fail
        refine (sameStr_any want _ _ _ _ _ hown1 hown2).mono ?_
        rintro e w2 ⟨rfl, hb2⟩
        have hown3 := own_below hown2 hb2
        have hbr2 := hbr1.trans (hb2.mono hbr1.size)
        clear hown hown1 hown2 hb1 hb2 hbr hbr1
        rw [HCH.out]
        go_wp2_with fail
        rw [← HMV.out]
        refine (names_any _ HM.out HN2.out _).mono ?_
        rintro e w3 ⟨v3, rfl, hown4, hb3⟩
        rw [HA2.out] at hown4
        have hown5 := own_below hown3 hb3
        have hbr3 := hbr2.trans (hb3.mono hbr2.size)
        go_wp2_with fail
        refine (sameStr_any want _ _ _ _ _ hown4 hown5).mono ?_
        rintro e w4 ⟨rfl, hb4⟩
        have hbr4 := hbr3.trans (hb4.mono hbr3.size)
        clear hown3 hown4 hown5 hb3 hb4 hbr2 hbr3
        go_wp2_with fail
        rw [← HCH.out]
        refine (kids_any _ HO.out _).mono ?_
        rintro e w5 ⟨ka, rfl, _, hb5⟩
        have hbr5 := hbr4.trans (hb5.mono hbr4.size)
        clear hb5 hbr4
        have hkl := HKL.out
        go_wp2_with fail
        all_goals
          refine (wakes_any _).mono ?_
          rintro e w6 ⟨rfl, hb6⟩
          go_wp2_with fail
          go_ret
          exact ⟨rfl, hbr5.trans (hb6.mono hbr5.size)⟩
      · have hlt' : ¬ (i : Int) < (ll : Int) := by omega
        have hltd : decide ((i : Int) < (ll : Int)) = false := by simpa using hlt'
        have HO : Hid (chain xs).Ok := chain_ok xs HXS.out
        have HM : Hid ((O.mul (chain xs) (chain xs)).Ok) := ⟨HO.out, HO.out⟩
        have HN : Hid ((chain xs).nodes ≤ 1000000) := by have := HXL.out; unfold Hid; rw [chain_nodes]; omega
        have HN2 : Hid ((O.mul (chain xs) (chain xs)).nodes ≤ 1000000) := by have := HXL.out; unfold Hid; rw [O.nodes, chain_nodes]; omega
        have HA : Hid ((chain xs).names = addAll [] xs) := by unfold Hid O.names; rw [chain_all]
        have HA2 : Hid ((O.mul (chain xs) (chain xs)).names = addAll [] xs) := by unfold Hid O.names; rw [O.all, chain_all, names_twice]
        have HMV : Hid ((O.mul (chain xs) (chain xs)).val = .iface 38 (.agg #[.iface ct cx, .iface ct cx])) := by show Value.iface _ (.agg #[(chain xs).val, (chain xs).val]) = _; rw [HCH.out]
        have HKL : Hid (((chain xs).kids.length : Int) = 2 * (min (ll : Int) 1)) := by
          unfold Hid
          cases hx : xs with
          | nil => have h := HXL.out; rw [hx] at h; simp at h; subst h; have : ll = 0 := by omega
                   subst this; rfl
          | cons y ys =>
            have h := HXL.out
            rw [hx] at h
            simp at h
            have hne : xs ≠ [] := by rw [hx]; simp
            rw [← hx, ← List.dropLast_concat_getLast hne, chain_snoc]
            show ((2 : Nat) : Int) = _
            omega
        clear hwl
        generalize addAll [] xs = want at *
        rw [hch]
        clear hch
        go_wp2_with fail
        rw [← HCH.out]
        refine (names_any _ HO.out HN.out _).mono ?_
        rintro e w1 ⟨v1, rfl, hown1, hb1⟩
        rw [HA.out] at hown1
        have hown2 := own_below hown hb1
        have hbr1 := hbr.trans (hb1.mono hbr.size)
        go_wp2_with fail
        refine (sameStr_any want _ _ _ _ _ hown1 hown2).mono ?_
        rintro e w2 ⟨rfl, hb2⟩
        have hown3 := own_below hown2 hb2
        have hbr2 := hbr1.trans (hb2.mono hbr1.size)
        clear hown hown1 hown2 hb1 hb2 hbr hbr1
        rw [HCH.out]
        go_wp2_with fail
        rw [← HMV.out]
        refine (names_any _ HM.out HN2.out _).mono ?_
        rintro e w3 ⟨v3, rfl, hown4, hb3⟩
        rw [HA2.out] at hown4
        have hown5 := own_below hown3 hb3
        have hbr3 := hbr2.trans (hb3.mono hbr2.size)
        go_wp2_with fail
        refine (sameStr_any want _ _ _ _ _ hown4 hown5).mono ?_
        rintro e w4 ⟨rfl, hb4⟩
        have hbr4 := hbr3.trans (hb4.mono hbr3.size)
        clear hown3 hown4 hown5 hb3 hb4 hbr2 hbr3
        go_wp2_with fail
        rw [← HCH.out]
        refine (kids_any _ HO.out _).mono ?_
        rintro e w5 ⟨ka, rfl, _, hb5⟩
        have hbr5 := hbr4.trans (hb5.mono hbr4.size)
        clear hb5 hbr4
        have hkl := HKL.out
        go_wp2_with fail
        all_goals
          refine (wakes_any _).mono ?_
          rintro e w6 ⟨rfl, hb6⟩
          go_wp2_with fail
          go_ret
          exact ⟨rfl, hbr5.trans (hb6.mono hbr5.size)⟩

end Go.Proofs.Ytepgeclpmdhepaa
