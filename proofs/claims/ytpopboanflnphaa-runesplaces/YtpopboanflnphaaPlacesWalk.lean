/- The walk of the statement RunesPlaces. -/
import Derived.Test.YtpopboanflnphaaPlacesA
import Derived.Maps.OwnOps
import Derived.Maps.OwnSet
namespace Go.Proofs.Ytpopboanflnphaa
open Go.RowKit Go.Maps
set_option linter.unusedVariables false

theorem keyInt : Keyed Try.prog 3 := int_keyed Try.underlying3
theorem zeroStr (w : World) : (zeroValue 9).run Try.prog w = .ok (.string ByteArray.empty) w := by kernel_rfl

/-- What the map holds: at each place, from 1 on, the rune there, as a text. -/
def MapOk (rs : List Int) (n : Nat) (D : DataW Unit) : Prop := ∀ j r, j < n → rs[j]? = some r → ∀ z, D.atKey (.int .i64 ((j : Int) + 1)) z = .lit (.string (Utf8.encode r).data.toList)

theorem mapOk_step {rs : List Int} {n : Nat} {D : DataW Unit} (h : MapOk rs n D) (hD : IsMap D) (r : Int) (hr : rs[n]? = some r) : MapOk rs (n + 1) (D.put (.int .i64 ((n : Int) + 1)) (.lit (.string (Utf8.encode r).data.toList))) := by
  intro j r' hj hr' z
  by_cases e : j = n
  · subst e
    rw [hr] at hr'
    cases hr'
    exact atKey_put_same hD (by simp [WideAt.IsKeyLit]) _ _
  · rw [atKey_put_other (by intro h; injection h with h1 h2; omega)]
    exact h j r' (by omega) hr' z

theorem plainElem_str_inv {P : Program} {e : TypeId} (he : P.underlying e = some .string) {v : Value} {z : DataW Unit × List MemPlace} (h : plainElem P e v = some z) : ∃ s : ByteArray, v = .string s ∧ z = (.lit (.string s.data.toList), []) ∧ s.size ≤ maxLen := by
  unfold plainElem at h
  rw [he] at h
  cases v <;> simp at h
  exact ⟨_, rfl, h.2.symm, h.1⟩

/-- A look-up in a map of texts that the call has made, where the text there is known. -/
theorem wpList_lookup_text {P : Program} (w : World) {ops : Array Oper} {rest : List Oper} {o : Oper} {a : Act} {Q : Exit → Act → World → Prop}
    (hg : o.guard = none) (m x : Operand) (t : TypeId) (hop : o.op = Op.lookup t m x false)
    (k e : TypeId) (K : Keyed P k) (ht : P.underlying t = some (.map k e)) (he : P.underlying e = some .string) (hz : (zeroValue e).run P w = .ok (.string ByteArray.empty) w) (b n : Nat) (D : DataW Unit)
    (hm : a.eval m = .map (some b)) (hown : w.ownsMap P k (plainElem P e) b n D) (key : Value) (kl : Lit) (hx : a.eval x = key) (hkey : keyOf P k key = some kl)
    (T : ByteArray) (hT : ∀ z, D.atKey kl z = .lit (.string T.data.toList))
    (hK : wpList P ops Q rest (a.put o.dst (.string T)) w) :
    wpList P ops Q (o :: rest) a w := by
  refine wpList_plain hg fun K' hK' => ?_
  obtain ⟨v, ps, hrun, hv⟩ := hown.lookup K ht hz (plainElem_string he (show ByteArray.empty.size ≤ maxLen by decide)) hkey
  obtain ⟨c, rfl, hc, hwc⟩ := plainElem_str_inv he hv
  have hcT : c = T := by
    rw [hT] at hc
    injection hc with h1 h2
    injection h1 with h3
    injection h3 with h4
    cases c; cases T
    simp at h4
    subst h4
    rfl
  subst hcT
  unfold Oper.wp
  simp [execOp, hop, hm, hx, hrun, Result.andThen]
  exact hK' _ _ hK

theorem ownsMap_iterAt {w : World} {P : Program} {k : TypeId} {R : Value → Option (DataW Unit × List MemPlace)} {b n : Nat} {D : DataW Unit} (h : w.ownsMap P k R b n D) {j : Nat} (hj : b ≠ j) (s : ByteArray) (p : Nat) : (w.iterAt j s p).ownsMap P k R b n D := by
  obtain ⟨es, clock, hb, r⟩ := h
  exact ⟨es, clock, by rw [Lib.iterAt_other w j b s p hj]; exact hb, r⟩
theorem ownsMap_below {w w' : World} {P : Program} {k : TypeId} {R : Value → Option (DataW Unit × List MemPlace)} {b n : Nat} {D : DataW Unit} (h : w.ownsMap P k R b n D) (hb : Below w.heap.size w w') : w'.ownsMap P k R b n D := by
  obtain ⟨es, clock, hb', r⟩ := h
  exact ⟨es, clock, by rw [hb.block b (Array.getElem?_eq_some_iff.1 hb').1]; exact hb', r⟩

set_option maxHeartbeats 2000000 in
set_option maxRecDepth 100000 in
theorem places_walk (s : ByteArray) (w : World) (hs : s.size ≤ 140737488351232) :
    Calls Try.prog 6 #[.string s] w fun e w' => e = .returned (.bool true) ∧ Below w.heap.size w w' := by
  go_enter Try.func6, Try.ntmps6
  go_wp2_with fail
  refine calls_same (text_any s 80 w (by unfold maxLen; omega) (by omega)) ?_
  have hs1 := cutTo_size s 80
  generalize cutTo s 80 = S at *
  clear hs
  by_cases hbad : badOf S = 0
  · have hgood := sgOf_good S hbad
    have hval := rest_valid S 0
    have hlen := rest_length S 0
    change ∀ r ∈ runesOf S, _ at hval
    change (runesOf S).length ≤ S.size - 0 at hlen
    go_wp2_with fail
    refine (signs_ok S _ (by omega) hbad).mono ?_
    rintro e w1 ⟨v, rfl, hown, hb1⟩
    obtain ⟨rs, hrs⟩ : ∃ rs, runesOf S = rs := ⟨_, rfl⟩
    rw [hrs] at hgood hval hlen
    have HRS : Hid (runesOf S = rs) := hrs
    generalize sgOf S = L at *
    have HG : Hid (GoodS rs rs.length L) := hgood
    have HV : Hid (∀ r ∈ rs, Utf8.valid r = true) := hval
    have hll : L.length ≤ 9223372036854775807 := by
      rcases hown.2 with ⟨_, h⟩ | ⟨_, _, _, _, _, _, h1, h2, _⟩
      · omega
      · unfold maxLen at h2; omega
    obtain ⟨ao, cap, hv⟩ := row_shape hown
    have hc := sg_cell hown
    subst hv
    have HC : Hid (∀ k (hk : k < L.length), ∃ g, ao = some ⟨g, 0, none⟩ ∧ g < w1.heap.size ∧ w1.cell? ⟨g, k * 2, none⟩ = some (.string L[k].1) ∧ w1.cell? ⟨g, k * 2 + 1, none⟩ = some (.int .i64 L[k].2)) := by
      intro k hk
      obtain ⟨g, c1, e1, gl, e2, e3⟩ := hc k hk
      injection e1 with f1
      exact ⟨g, f1, gl, e2, e3⟩
    clear hc hown hgood hval hrs hbad
    have hfs : (flat L).size ≤ 320 := by
      rw [HG.out.text]
      have h1 := runesBytes_size_le (noBlank (rs.take rs.length))
      have h2 : (noBlank (rs.take rs.length)).length ≤ rs.length := by unfold noBlank; rw [List.take_length]; exact List.length_filter_le _ _
      omega
    go_wp2_with fail
    go_loopw [37, 5] (fun i x wr => ∃ k : Nat, k ≤ L.length ∧ i = .int .i64 k ∧ x = .string (flat (L.take k)) ∧ Below w1.heap.size w1 wr) (fun i _ _ => L.length - (intOf i).toNat)
    case atStart => exact ⟨0, by omega, rfl, rfl, Below.refl _ _⟩
    case round =>
      obtain ⟨k, hk, rfl, rfl, hbr⟩ := hrel
      by_cases hlt : k < L.length
      · have hlt' : (k : Int) < (L.length : Int) := by omega
        obtain ⟨g, f1, gl, c1, c2⟩ := HC.out k hlt
        subst f1
        rw [← hbr.cell (p := ⟨g, k * 2, none⟩) gl] at c1
        rw [← hbr.cell (p := ⟨g, k * 2 + 1, none⟩) gl] at c2
        obtain ⟨A, hA, hpos, hAl, hAj, hne⟩ := sign_at HV.out HG.out k hlt
        have hne' : (L[k].1.toList == []) = false := by simpa using hne
        have hsz1 := flat_take_size L k
        have hsz2 := flat_take_size L (k + 1)
        have hfl : flat (L.take (k + 1)) = flat (L.take k) ++ L[k].1 := by
          rw [List.take_succ_eq_append_getElem hlt, flat_snoc]
        rw [hfl, ByteArray.size_append] at hsz2
        have HF : Hid (flat (L.take (k + 1)) = flat (L.take k) ++ L[k].1) := hfl
        clear hfl hne hAj hAl hpos hA
        generalize hF : flat (L.take k) = F at *
        clear hF
        cases k with
        | zero =>
          simp only [Nat.zero_mul, Nat.zero_add] at c1 c2
          generalize L[0].1 = tx at *
          generalize L[0].2 = pl at *
          go_wp2_with fail
          go_quiet (fail)
          go_wp2_with fail
          go_roundw
          case rel => exact ⟨1, by omega, by go_num, by rw [HF.out], below_drewN hbr _⟩
          case measure => simp [intOf]; omega
        | succ k =>
          obtain ⟨g', f2, gl2, c3, c4⟩ := HC.out k (by omega)
          injection f2 with f3
          injection f3 with f4
          subst f4
          have hord := sign_order HG.out k hlt
          have hord' : ¬ L[k + 1].2 ≤ L[k].2 := by omega
          have hordd : decide (L[k + 1].2 ≤ L[k].2) = false := by simpa using hord'
          clear hord hord' c3
          rw [← hbr.cell (p := ⟨g, k * 2 + 1, none⟩) gl] at c4
          generalize L[k + 1].1 = tx at *
          generalize L[k + 1].2 = pl at *
          generalize L[k].2 = pl0 at *
          go_wp2_with fail
          go_quiet (fail)
          go_wp2_with fail
          go_roundw
          case rel => exact ⟨k + 1 + 1, by omega, by go_num, by rw [HF.out], below_drewN hbr _⟩
          case measure => simp [intOf]; omega
      · have hkl : ¬ (k : Int) < (L.length : Int) := by omega
        have hfl : L.take k = L := List.take_of_length_le (by omega)
        rw [hfl]
        clear hfl
        obtain ⟨wA, hwA⟩ : ∃ y, y = wr := ⟨_, rfl⟩
        subst hwA
        have hmm := @run_makeMap Try.prog
        go_wp2_with fail
        clear hmm
        have hbm := hb1.trans (hbr.mono hb1.size)
        have hrl : rs.length ≤ 80 := by omega
        go_loopw [8, 7] (fun s8 s7 x => ∃ (pos n : Nat) (D : DataW Unit), x.heap[wA.heap.size + 1]? = some (.stringIter S pos) ∧ x.ownsMap Try.prog 3 (plainElem Try.prog 9) wA.heap.size n D ∧ Hid (MapOk rs n D) ∧ s8 = .int .i64 n ∧ s7 = .string (runesBytes (noBlank (rs.take n))) ∧ n ≤ rs.length ∧ Hid (rs.drop n = rest S pos) ∧ Below wA.heap.size wA x ∧ wA.heap.size + 2 ≤ x.heap.size) (fun _ _ x => S.size - x.iterPos (wA.heap.size + 1))
        case atStart =>
          refine ⟨0, 0, .map [], ?_, (World.ownsMap_made _ _ _ _).alloc _, fun j r hj => absurd hj (by omega), rfl, rfl, by omega, ?_, ?_, ?_⟩
          · have := World.iter_heap (wA.alloc (.map #[] 0)) S 0
            simpa using this
          · unfold Hid; rw [List.drop_zero, ← HRS.out]; rfl
          · exact ((Below.refl _ _).alloc (Nat.le_refl _) _).trans ((below_iter _ S 0).mono (by simp))
          · simp [World.iter]
        case round =>
          obtain ⟨pos, n, D, hit, hmap, HM, rfl, rfl, hn, HR, hbx, hsx⟩ := hrel
          by_cases hp : pos < S.size
          · have hwd := width_pos S pos hp
            have hr1 := HR.out
            rw [rest_step S pos hp] at hr1
            have hnl : n < rs.length := by
              have := congrArg List.length hr1
              simp at this; omega
            rw [List.drop_eq_getElem_cons hnl] at hr1
            injection hr1 with hr2 hr3
            obtain ⟨x2, hx2⟩ : ∃ y, y = wr.iterAt (wA.heap.size + 1) S (pos + (Utf8.decode S pos).2) := ⟨_, rfl⟩
            have hnx : ∀ ty, (Instr.next (.pointer (some ⟨wA.heap.size + 1, 0, none⟩)) true ty).run Try.prog wr = .ok (.tuple #[.bool true, .int .i64 pos, .int .i32 (Utf8.decode S pos).1]) x2 := fun ty => by rw [hx2]; exact Lib.run_next_any_at wr (wA.heap.size + 1) S pos ty hit hp
            have hit2 : x2.heap[wA.heap.size + 1]? = some (.stringIter S (pos + (Utf8.decode S pos).2)) := by rw [hx2]; exact Lib.iterAt_heap wr _ S pos _ hit
            have hmap2 : x2.ownsMap Try.prog 3 (plainElem Try.prog 9) wA.heap.size n D := by rw [hx2]; exact ownsMap_iterAt hmap (by omega) _ _
            have hbx2 : Below wA.heap.size wA x2 := by rw [hx2]; exact Lib.below_iterAt hbx (by omega) S _
            have hsx2 : wA.heap.size + 2 ≤ x2.heap.size := by rw [hx2, Lib.iterAt_size]; exact hsx
            have hpos : Hid (wr.iterPos (wA.heap.size + 1) = pos) := iterPos_of hit
            have HR2 : Hid (rs.drop (n + 1) = rest S (pos + (Utf8.decode S pos).2)) := hr3
            have HRn : Hid (rs[n]? = some ((Utf8.decode S pos).1 : Int)) := by unfold Hid; rw [List.getElem?_eq_getElem hnl, hr2]
            have HNB : Hid (noBlank (rs.take (n + 1)) = noBlank (rs.take n) ++ noBlank [((Utf8.decode S pos).1 : Int)]) := by
              unfold Hid; rw [List.take_succ_eq_append_getElem hnl, noBlank_append, hr2]
            clear hr2 hr3 hx2 hit hmap hbx hsx HR
            generalize hr : ((Utf8.decode S pos).1 : Int) = r at *
            generalize hwi : (Utf8.decode S pos).2 = wi at *
            clear hr hwi
            have hesz := (encode_size r).2
            have hwsz : (runesBytes (noBlank (rs.take n))).size ≤ 320 := by
              have h1 := runesBytes_size_le (noBlank (rs.take n))
              have h2 : (noBlank (rs.take n)).length ≤ (rs.take n).length := by unfold noBlank; exact List.length_filter_le _ _
              have h3 : (rs.take n).length ≤ n := List.length_take_le _ _
              omega
            generalize hX : runesBytes (noBlank (rs.take n)) = X at *
            have HX : Hid (runesBytes (noBlank (rs.take n)) = X) := hX
            clear hX
            cases h32 : (r == 32)
            · have hne32 : (r != 32) = true := by simp only [bne, h32]; rfl
              go_wp2_with (at_mapUpdate; refine wpList_mapUpdate_own _ rfl _ _ _ 45 rfl 3 9 keyInt Try.underlying45 _ wA.heap.size n _ rfl hmap2 (by unfold maxLen; omega) _ _ _ rfl rfl (keyOf_int_mk Try.underlying3 (WalkArith.wf_i64 (by omega))) _ [] (plainElem_string Try.underlying9 (by unfold maxLen; omega)) ?_; intro x3 hmap3 hgrow3)
              have hstep := mapOk_step HM.out (hmap2.isMap) r HRn.out
              have hit3 : x3.heap[wA.heap.size + 1]? = some (.stringIter S (pos + wi)) := by rw [hgrow3.block (wA.heap.size + 1) (by omega) (by intro h; injection h with h; omega)]; exact hit2
              have hbx3 : Below wA.heap.size wA x3 := hbx2.grown hgrow3 (by omega) (fun k hk => by injection hk with hk; omega)
              have hsx3 : wA.heap.size + 2 ≤ x3.heap.size := Nat.le_trans hsx2 hgrow3.size
              go_roundw
              case rel => exact ⟨pos + wi, n + 1, _, hit3, hmap3, hstep, by go_num, by rw [HNB.out, runesBytes_append, HX.out]; simp [noBlank, h32, runesBytes_one], by omega, HR2, hbx3, hsx3⟩
              case measure => have := iterPos_of hit3; have := hpos.out; omega
            · have hne32 : (r != 32) = false := by simp only [bne, h32]; rfl
              go_wp2_with (at_mapUpdate; refine wpList_mapUpdate_own _ rfl _ _ _ 45 rfl 3 9 keyInt Try.underlying45 _ wA.heap.size n _ rfl hmap2 (by unfold maxLen; omega) _ _ _ rfl rfl (keyOf_int_mk Try.underlying3 (WalkArith.wf_i64 (by omega))) _ [] (plainElem_string Try.underlying9 (by unfold maxLen; omega)) ?_; intro x3 hmap3 hgrow3)
              have hstep := mapOk_step HM.out (hmap2.isMap) r HRn.out
              have hit3 : x3.heap[wA.heap.size + 1]? = some (.stringIter S (pos + wi)) := by rw [hgrow3.block (wA.heap.size + 1) (by omega) (by intro h; injection h with h; omega)]; exact hit2
              have hbx3 : Below wA.heap.size wA x3 := hbx2.grown hgrow3 (by omega) (fun k hk => by injection hk with hk; omega)
              have hsx3 : wA.heap.size + 2 ≤ x3.heap.size := Nat.le_trans hsx2 hgrow3.size
              go_roundw
              case rel => exact ⟨pos + wi, n + 1, _, hit3, hmap3, hstep, by go_num, by rw [HNB.out, runesBytes_append, HX.out]; simp [noBlank, h32, runesBytes], by omega, HR2, hbx3, hsx3⟩
              case measure => have := iterPos_of hit3; have := hpos.out; omega
          · have hnx : ∀ ty, (Instr.next (.pointer (some ⟨wA.heap.size + 1, 0, none⟩)) true ty).run Try.prog wr = _ := fun ty => Lib.run_next_end_at wr (wA.heap.size + 1) S pos ty hit hp
            have hnr : n = rs.length := by
              have h1 := HR.out
              rw [rest_end S pos hp] at h1
              have := congrArg List.length h1
              simp at this; omega
            rw [show runesBytes (noBlank (rs.take n)) = flat L from by rw [hnr]; exact HG.out.text.symm]
            have HM2 : Hid (MapOk rs rs.length D) := by unfold Hid; rw [← hnr]; exact HM.out
            have hbB : Below w1.heap.size w1 wr := hbr.trans (hbx.mono hbr.size)
            have hbW := hbm.trans (hbx.mono hbm.size)
            clear HM HR hnr
            go_wp2_with fail
            clear hnx hit
            obtain ⟨wB, hwB⟩ : ∃ y, y = wr := ⟨_, rfl⟩
            subst hwB
            go_loopw [92] (fun i x => ∃ k : Nat, k ≤ L.length ∧ i = .int .i64 k ∧ Below wB.heap.size wB x) (fun i _ => L.length - (intOf i).toNat)
            case atStart => exact ⟨0, by omega, rfl, Below.refl _ _⟩
            case round =>
              obtain ⟨k, hk, rfl, hbx3⟩ := hrel
              by_cases hlt : k < L.length
              · have hlt' : (k : Int) < (L.length : Int) := by omega
                obtain ⟨g, f1, gl, c1, c2⟩ := HC.out k hlt
                subst f1
                have hsB := hbB.size
                have hbC : Below w1.heap.size w1 wr := hbB.trans (hbx3.mono hsB)
                rw [← hbC.cell (p := ⟨g, k * 2, none⟩) gl] at c1
                rw [← hbC.cell (p := ⟨g, k * 2 + 1, none⟩) gl] at c2
                have hmapC := ownsMap_below hmap hbx3
                obtain ⟨A, hA, hpos, hAl, hAj, hne⟩ := sign_at HV.out HG.out k hlt
                rw [hA] at c2
                have hgC : g < wr.heap.size := by have := hbx3.size; omega
                have HAJ : Hid (∀ j, j < (runesOf L[k].1).length → (runesOf L[k].1)[j]? = rs[A + j]?) := hAj
                generalize L[k].1 = tx at *
                have HCM : Hid (wr.ownsMap Try.prog 3 (plainElem Try.prog 9) wA.heap.size n D) := hmapC
                have hbWC := hbW.trans (hbx3.mono hbW.size)
                clear hA hpos hAj hne hmapC hbC
                have hAr : A + (runesOf tx).length ≤ 80 := by omega
                go_wp2_with fail
                obtain ⟨wC, hwC⟩ : ∃ y, y = wr := ⟨_, rfl⟩
                subst hwC
                go_loopw [13] (fun i x => ∃ pos c : Nat, x = wC.iter tx pos ∧ i = .int .i64 c ∧ c ≤ (runesOf tx).length ∧ Hid ((runesOf tx).drop c = rest tx pos)) (fun _ x => tx.size - x.iterPos wC.heap.size)
                case atStart => exact ⟨0, 0, rfl, rfl, by omega, rfl⟩
                case round =>
                  obtain ⟨pos, c, rfl, rfl, hcl, HR⟩ := hrel
                  by_cases hp4 : pos < tx.size
                  · have hwd := width_pos tx pos hp4
                    have hr1 := HR.out
                    rw [rest_step tx pos hp4] at hr1
                    have hcl2 : c < (runesOf tx).length := by
                      have := congrArg List.length hr1
                      simp at this; omega
                    rw [List.drop_eq_getElem_cons hcl2] at hr1
                    injection hr1 with hr2 hr3
                    have HR2 : Hid ((runesOf tx).drop (c + 1) = rest tx (pos + (Utf8.decode tx pos).2)) := hr3
                    have hget : rs[A + c]? = some ((Utf8.decode tx pos).1 : Int) := by
                      rw [← HAJ.out c hcl2, List.getElem?_eq_getElem hcl2, hr2]
                    have hAc : A + c < rs.length := (List.getElem?_eq_some_iff.1 hget).1
                    have HT : Hid (∀ z, D.atKey (.int .i64 ((A : Int) + 1 + (c : Int))) z = .lit (.string (Utf8.encode ((Utf8.decode tx pos).1 : Int)).data.toList)) := by
                      intro z
                      have := HM2.out (A + c) _ hAc hget z
                      rw [show (((A + c : Nat) : Int) + 1) = (A : Int) + 1 + (c : Int) from by omega] at this
                      exact this
                    have hnx : ∀ ty, (Instr.next (.pointer (some ⟨wC.heap.size, 0, none⟩)) true ty).run Try.prog (wC.iter tx pos) = _ := fun ty => run_next_any wC tx pos ty hp4
                    have hc2 : (wC.iter tx (pos + (Utf8.decode tx pos).2)).cell? ⟨g, k * 2 + 1, none⟩ = some (.int .i64 ((A : Int) + 1)) := ((below_iter wC tx _).cell (p := ⟨g, k * 2 + 1, none⟩) hgC).trans c2
                    have hmap4 := ownsMap_below HCM.out (below_iter wC tx (pos + (Utf8.decode tx pos).2))
                    clear hr2 hr3 hget HR
                    generalize hr : ((Utf8.decode tx pos).1 : Int) = r at *
                    generalize hwi : (Utf8.decode tx pos).2 = wi at *
                    clear hr hwi
                    go_wp2_with (at_lookup; refine wpList_lookup_text _ rfl _ _ 45 rfl 3 9 keyInt Try.underlying45 Try.underlying9 (zeroStr _) wA.heap.size n D rfl hmap4 _ (.int .i64 ((A : Int) + 1 + (c : Int))) rfl (keyOf_int_mk Try.underlying3 (WalkArith.wf_i64 (by omega))) (Utf8.encode r) HT.out ?_)
                    go_roundw
                    case rel =>
                      exact ⟨pos + wi, c + 1, rfl, by go_num, by omega, HR2⟩
                    case measure => simp; omega
                  · have hnx : ∀ ty, (Instr.next (.pointer (some ⟨wC.heap.size, 0, none⟩)) true ty).run Try.prog (wC.iter tx pos) = _ := fun ty => run_next_end wC tx pos ty hp4
                    go_wp2_with fail
                    go_roundw
                    case rel => exact ⟨k + 1, by omega, by go_num, hbx3.trans ((below_iter wC tx pos).mono hbx3.size)⟩
                    case measure => simp [intOf]; omega
              · have hkl : ¬ (k : Int) < (L.length : Int) := by omega
                generalize flat L = F at *
                go_wp2_with fail
                refine (wakes_any _).mono ?_
                rintro e w9 ⟨rfl, hb9⟩
                go_wp2_with fail
                go_ret
                have h8 := hbW.trans (hbx3.mono hbW.size)
                exact ⟨rfl, h8.trans (hb9.mono h8.size)⟩
  · go_wp2_with fail
    refine (signs_bad S _ (by unfold maxLen; omega) hbad).mono ?_
    rintro e w1 ⟨rfl, hb1⟩
    have hb1' : ((badOf S : Nat) : Int) ≠ 0 := by omega
    have hb2 : (((badOf S : Nat) : Int) != 0) = true := by rw [bne_iff_ne]; exact hb1'
    have hb3 : (1 : Int) ≤ ((badOf S : Nat) : Int) := by omega
    clear hb1'
    generalize badOf S = bd at *
    go_wp2_with fail
    refine (wakes_any _).mono ?_
    rintro e w2 ⟨rfl, hbw⟩
    go_wp2_with fail
    go_ret
    exact ⟨rfl, hb1.trans (hbw.mono hb1.size)⟩

end Go.Proofs.Ytpopboanflnphaa
