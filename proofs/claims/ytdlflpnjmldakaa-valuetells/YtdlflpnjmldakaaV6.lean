/- The document's own answer: the names of a number's tree that are not fixed. -/
import Derived.Test.YtdlflpnjmldakaaV5
import Derived.Test.YtdlflpnjmldakaaRefNm
import Derived.Test.YtdlflpnjmldakaaBridgeO
namespace Go.Proofs.Ytdlflpnjmldakaa.Vl
open Go.RowKit Wd Cn
set_option linter.unusedVariables false

set_option maxHeartbeats 2000000 in
set_option maxRecDepth 100000 in
theorem refNeeds_any (o : O) (hcnt : (plain o).cnt ≤ 999990) (hnodes : o.nodes ≤ 1000000) (w : World) (v : Value) (ht : TIn w 0 (plain o) v) (B r : Nat) (K : KW) (vF vC : Value) (hr : RIn w B r K vF vC) (hl : K.F.length ≤ 1000000) (d : Int) :
    Calls Try.prog 19 #[v, .int .i64 d, .pointer (some ⟨r, 0, none⟩)] w fun e w' => ∃ v', e = .returned v' ∧ w'.ownsRow w.heap.size 9 1 v' (lackN K d o.names).length (strCells (lackN K d o.names)) ∧ Below w.heap.size w w' := by
  obtain ⟨i0, gi, gz0, gz1, gz2⟩ := info_parts infoStr
  have HT := hidV ht
  obtain ⟨a, cap0, rfl, h1, h2, h3⟩ := ht
  have HB : Hid (Below w.heap.size w (w.alloc (.cells #[.int .i64 (plain o).kind, .string (plain o).s, .int .i64 (plain o).n, .slice a (plain o).k.length cap0] 52))) := below_alloc (Below.refl _ _) _
  have HN := hidV (refNames_any (plain o) hcnt _ _ (HT.out.below HB.out))
  rw [plain_names] at HN
  have HR := hidV (hr.below HB.out)
  have hnl := names_length o
  obtain ⟨l, hle⟩ : ∃ l, o.names = l := ⟨_, rfl⟩
  have HNE := hidV hle
  rw [hle] at HN hnl
  clear h3 hr HT hle
  go_enter Try.func19, Try.ntmps19
  go_wp2_with fail
  refine HN.out.mono ?_
  rintro e w2 ⟨v2, rfl, hown, hb2⟩
  obtain ⟨ao, cap, rfl, hcl, hll⟩ := own_str hown
  have HC := hidV hcl
  have HB2 : Hid (Below w.heap.size w w2) := HB.out.trans (hb2.mono HB.out.size)
  have HR2 := hidV (HR.out.below hb2)
  have hn1 : l.length ≤ 1000000 := by omega
  clear hcl hown hb2 hnl hnodes HN HR HB
  go_wp2_with fail
  go_loopw [15, 7] (fun s15 s7 wr => ∃ i : Nat, i ≤ l.length ∧ s15 = .int .i64 i ∧ wr.ownsRow w2.heap.size 9 1 s7 (lackN K d (l.take i)).length (strCells (lackN K d (l.take i))) ∧ Below w2.heap.size w2 wr) (fun s15 _ _ => l.length - (intOf s15).toNat)
  case atStart => exact ⟨0, by omega, rfl, World.ownsRow_nil _ _ _ _, Below.refl _ _⟩
  case round =>
    obtain ⟨i, hi, rfl, hrow, hbr⟩ := hrel
    have HBR := hidV hbr
    have HROW := hidV hrow
    clear hbr hrow
    by_cases hlt : i < l.length
    · have hlt' : (i : Int) < (l.length : Int) := by omega
      obtain ⟨g, rfl, hg, hc⟩ := HC.out i hlt
      have hcr : wr.cell? ⟨g, i, none⟩ = some (.string l[i]) := (HBR.out.cell (p := ⟨g, i, none⟩) hg).trans hc
      have HT : Hid (lackN K d (l.take (i + 1)) = if (K.fixed (l[i], d)).isSome = true then lackN K d (l.take i) else lackN K d (l.take i) ++ [l[i]]) := by
        unfold Hid
        rw [take_more l i l[i] (List.getElem?_eq_getElem hlt), lackN_snoc]
      have hal : (lackN K d (l.take i)).length ≤ 1000000 := by
        have h1 := lackN_length K d (l.take i)
        have h3 : (l.take i).length ≤ l.length := by rw [List.length_take]; omega
        omega
      clear hc
      generalize l[i] = s at *
      generalize lackN K d (l.take i) = ac at *
      have HF := hidV (refFixed_any wr B r K vF vC (HR2.out.below HBR.out) s d hl)
      go_wp2_with fail
      refine HF.out.mono ?_
      rintro e w3 ⟨rfl, hb3⟩
      have HBR3 := hidV (HBR.out.trans (hb3.mono HBR.out.size))
      have hrow := HROW.out.kept (grown_of_below hb3 none) (by cases hv : u7.ownBlock <;> simp)
      have HROW3 := hidV hrow
      clear hb3 HF
      cases hf : (K.fixed (s, d)).isSome
      · have HT2 : Hid (lackN K d (l.take (i + 1)) = ac ++ [s]) := by unfold Hid; rw [HT.out, if_neg (by rw [hf]; simp)]
        clear HT hf
        go_wp2_with (first
          | (at_builtin; refine wpList_append_own _ rfl _ _ 42 rfl w2.heap.size 9 i0 (.string ByteArray.empty) 1 16 Try.underlying42 gi gz0 gz1 gz2 rfl (by decide) _ _ _ rfl ((hidV hrow).out.alloc _) ⟨w3.heap.size, 0, none⟩ 1 1 [.string s] rfl rfl (cell_one_at w3 _ _) (by intro u hu; simp at hu; subst hu; rfl) (by unfold maxLen; omega) (by omega) (by have := HBR3.out.size; simp; omega) ?_; intro v4 w4 hown4 hgrow4 _)
          | go_in)
        have HR4 : Hid (w4.ownsRow w2.heap.size 9 1 v4 (ac ++ [s]).length (strCells (ac ++ [s]))) := by simpa [strCells, Hid] using hown4
        have HB4 : Hid (Below w2.heap.size w2 w4) := (HBR3.out.alloc HBR3.out.size _).grown hgrow4 (by have := HBR3.out.size; simp; omega) (fun j hj => (HROW3.out.lt j hj).1)
        clear hown4 hgrow4 hrow HROW
        go_wp2_with fail
        go_roundw
        case rel => exact ⟨i + 1, by omega, by go_num, by rw [HT2.out]; exact HR4.out, HB4.out⟩
        case measure => simp [intOf]; omega
      · have HT2 : Hid (lackN K d (l.take (i + 1)) = ac) := by unfold Hid; rw [HT.out, if_pos hf]
        clear HT hf hrow
        go_wp2_with fail
        go_roundw
        case rel => exact ⟨i + 1, by omega, by go_num, by rw [HT2.out]; exact HROW3.out, HBR3.out⟩
        case measure => simp [intOf]; omega
    · have hle : i = l.length := by omega
      subst hle
      have HR4 : Hid (wr.ownsRow w2.heap.size 9 1 u7 (lackN K d l).length (strCells (lackN K d l))) := by have h := HROW.out; rw [List.take_length] at h; exact h
      clear HROW
      go_wp2_with fail
      go_ret
      rw [HNE.out]
      refine ⟨_, rfl, ?_, HB2.out.trans (HBR.out.mono HB2.out.size)⟩
      have h := HR4.out
      refine ⟨h.1, ?_⟩
      rcases h.2 with h | ⟨g, cap, cur, h1, h2, h3⟩
      · exact .inl h
      · exact .inr ⟨g, cap, cur, h1, Nat.le_trans HB2.out.size h2, h3⟩

end Go.Proofs.Ytdlflpnjmldakaa.Vl
