/- The document's own answer: the names of a tree's Fixes, each once. -/
import Derived.Test.YtdlflpnjmldakaaRefNam
import Derived.Test.YtdlflpnjmldakaaTermCheck
namespace Go.Proofs.Ytdlflpnjmldakaa
open Go.RowKit
set_option linter.unusedVariables false

/-- A text is among the first of a list. -/
def inFirst (L : List ByteArray) (s : ByteArray) (j : Nat) : Bool := (L.take j).any (fun x => decide (x = s))
theorem inFirst_next (L : List ByteArray) (s : ByteArray) (j : Nat) (x : ByteArray) (h : L[j]? = some x) : inFirst L s (j + 1) = (inFirst L s j || decide (x = s)) := by
  unfold inFirst
  rw [take_more _ _ _ h, List.any_append]
  simp

theorem addAll_le (acc l : List ByteArray) : (addAll acc l).length ≤ acc.length + l.length := by
  induction l generalizing acc with
  | nil => simp [addAll]
  | cons x l ih =>
    have h1 := ih (addN acc x)
    have h2 := addN_length acc x
    have e : addAll acc (x :: l) = addAll (addN acc x) l := rfl
    rw [e]
    simp only [List.length_cons]
    omega

set_option maxHeartbeats 4000000 in
set_option maxRecDepth 100000 in
theorem refNames_any (t : T) (hcnt : t.cnt ≤ 999990) (w : World) (v : Value) (hv : TIn w 0 t v) : Calls Try.prog 41 #[v] w fun e w' => ∃ v', e = .returned v' ∧ w'.ownsRow w.heap.size 9 1 v' (addAll [] t.nams).length (strCells (addAll [] t.nams)) ∧ Below w.heap.size w w' := by
  have HV := hidIn hv
  obtain ⟨a, cap, rfl, hc1, hc2, hK⟩ := hv
  have HLEN : Hid (t.nams.length ≤ 999990) := by have := nams_cnt t; show _ ≤ _; omega
  clear hK
  go_enter Try.func41, Try.ntmps41
  go_wp2_with fail
  obtain ⟨W, hW⟩ : ∃ W, W = w.alloc (.cells #[.int .i64 t.kind, .string t.s, .int .i64 t.n, .slice a t.k.length cap] 52) := ⟨_, rfl⟩
  have HB : Hid (Below w.heap.size w W) := by rw [hW]; exact below_alloc (Below.refl _ _) _
  have HVW := hidIn (HV.out.below HB.out)
  rw [← hW]
  clear hW HV
  refine (refNames0_any t hcnt W _ HVW.out).mono ?_
  rintro e w1 ⟨v1, rfl, hown1, hb1⟩
  have HB1 := hidIn hb1
  have HO1 := hidIn hown1
  clear hb1
  obtain ⟨L, HL⟩ : ∃ L, Hid (t.nams = L) := ⟨_, rfl⟩
  rw [HL.out] at hown1 HLEN HO1
  obtain ⟨sa, sc, rfl, htx, hll, _⟩ := own_txt hown1
  obtain ⟨i0, gi, gz0, gz1, gz2⟩ := info_parts infoStr
  have HTX := hidIn htx
  clear hown1 hcnt htx
  have hLl := HLEN.out
  go_wp2_with fail
  go_loopw [11, 3] (fun s11 s3 wr => ∃ i : Nat, i ≤ L.length ∧ s11 = .int .i64 i ∧ wr.ownsRow w1.heap.size 9 1 s3 (addAll [] (L.take i)).length (strCells (addAll [] (L.take i))) ∧ Below w1.heap.size w1 wr) (fun s11 _ _ => L.length - (intOf s11).toNat)
  case atStart => exact ⟨0, by omega, rfl, by simp only [List.take_zero]; exact World.ownsRow_nil _ _ _ _, Below.refl _ _⟩
  case round =>
    obtain ⟨i, hi, rfl, hrow, hbr⟩ := hrel
    obtain ⟨wA, hwA⟩ : ∃ y, y = wr := ⟨_, rfl⟩
    subst hwA
    have HROW := hidIn hrow
    have HBA := hidIn hbr
    clear hrow
    by_cases hlt : i < L.length
    · have hlt' : (i : Int) < (L.length : Int) := by omega
      obtain ⟨s, hs⟩ : ∃ s, L[i]? = some s := ⟨_, List.getElem?_eq_getElem hlt⟩
      obtain ⟨g, rfl, k0⟩ := (HTX.out.below hbr) i s hs
      have HNX : Hid (addAll [] (L.take (i + 1)) = addN (addAll [] (L.take i)) s) := by unfold Hid; rw [take_more _ _ _ hs, addAll_append]; rfl
      have haln : (addAll [] (L.take i)).length ≤ i := by have := addAll_le [] (L.take i); simp at this; omega
      clear hs hbr
      generalize addAll [] (L.take i) = acc at *
      obtain ⟨ao, ac, rfl, hatx, hal, _⟩ := own_txt HROW.out
      have HATX := hidIn hatx
      clear hatx
      go_wp2_with fail
      go_loopw [17, 6] (fun s17 s6 wr => ∃ j : Nat, j ≤ acc.length ∧ s17 = .int .i64 j ∧ s6 = .bool (inFirst acc s j) ∧ wr = wA) (fun s17 _ _ => acc.length - (intOf s17).toNat)
      case atStart => exact ⟨0, by omega, rfl, by simp [inFirst], rfl⟩
      case round =>
        obtain ⟨j, hj, rfl, rfl, hwr⟩ := hrel
        subst hwr
        by_cases hjl : j < acc.length
        · have hjl' : (j : Int) < (acc.length : Int) := by omega
          obtain ⟨y, hy⟩ : ∃ y, acc[j]? = some y := ⟨_, List.getElem?_eq_getElem hjl⟩
          obtain ⟨g2, rfl, k1⟩ := HATX.out j y hy
          have HJ := hidIn (inFirst_next acc s j y hy)
          clear hy
          cases hin : inFirst acc s j with
          | true =>
            rw [hin] at HJ
            go_wp2_with fail
            go_roundw
            case rel => exact ⟨j + 1, by omega, by go_num, by rw [HJ.out]; rfl, trivial⟩
            case measure => simp [intOf]; omega
          | false =>
            rw [hin] at HJ
            by_cases hys : y = s
            · subst hys
              go_wp2_with fail
              go_roundw
              case rel => exact ⟨j + 1, by omega, by go_num, by rw [HJ.out]; simp, trivial⟩
              case measure => simp [intOf]; omega
            · have hys' : ¬ y.toList = s.toList := fun e => hys (toList_inj e)
              have hys2 : (y.toList == s.toList) = false := by rw [beq_eq_false_iff_ne]; exact hys'
              go_wp2_with fail
              go_roundw
              case rel => exact ⟨j + 1, by omega, by go_num, by rw [HJ.out]; simp [hys], trivial⟩
              case measure => simp [intOf]; omega
        · have hje : j = acc.length := by omega
          subst hje
          have HIN : Hid (inFirst acc s acc.length = inN acc s) := by unfold Hid inFirst inN; rw [List.take_length]
          rw [HIN.out]
          cases hin : inN acc s with
          | true =>
            have HAD : Hid (addN acc s = acc) := by unfold Hid addN; rw [if_pos hin]
            go_wp2_with fail
            go_roundw
            case rel => exact ⟨i + 1, by omega, by go_num, by rw [HNX.out, HAD.out]; exact HROW.out, HBA.out⟩
            case measure => simp [intOf]; omega
          | false =>
            have HAD : Hid (addN acc s = acc ++ [s]) := by unfold Hid addN; rw [if_neg (by rw [hin]; simp)]
            go_wp2_with (first
              | (at_builtin; refine wpList_append_own _ rfl _ _ 42 rfl w1.heap.size 9 i0 (.string ByteArray.empty) 1 16 Try.underlying42 gi gz0 gz1 gz2 rfl (by decide) _ _ _ rfl (HROW.out.alloc _) ⟨_, 0, none⟩ 1 1 [.string s] rfl rfl (cell_one_in rfl _ _) (by intro u hu; simp at hu; subst hu; rfl) (by unfold maxLen; omega) (by omega) (by have := HBA.out.size; simp; omega) ?_; intro v2 w2 hown2 hgrow2 _)
              | go_in)
            go_roundw
            case rel => exact ⟨i + 1, by omega, by go_num, by rw [HNX.out, HAD.out]; simpa [strCells] using hown2, ((HBA.out.alloc HBA.out.size _).grown hgrow2 (by have := HBA.out.size; simp; omega) (fun j hj => (HROW.out.lt j hj).1))⟩
            case measure => simp [intOf]; omega
    · have hle : i = L.length := by omega
      subst hle
      have HE : Hid (wA.ownsRow w1.heap.size 9 1 u3 (addAll [] L).length (strCells (addAll [] L))) := by have h := HROW.out; rw [List.take_length] at h; exact h
      go_wp2_with fail
      go_ret
      rw [HL.out]
      exact ⟨_, rfl, ownsRow_base HE.out (Nat.le_trans HB.out.size HB1.out.size), HB.out.trans ((HB1.out.trans (HBA.out.mono HB1.out.size)).mono HB.out.size)⟩

end Go.Proofs.Ytdlflpnjmldakaa
