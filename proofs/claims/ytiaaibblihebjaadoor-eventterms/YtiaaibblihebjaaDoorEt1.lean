/- The helpers of the statements on lists of texts and on names. -/
import Derived.Test.YtiaaibblihebjaaDoorNames
import Derived.Test.YtiaaibblihebjaaDoorTermForm
import Derived.Test.YtiaaibblihebjaaDoorWSize
import Derived.Test.YtiaaibblihebjaaDoorEvB
import Derived.Test.YtiaaibblihebjaaDoorTermSm
import Derived.Test.YtiaaibblihebjaaDoorTermW
import Derived.Test.YtiaaibblihebjaaDoorMakerC
namespace Go.Proofs.YtiaaibblihebjaaDoor
open Go.RowKit
set_option linter.unusedVariables false

theorem below_drewN {B : Nat} {w w' : World} (h : Below B w w') (n : Nat) : Below B w (w'.drewN n) := ⟨h.os, h.tape, h.output, h.size, h.block⟩
theorem own_str {w : World} {B : Nat} {v : Value} {l : List ByteArray} (h : w.ownsRow B 9 1 v l.length (strCells l)) : ∃ ao cap, v = .slice ao l.length cap ∧ (∀ k (hk : k < l.length), ∃ g, ao = some ⟨g, 0, none⟩ ∧ g < w.heap.size ∧ w.cell? ⟨g, k, none⟩ = some (.string l[k])) ∧ l.length ≤ 9223372036854775807 := by
  rcases h.2 with ⟨rfl, h0⟩ | ⟨g, cap, cur, rfl, hb, hg, hnc, hcm, _⟩
  · exact ⟨none, 0, by rw [h0], fun k hk => by omega, by omega⟩
  · refine ⟨some ⟨g, 0, none⟩, cap, rfl, fun k hk => ⟨g, rfl, (Array.getElem?_eq_some_iff.1 hg).1, ?_⟩, by unfold maxLen at hcm; omega⟩
    rw [h.cellAt k (by omega)]
    simp [strCells, hk]

end Go.Proofs.YtiaaibblihebjaaDoor
namespace Go.Proofs.YtiaaibblihebjaaDoor
open Go.RowKit Go.Maps
set_option linter.unusedVariables false

def labStep (st : List ByteArray) (c : C) : List ByteArray := if c.kind = 5 then st ++ [c.text] else st
/-- The labels of a contract's Ors, in the order of a walk. -/
def C.labels : C → List ByteArray
  | .give c => c.labels
  | .and l r => l.labels ++ r.labels
  | .or s l r => s :: (l.labels ++ r.labels)
  | .scale _ c => c.labels
  | .when _ c => c.labels
  | .iff _ l r => l.labels ++ r.labels
  | _ => []
theorem labels_fold (c : C) : ∀ st, c.pre.foldl labStep st = st ++ c.labels := by
  induction c <;> intro st <;> simp_all [C.pre, labStep, C.kind, C.text, C.labels]
theorem labels_ok (c : C) (h : c.Ok) : ∀ s ∈ c.labels, s.size ≤ 2147483648 := by
  induction c with
  | give c ih => exact ih h
  | and l r h1 h2 => intro s hs; simp only [C.labels, List.mem_append] at hs; rcases hs with hs | hs; exact h1 h.1 s hs; exact h2 h.2 s hs
  | or t l r h1 h2 =>
    intro s hs
    simp only [C.labels, List.mem_cons, List.mem_append] at hs
    rcases hs with rfl | hs | hs
    · exact h.1
    · exact h1 h.2.1 s hs
    · exact h2 h.2.2 s hs
  | scale o c ih => exact ih h.2
  | when d c ih => exact ih h.2
  | iff o l r h1 h2 => intro s hs; simp only [C.labels, List.mem_append] at hs; rcases hs with hs | hs; exact h1 h.2.1 s hs; exact h2 h.2.2 s hs
  | _ => intro s hs; simp [C.labels] at hs
theorem labels_weight (c : C) : c.labels.length ≤ c.weight := by
  induction c <;> simp [C.labels, C.weight] <;> omega

/-- What is kept while labels are gathered. -/
def LabInv (V : Nat) (own : Nat → Prop) (st : List ByteArray) (w : World) : Prop :=
  ∃ v, own = (fun k => k = V ∨ v.ownBlock = some k) ∧ w.heap[V]? = some (.cells #[v] 23 (0, 0)) ∧ w.ownsRow (V + 1) 9 1 v st.length (strCells st)
theorem cell_one_in {w : World} {b : Nat} (hb : b = w.heap.size) (x : Value) (t : TypeId) : ∀ j u, [x][j]? = some u → (w.alloc (.cells #[x] t)).cell? ((⟨b, 0, none⟩ : Addr).add j) = some u := by
  subst hb
  exact cell_one_at w x t
theorem own_shape {w : World} {B e size n : Nat} {v : Value} {xs : List Value} (h : w.ownsRow B e size v n xs) : ∃ ao cap, v = .slice ao n cap := by
  rcases h.2 with ⟨rfl, h0⟩ | ⟨g, cap, cur, rfl, _⟩
  · exact ⟨none, 0, by rw [h0]⟩
  · exact ⟨_, _, rfl⟩
theorem own_slice {w : World} {B : Nat} {v : Value} {l : List ByteArray} (h : w.ownsRow B 9 1 v l.length (strCells l)) : ∃ ao cap, v = .slice ao l.length cap := by
  obtain ⟨ao, cap, e, _⟩ := own_str h
  exact ⟨ao, cap, e⟩

set_option maxHeartbeats 1000000 in
set_option maxRecDepth 100000 in
theorem labels1_any (V : Nat) : Shows 51 #[.pointer (some ⟨V, 0, none⟩)] (LabInv V) labStep List.length := by
  refine ⟨enters_of Tryd.func51 (by kernel_rfl) rfl, ?_, ?_, ?_, ?_⟩
  · rintro own st w w' ⟨v, h1, h2, h3⟩ hb
    exact ⟨v, h1, (hb.block V (Array.getElem?_eq_some_iff.1 h2).1).trans h2, h3.kept (grown_of_below hb none) (by cases hv : v.ownBlock <;> simp)⟩
  · rintro own st w ⟨v, h1, h2, h3⟩ b hb
    subst h1
    rcases hb with rfl | hb
    · exact (Array.getElem?_eq_some_iff.1 h2).1
    · exact (h3.lt b hb).2
  · intro st c
    unfold labStep
    split <;> simp [C.own]
  · rintro own st w c a ⟨v, rfl, h2, h3⟩ hok hn hna hsz
    obtain ⟨i0, gi, gz0, gz1, gz2⟩ := info_parts infoStr
    have HLT := hidIn (Array.getElem?_eq_some_iff.1 h2).1
    have HV := hidIn h2
    show Calls Tryd.prog 51 #[headT c, .slice a c.nums.length c.nums.length, .pointer (some ⟨V, 0, none⟩)] w _
    clear hn hna
    unfold headT
    by_cases hk : c.kind = 5
    · have HST : Hid (labStep st c = st ++ [c.text]) := by unfold Hid labStep; rw [if_pos hk]
      have hsl : st.length ≤ 1000000 := by omega
      obtain ⟨ao, cap, rfl⟩ := own_slice h3
      have c0 : ∀ o, (w.alloc o).cell? ⟨V, 0, none⟩ = some (.slice ao st.length cap) := fun o => (cell_of_row _ _ _ _ _ _ (heap_keeps h2 o)).trans rfl
      rw [hk]
      obtain ⟨W, hW⟩ : ∃ W, W = (w.alloc (.cells #[.int .i64 5, .string c.text, .int .i64 c.day] 74)) := ⟨_, rfl⟩
      have hVW : W.heap.size = w.heap.size + 1 := by rw [hW]; simp
      have hrow : W.ownsRow (V + 1) 9 1 (.slice ao st.length cap) st.length (strCells st) := by rw [hW]; exact h3.alloc _
      have HBW : Hid (Below w.heap.size w W) := by rw [hW]; exact below_alloc (Below.refl _ _) _
      have HVW : Hid (W.heap[V]? = some (.cells #[.slice ao st.length cap] 23 (0, 0))) := by rw [hW]; exact heap_keeps h2 _
      have HFIN : Hid (∀ v2 w2, w2.ownsRow (V + 1) 9 1 v2 (st.length + 1) (strCells st ++ [.string c.text]) → (W.alloc (.cells #[.string c.text] 9)).grownBy w2 (Value.slice ao st.length cap).ownBlock → (v2.ownBlock = (Value.slice ao st.length cap).ownBlock ∨ v2.ownBlock = some (W.alloc (.cells #[.string c.text] 9)).heap.size) → w2.heap[V]? = some (.cells #[.slice ao st.length cap] 23 (0, 0)) ∧ ∃ own', LabInv V own' (labStep st c) (w2.setCell ⟨V, 0, none⟩ v2) ∧ Dyn (fun k => k = V ∨ (Value.slice ao st.length cap).ownBlock = some k) w own' (w2.setCell ⟨V, 0, none⟩ v2)) := by
        intro v2 w2 hown2 hgrow2 hloc
        have hVne : some V ≠ (Value.slice ao st.length cap).ownBlock := fun e => by have := (hrow.lt V e.symm).1; omega
        have hs2 := hgrow2.size
        rw [World.size_alloc] at hs2
        have hVlt : V < (W.alloc (.cells #[.string c.text] 9)).heap.size := by rw [World.size_alloc]; have := HLT.out; omega
        have hV2 : w2.heap[V]? = some (.cells #[.slice ao st.length cap] 23 (0, 0)) := (hgrow2.block V hVlt hVne).trans (heap_keeps HVW.out _)
        refine ⟨hV2, fun k => k = V ∨ v2.ownBlock = some k, ⟨v2, rfl, heap_setCell_same w2 V 0 _ _ _ hV2, ?_⟩, ?_⟩
        · rw [HST.out]
          have := ownsRow_setCell_below hown2 (a := ⟨V, 0, none⟩) (by show V < V + 1; omega) v2
          simpa [strCells] using this
        · refine ⟨hgrow2.os.trans HBW.out.os, hgrow2.tape.trans HBW.out.tape, hgrow2.output.trans HBW.out.output, by rw [World.size_setCell]; omega, fun k hk hno => ?_, fun k hk => ?_⟩
          · have hkV : k ≠ V := fun e => hno (.inl e)
            have hkb : some k ≠ (Value.slice ao st.length cap).ownBlock := fun e => hno (.inr e.symm)
            rw [heap_setCell_other w2 ⟨V, 0, none⟩ k _ hkV, hgrow2.block k (by rw [World.size_alloc]; omega) hkb, Below.heap_alloc _ _ _ (by omega)]
            exact HBW.out.block k hk
          · rcases hk with hk | hk
            · exact .inl (.inl hk)
            · rcases hloc with h | h
              · rw [h] at hk; exact .inl (.inr hk)
              · rw [h] at hk
                injection hk with hk
                rw [World.size_alloc] at hk
                exact .inr (by omega)
      have hVs : V + 1 ≤ w.heap.size := HLT.out
      have HVs := hidIn hVs
      subst hW
      have HROW := hidIn hrow
      clear hVs h2 h3 hk hrow hVW HVW HBW HV
      go_enter Tryd.func51, Tryd.ntmps51
      go_wp2_with (first
        | (at_builtin; refine wpList_append_own_at _ rfl _ _ 23 rfl (V + 1) 9 i0 (.string ByteArray.empty) 1 16 Tryd.underlying23 gi gz0 gz1 gz2 rfl (by decide) _ _ _ rfl (HROW.out.alloc _) ⟨w.heap.size + 1, 0, none⟩ 1 1 [.string c.text] rfl rfl (cell_one_in (by simp) _ _) (by intro u hu; simp at hu; subst hu; rfl) (by unfold maxLen; omega) (by omega) (by have := HVs.out; simp; omega) ?_; intro v2 w2 hown2 hgrow2 _ hloc; have hF := hidIn (HFIN.out v2 w2 hown2 hgrow2 hloc); obtain ⟨ao2, cap2, rfl⟩ := own_shape hown2; have k0 := cell_of_row _ _ 0 _ _ _ hF.out.1; have k1 := frozen_of_row _ _ 0 _ _ hF.out.1; clear hown2 hgrow2 hloc HFIN HROW c0)
        | go_in)
      go_end0
      exact ⟨rfl, hF.out.2⟩
    · have HST : Hid (labStep st c = st) := by unfold Hid labStep; rw [if_neg hk]
      have hk' : (c.kind == 5) = false := by simpa using hk
      have HIN : Hid (LabInv V (fun k => k = V ∨ v.ownBlock = some k) st w) := ⟨v, rfl, h2, h3⟩
      clear h2 h3
      go_enter Tryd.func51, Tryd.ntmps51
      go_wp2_with fail
      go_end0
      have hb : Below w.heap.size w (w.alloc (.cells #[.int .i64 c.kind, .string c.text, .int .i64 c.day] 74)) := below_alloc (Below.refl _ _) _
      obtain ⟨v, h1, h2, h3⟩ := HIN.out
      refine ⟨rfl, _, ?_, Dyn.of_below hb⟩
      rw [HST.out]
      exact ⟨v, h1, heap_keeps h2 _, h3.alloc _⟩

end Go.Proofs.YtiaaibblihebjaaDoor
namespace Go.Proofs.YtiaaibblihebjaaDoor
open Go.RowKit Go.Maps
set_option linter.unusedVariables false

theorem ownsRow_base {w : World} {B B' e size n : Nat} {v : Value} {xs : List Value} (h : w.ownsRow B e size v n xs) (hB : B' ≤ B) : w.ownsRow B' e size v n xs := by
  refine ⟨h.1, ?_⟩
  rcases h.2 with h | ⟨g, cap, cur, h1, h2, h3⟩
  · exact .inl h
  · exact .inr ⟨g, cap, cur, h1, by omega, h3⟩

set_option maxHeartbeats 1000000 in
set_option maxRecDepth 100000 in
theorem labelsT_any (c : C) (hok : c.Ok) (hsz : c.weight ≤ 1000000) (w : World) : Calls Tryd.prog 31 #[c.val] w fun e w' => ∃ v, e = .returned v ∧ w'.ownsRow w.heap.size 9 1 v c.labels.length (strCells c.labels) ∧ Below w.heap.size w w' := by
  have hmf : ∀ (fn : Fn) (first cap : Array Value) (w : World), (Instr.makeFunc fn first cap).run Tryd.prog w = .ok (.func fn first cap) w := fun _ _ _ _ => rfl
  go_enter Tryd.func31, Tryd.ntmps31
  go_wp2_with fail
  refine (walk_any (labels1_any w.heap.size) c hok (fun k => k = w.heap.size ∨ (Value.slice none 0 0).ownBlock = some k) [] _ ⟨.slice none 0 0, rfl, heap_alloc_new _ _, World.ownsRow_nil _ _ _ _⟩ (by simpa using hsz)).mono ?_
  rintro e w1 ⟨rfl, own1, ⟨v, rfl, hv, hrow⟩, hd⟩
  rw [labels_fold, List.nil_append] at hrow
  have hc : w1.cell? ⟨w.heap.size, 0, none⟩ = some v := (cell_of_row _ _ _ _ _ _ hv).trans rfl
  have HROW := hidIn hrow
  obtain ⟨ao, cap, rfl⟩ := own_shape hrow
  clear hrow hv
  go_wp2_with fail
  go_ret
  have hb : Below w.heap.size w (w.alloc (.cells #[.slice none 0 0] 23)) := below_alloc (Below.refl _ _) _
  refine ⟨_, rfl, ownsRow_base HROW.out (by omega), hb.trans (hd.below (by simp) (fun k hk => ?_))⟩
  rcases hk with rfl | hk
  · exact Nat.le_refl _
  · cases hk

/-- What is known of a list of texts in memory. -/
def HasTxt (w : World) (a : Option Addr) (l : List ByteArray) : Prop := ∀ (i : Nat) (s : ByteArray), l[i]? = some s → ∃ g, a = some ⟨g, 0, none⟩ ∧ w.cell? ⟨g, i, none⟩ = some (.string s)
theorem HasTxt.below {w w' : World} {a : Option Addr} {l : List ByteArray} (h : HasTxt w a l) (hb : Below w.heap.size w w') : HasTxt w' a l := by
  intro i o hi
  obtain ⟨b, e, hc⟩ := h i o hi
  exact ⟨b, e, (hb.cell (World.block_lt_of_cell? w _ hc)).trans hc⟩
theorem own_txt {w : World} {B : Nat} {v : Value} {l : List ByteArray} (h : w.ownsRow B 9 1 v l.length (strCells l)) : ∃ ao cap, v = .slice ao l.length cap ∧ HasTxt w ao l ∧ l.length ≤ 9223372036854775807 ∧ (∀ g, ao = some ⟨g, 0, none⟩ → v.ownBlock = some g) := by
  have h' := own_str h
  obtain ⟨ao, cap, rfl, hc, hl⟩ := h'
  refine ⟨ao, cap, rfl, fun i s hi => ?_, hl, fun g e => by subst e; rfl⟩
  obtain ⟨hlt, rfl⟩ := List.getElem?_eq_some_iff.1 hi
  obtain ⟨g, e, _, hcc⟩ := hc i hlt
  exact ⟨g, e, hcc⟩
theorem HasTxt.grew {w w' : World} {a : Option Addr} {l : List ByteArray} {M : Nat} {row : Option Nat} (h : HasTxt w a l) (hg : Grew M row w w') (hM : ∀ b, a = some ⟨b, 0, none⟩ → b ≠ M ∧ row ≠ some b) : HasTxt w' a l := by
  intro i o hi
  obtain ⟨b, e, hc⟩ := h i o hi
  obtain ⟨h1, h2⟩ := hM b e
  refine ⟨b, e, ?_⟩
  have hb := hg.block b (World.block_lt_of_cell? w _ hc) h1 h2
  simp only [World.cell?, hb] at hc ⊢
  exact hc
theorem addAll_snoc (acc l : List ByteArray) (s : ByteArray) : addAll acc (l ++ [s]) = addN (addAll acc l) s := by simp [addAll]

set_option maxHeartbeats 2000000 in
set_option maxRecDepth 100000 in
theorem addNew_any (more : List ByteArray) (hok : ∀ s ∈ more, s.size ≤ 2147483648) (M : Nat) (v : Value) (acc : List ByteArray) (w : World) (h : NIn w M v acc) (hl : acc.length + more.length ≤ 1000000) (ao : Option Addr) (cap : Nat) (hm : HasTxt w ao more) (hne : ∀ g, ao = some ⟨g, 0, none⟩ → g ≠ M ∧ v.ownBlock ≠ some g) :
    Calls Tryd.prog 50 #[v, .map (some M), .slice ao more.length cap] w (NPost w M v (addAll acc more)) := by
  obtain ⟨i0, gi, gz0, gz1, gz2⟩ := info_parts infoStr
  have HIN : Hid (NIn w M v acc) := h
  have HM := hidIn hm
  have HNE := hidIn hne
  have HOK := hidIn hok
  have hml : more.length ≤ 1000000 := by omega
  have HL := hidIn hl
  clear h hm hne hok hl
  go_enter Tryd.func50, Tryd.ntmps50
  go_wp2_with fail
  go_loopw [13, 0] (fun s13 s0 wr => ∃ i : Nat, i ≤ more.length ∧ s13 = .int .i64 i ∧ NIn wr M s0 (addAll acc (more.take i)) ∧ Grew M v.ownBlock w wr ∧ (s0.ownBlock = v.ownBlock ∨ ∀ k, s0.ownBlock = some k → w.heap.size ≤ k)) (fun s13 _ _ => more.length - (intOf s13).toNat)
  case atStart => exact ⟨0, by omega, rfl, HIN.out, Grew.refl _ _ _, .inl rfl⟩
  case round =>
    obtain ⟨i, hi, rfl, hinr, hgr, hlocr⟩ := hrel
    have HGR : Hid (Grew M v.ownBlock w wr) := hgr
    have HLOC := hidIn hlocr
    have HINR := hidIn hinr
    clear hgr hlocr
    by_cases hlt : i < more.length
    · have hlt' : (i : Int) < (more.length : Int) := by omega
      obtain ⟨s, hsi⟩ : ∃ s, more[i]? = some s := ⟨_, List.getElem?_eq_getElem hlt⟩
      have hs := HOK.out s (List.mem_of_getElem? hsi)
      have hkey : keyOf Tryd.prog 9 (.string s) = some (.string s.data.toList) := Go.WideMaps.keyOf_string_mk Tryd.underlying9 (by unfold maxLen; omega)
      obtain ⟨g, rfl, hc⟩ := (HM.out.grew HGR.out HNE.out) i s hsi
      have ht := take_more _ _ _ hsi
      have HT : Hid (addAll acc (more.take (i + 1)) = addN (addAll acc (more.take i)) s) := by unfold Hid; rw [ht, addAll_snoc]
      have hal : (addAll acc (more.take i)).length ≤ 1000000 := by
        have h1 := addAll_length (more.take i) acc
        have h3 : (more.take i).length ≤ more.length := by rw [List.length_take]; omega
        have := HL.out
        omega
      clear hsi ht
      generalize addAll acc (more.take i) = ac at *
      obtain ⟨hrow, hmap, hsz⟩ := hinr
      by_cases hm : inN ac s = true
      · have hhas : Maps.has (setN ac) (.string s.data.toList) = true := by rw [has_setN]; simpa using hm
        have HA : Hid (addN ac s = ac) := by unfold Hid addN; rw [if_pos hm]
        clear hm
        go_wp2_with (at_lookup; refine wpList_lookup_own_unit _ rfl _ _ 122 rfl 9 46 lawS Tryd.underlying122 (zeroUnit _) M ac.length _ rfl hmap _ _ rfl hkey ?_)
        go_roundw
        case rel =>
          refine ⟨i + 1, by omega, by go_num, ?_, HGR.out.trans (Grew.of_below (below_alloc (Below.refl _ _) _)) (.inl rfl), HLOC.out⟩
          rw [HT.out, HA.out]
          exact HINR.out.below (below_alloc (Below.refl _ _) _)
        case measure => simp [intOf]; omega
      · have hhas : Maps.has (setN ac) (.string s.data.toList) = false := by rw [has_setN]; simpa using hm
        have HA : Hid (addN ac s = ac ++ [s]) := by unfold Hid addN; rw [if_neg hm]
        have HNEB : Hid (u0.ownBlock = none ∨ u0.ownBlock ≠ some M) := .inr (fun e => by have := hrow.lt M e; omega)
        clear hm
        go_wp2_with (first
          | (at_lookup; refine wpList_lookup_own_unit _ rfl _ _ 122 rfl 9 46 lawS Tryd.underlying122 (zeroUnit _) M ac.length _ rfl hmap _ _ rfl hkey ?_)
          | (at_mapUpdate; refine wpList_mapUpdate_own _ rfl _ _ _ 122 rfl 9 46 lawS Tryd.underlying122 (unitElem (H := Unit)) M ac.length _ rfl (hmap.alloc _) (by unfold maxLen; omega) _ _ _ rfl rfl hkey _ [] unitElem_mk ?_; intro w1 hmap1 hgrow1)
          | (at_builtin; refine wpList_append_own_at _ rfl _ _ 23 rfl (M + 1) 9 i0 (.string ByteArray.empty) 1 16 Tryd.underlying23 gi gz0 gz1 gz2 rfl (by decide) _ _ _ rfl (((hrow.alloc _).kept hgrow1 HNEB.out).alloc _) ⟨w1.heap.size, 0, none⟩ 1 1 [.string s] rfl rfl (cell_one_at w1 _ _) (by intro u hu; simp at hu; subst hu; rfl) (by unfold maxLen; omega) (by omega) (by have := hgrow1.size; simp at this ⊢; omega) ?_; intro v2 w2 hown2 hgrow2 _ hloc)
          | go_in)
        have s1 := hgrow1.size
        have s2 := hgrow2.size
        simp at s1 s2
        have HR : Hid (NIn w2 M v2 (ac ++ [s]) ∧ Grew M v.ownBlock w w2 ∧ (v2.ownBlock = v.ownBlock ∨ ∀ k, v2.ownBlock = some k → w.heap.size ≤ k)) := by
          have g0 : Grew M u0.ownBlock wr w2 := by
            have a1 : Grew M u0.ownBlock wr (wr.alloc (.cells #[] 46)) := Grew.of_below (below_alloc (Below.refl _ _) _)
            have a2 : Grew M u0.ownBlock (wr.alloc (.cells #[] 46)) w1 := Grew.of_map hgrow1
            have a3 : Grew M u0.ownBlock w1 (w1.alloc (.cells #[.string s] 9)) := Grew.of_below (below_alloc (Below.refl _ _) _)
            exact ((a1.trans a2 (.inl rfl)).trans a3 (.inl rfl)).trans (Grew.of_grown hgrow2) (.inl rfl)
          refine ⟨⟨?_, ?_, by omega⟩, HGR.out.trans g0 HLOC.out, ?_⟩
          · simpa [strCells] using hown2
          · rw [setN_snoc]
            have := (hmap1.alloc (.cells #[.string s] 9)).kept hgrow2 (fun e => by have := hrow.lt M e.symm; omega)
            simpa using this
          · rcases hloc with h | h
            · rw [h]; exact HLOC.out
            · refine .inr (fun k hk => ?_)
              rw [h] at hk
              injection hk with hk
              simp at hk
              have := HGR.out.size
              omega
        clear hown2 hgrow2 hloc hmap1 hgrow1 hmap hrow
        go_wp2_with fail
        go_roundw
        case rel => exact ⟨i + 1, by omega, by go_num, by rw [HT.out, HA.out]; exact HR.out.1, HR.out.2.1, HR.out.2.2⟩
        case measure => simp [intOf]; omega
    · have hle : i = more.length := by omega
      subst hle
      have HE : Hid (NIn wr M u0 (addAll acc more)) := by have h := HINR.out; rw [List.take_length] at h; exact h
      clear HINR hinr
      go_wp2_with fail
      go_ret
      exact ⟨_, rfl, HE.out, HGR.out, HLOC.out⟩

/-- Whether one is there twice. -/
def twice (l : List ByteArray) : Bool := decide ((addAll [] l).length < l.length)

set_option maxHeartbeats 1000000 in
set_option maxRecDepth 100000 in
theorem anyTwice_any (l : List ByteArray) (hok : ∀ s ∈ l, s.size ≤ 2147483648) (hl : l.length ≤ 1000000) (ao : Option Addr) (cap : Nat) (w : World) (hm : HasTxt w ao l) (hao : ∀ g, ao = some ⟨g, 0, none⟩ → g < w.heap.size) :
    Calls Tryd.prog 30 #[.slice ao l.length cap] w fun e w' => e = .returned (.bool (twice l)) ∧ Below w.heap.size w w' := by
  have hmm := @run_makeMap Tryd.prog
  have hal := addAll_length l []
  simp only [List.length_nil, Nat.zero_add] at hal
  have HM := hidIn hm
  have HAO := hidIn hao
  have HOK := hidIn hok
  clear hm hao hok
  have HC := hidIn (addNew_any l HOK.out w.heap.size (.slice none 0 0) [] (w.alloc (.map #[] 0)) ⟨World.ownsRow_nil _ _ _ _, World.ownsMap_made _ _ _ _, by simp⟩ (by simpa using hl) ao cap (HM.out.below (below_alloc (Below.refl _ _) _)) (fun g e => ⟨by have := HAO.out g e; omega, by simp [Value.ownBlock]⟩))
  go_enter Tryd.func30, Tryd.ntmps30
  go_wp2_with fail
  refine HC.out.mono ?_
  rintro e w2 ⟨v2, rfl, hin2, hg2, hloc2⟩
  have hb2 : Below w.heap.size w w2 := by
    have h1 : Below w.heap.size w (w.alloc (.map #[] 0)) := below_alloc (Below.refl _ _) _
    exact h1.trans (hg2.below (by simp) (Nat.le_refl _) (fun k hk => by cases hk))
  obtain ⟨ao2, cap2, rfl⟩ := own_shape hin2.1
  have HB2 := hidIn hb2
  by_cases hlt : (addAll [] l).length < l.length
  · have HT : Hid (twice l = true) := decide_eq_true hlt
    have hlt' : ((addAll [] l).length : Int) < (l.length : Int) := by omega
    clear hin2 hg2 hloc2 HC hb2
    generalize addAll [] l = X at *
    go_wp2_with fail
    go_ret
    exact ⟨by rw [HT.out]; rfl, HB2.out⟩
  · have HT : Hid (twice l = false) := decide_eq_false hlt
    have hlt' : ¬ ((addAll [] l).length : Int) < (l.length : Int) := by omega
    clear hin2 hg2 hloc2 HC hb2
    generalize addAll [] l = X at *
    go_wp2_with fail
    go_ret
    exact ⟨by rw [HT.out]; rfl, HB2.out⟩

/-- What Check answers. -/
def chkC (c : C) : Int := if formC c = true then (if 60 < c.nodes ∨ 12 < c.depth then 5 else if twice c.labels = true then 4 else 0) else 2
theorem weight_nodes (c : C) : c.nodes ≤ c.weight := by
  induction c <;> simp [C.nodes, C.weight] <;> omega

set_option maxHeartbeats 1000000 in
set_option maxRecDepth 100000 in
theorem checkT_any (c : C) (hok : c.Ok) (hsz : c.weight ≤ 1000000) (w : World) : Calls Tryd.prog 17 #[c.val] w fun e w' => e = .returned (.int .i64 (chkC c)) ∧ Below w.heap.size w w' := by
  have hwn := weight_nodes c
  have HOK := hidIn hok
  have HSZ := hidIn hsz
  have HLO := hidIn (labels_ok c hok)
  have hlw := labels_weight c
  go_enter Tryd.func17, Tryd.ntmps17
  go_wp2_with fail
  refine (formedT_any c hok hsz w).mono ?_
  rintro e w1 ⟨rfl, hb1⟩
  have hd := cdepth_nodes c
  cases hf : formC c
  · go_wp2_with fail
    go_ret
    exact ⟨by unfold chkC; rw [if_neg (by rw [hf]; simp)]; rfl, hb1⟩
  · go_wp2_with fail
    refine (sizeT_any c hok (by omega) w1).mono ?_
    rintro e w2 ⟨rfl, hb2⟩
    have HC : Hid (chkC c = if 60 < c.nodes ∨ 12 < c.depth then 5 else if twice c.labels = true then 4 else 0) := by unfold Hid chkC; rw [if_pos hf]
    have HB2 := hidIn (hb1.trans (hb2.mono hb1.size))
    clear hb1 hb2
    by_cases h1 : 60 < c.nodes
    · have h1' : (60 : Int) < (c.nodes : Int) := by omega
      go_wp2_with fail
      go_ret
      exact ⟨by rw [HC.out, if_pos (.inl h1)]; rfl, HB2.out⟩
    · have h1' : ¬ (60 : Int) < (c.nodes : Int) := by omega
      have h1d : decide ((60 : Int) < (c.nodes : Int)) = false := by simpa using h1'
      by_cases h2 : 12 < c.depth
      · have h2' : (12 : Int) < (c.depth : Int) := by omega
        go_wp2_with fail
        go_ret
        exact ⟨by rw [HC.out, if_pos (.inr h2)]; rfl, HB2.out⟩
      · have h2' : ¬ (12 : Int) < (c.depth : Int) := by omega
        have HC2 : Hid (chkC c = if twice c.labels = true then 4 else 0) := by unfold Hid; rw [HC.out, if_neg (by omega)]
        go_wp2_with fail
        refine (labelsT_any c HOK.out HSZ.out w2).mono ?_
        rintro e w3 ⟨v3, rfl, hrow3, hb3⟩
        have hlt3 := hrow3.lt
        obtain ⟨ao, cap, rfl, htx, _, hob⟩ := own_txt hrow3
        have HTX := hidIn htx
        have HAO : Hid (∀ g, ao = some ⟨g, 0, none⟩ → g < w3.heap.size) := fun g e => (hlt3 g (hob g e)).2
        have HB3 := hidIn (HB2.out.trans (hb3.mono HB2.out.size))
        clear hrow3 hlt3 htx hob hb3
        go_wp2_with fail
        refine (anyTwice_any c.labels HLO.out (by omega) ao cap w3 HTX.out HAO.out).mono ?_
        rintro e w4 ⟨rfl, hb4⟩
        have HB4 := hidIn (HB3.out.trans (hb4.mono HB3.out.size))
        clear hb4
        cases ht : twice c.labels
        · go_wp2_with fail
          go_ret
          exact ⟨by rw [HC2.out, ht]; rfl, HB4.out⟩
        · go_wp2_with fail
          go_ret
          exact ⟨by rw [HC2.out, ht]; rfl, HB4.out⟩

theorem chkC_nil : chkC (.odd .nilIface) = 2 := rfl
end Go.Proofs.YtiaaibblihebjaaDoor
namespace Go.Proofs.YtiaaibblihebjaaDoor
open Go.RowKit
set_option linter.unusedVariables false

theorem withinT_any (s : ByteArray) (hs : s.size ≤ 140737488351232) (w : World) :
    Calls Tryd.prog 18 #[.string s] w fun e w' => e = .returned (.tuple #[.string (if 1000 < s.size then ⟨#[]⟩ else s), .int .i64 (if 1000 < s.size then 5 else 0)]) ∧ w' = w := by
  by_cases h : 1000 < s.size
  · have h' : (1000 : Int) < (s.size : Int) := by omega
    rw [if_pos h, if_pos h]
    go_enter Tryd.func18, Tryd.ntmps18
    go_wp2
    go_ret2
    exact ⟨rfl, rfl⟩
  · have h' : ¬ (1000 : Int) < (s.size : Int) := by omega
    rw [if_neg h, if_neg h]
    go_enter Tryd.func18, Tryd.ntmps18
    go_wp2
    go_ret2
    exact ⟨rfl, rfl⟩
theorem formB_neat (o : O) (k : o.Ok) (h : formB o = true) : o.neat 2147483648 := by
  induction o with
  | const n => exact k
  | fix s => exact k
  | add l r h1 h2 => simp only [formB, Bool.and_eq_true] at h; exact ⟨h1 k.1 h.1, h2 k.2 h.2⟩
  | mul l r h1 h2 => simp only [formB, Bool.and_eq_true] at h; exact ⟨h1 k.1 h.1, h2 k.2 h.2⟩
  | max l r h1 h2 => simp only [formB, Bool.and_eq_true] at h; exact ⟨h1 k.1 h.1, h2 k.2 h.2⟩
  | neg o h1 => exact h1 k h
  | odd v => cases h
theorem formC_neat (c : C) (k : c.Ok) (h : formC c = true) : c.neat 2147483648 := by
  induction c with
  | zero => trivial
  | one s => exact k
  | give c h1 => exact h1 k h
  | and l r h1 h2 => simp only [formC, Bool.and_eq_true] at h; exact ⟨h1 k.1 h.1, h2 k.2 h.2⟩
  | or s l r h1 h2 => simp only [formC, Bool.and_eq_true] at h; exact ⟨k.1, h1 k.2.1 h.1.2, h2 k.2.2 h.2⟩
  | scale o c h1 => simp only [formC, Bool.and_eq_true] at h; exact ⟨formB_neat o k.1 h.1, h1 k.2 h.2⟩
  | when d c h1 => simp only [formC, Bool.and_eq_true] at h; exact ⟨k.1, h1 k.2 h.2⟩
  | iff o l r h1 h2 => simp only [formC, Bool.and_eq_true] at h; exact ⟨formB_neat o k.1 h.1.1, h1 k.2.1 h.1.2, h2 k.2.2 h.2⟩
  | odd v => cases h
/-- What write.Obs answers: the text, and the error. -/
def wText (o : O) : ByteArray := if chk o = 0 then (if 1000 < (textO o).size then ⟨#[]⟩ else textO o) else ⟨#[]⟩
def wErr (o : O) : Int := if chk o = 0 then (if 1000 < (textO o).size then 5 else 0) else chk o
def wTextC (c : C) : ByteArray := if chkC c = 0 then (if 1000 < (textC c).size then ⟨#[]⟩ else textC c) else ⟨#[]⟩
def wErrC (c : C) : Int := if chkC c = 0 then (if 1000 < (textC c).size then 5 else 0) else chkC c
theorem chk_zero {o : O} (h : chk o = 0) : formB o = true ∧ o.nodes ≤ 60 ∧ o.depth ≤ 12 := by
  unfold chk at h
  split at h
  · rename_i hf
    split at h
    · cases h
    · exact ⟨hf, by omega, by omega⟩
  · cases h
theorem chkC_zero {c : C} (h : chkC c = 0) : formC c = true ∧ c.nodes ≤ 60 ∧ c.depth ≤ 12 ∧ twice c.labels = false := by
  unfold chkC at h
  split at h
  · rename_i hf
    split at h
    · cases h
    · split at h
      · cases h
      · rename_i ht
        exact ⟨hf, by omega, by omega, by simpa using ht⟩
  · cases h
set_option maxHeartbeats 1000000 in
set_option maxRecDepth 100000 in
theorem writeC_any (c : C) (hok : c.Ok) (hsz : c.weight ≤ 1000000) (w : World) (ht : TabW w) : Calls Tryd.prog 8 #[c.val] w fun e w' => e = .returned (.tuple #[.string (wTextC c), .int .i64 (wErrC c)]) ∧ Below w.heap.size w w' := by
  have HW : Hid (chkC c = 0 → WritesC c ∧ (textC c).size ≤ 70368744177664) := fun h => by
    have hz := chkC_zero h
    have hn := formC_neat c hok hz.1
    exact ⟨termText_any _ c hok hn (by omega), Nat.le_trans (textC_size _ c hn) (by omega)⟩
  have HT := hidIn ht
  have HR : Hid (wTextC c = if chkC c = 0 then (if 1000 < (textC c).size then ⟨#[]⟩ else textC c) else ⟨#[]⟩) := rfl
  have HE : Hid (wErrC c = if chkC c = 0 then (if 1000 < (textC c).size then 5 else 0) else chkC c) := rfl
  have HK := hidIn (checkT_any c hok hsz)
  generalize wTextC c = rt at *
  generalize wErrC c = re at *
  clear hok hsz ht
  go_enter Tryd.func8, Tryd.ntmps8
  go_wp2_with fail
  refine (HK.out w).mono ?_
  rintro e w1 ⟨rfl, hb1⟩
  have HB1 := hidIn hb1
  clear hb1
  by_cases h0 : chkC c = 0
  · obtain ⟨hw, hs⟩ := HW.out h0
    have HW1 := hidIn hw
    clear hw
    rw [h0]
    go_wp2_with fail
    refine (HW1.out w1 (tabW_below HT.out HB1.out)).mono ?_
    rintro e w2 ⟨rfl, hb2⟩
    have HB2 := hidIn (HB1.out.trans (hb2.mono HB1.out.size))
    clear hb2
    go_wp2_with fail
    refine calls_same (withinT_any (textC c) (by omega) _) ?_
    have H1 := HR.out
    have H2 := HE.out
    rw [if_pos h0] at H1 H2
    rw [← H1, ← H2]
    clear H1 H2
    go_wp2_with fail
    go_ret2
    exact ⟨rfl, HB2.out⟩
  · obtain ⟨n, hn⟩ : ∃ n, chkC c = n := ⟨_, rfl⟩
    have H1 := HR.out
    have H2 := HE.out
    rw [if_neg h0] at H1 H2
    rw [hn] at h0 H2
    rw [hn]
    go_wp2_with fail
    go_ret2
    exact ⟨by rw [H1, H2]; rfl, HB1.out⟩

end Go.Proofs.YtiaaibblihebjaaDoor
namespace Go.Proofs.YtiaaibblihebjaaDoor.Ev
open Go.RowKit
set_option linter.unusedVariables false

/-- What event.Check answers. -/
def chkE (e : Ev) : Int := if formE e = true then (if e.k = 2 then wErrC e.t else 0) else 1

set_option maxHeartbeats 2000000 in
set_option maxRecDepth 100000 in
theorem check_any (e : Ev) (hok : e.Ok) (w : World) (htab : TabW w) : Calls Tryd.prog 9 #[e.val] w fun r w' => r = .returned (.int .i64 (chkE e)) ∧ Below w.heap.size w w' := by
  have HF := hidIn (fun w => formed_any e hok w)
  have HC := hidIn (fun w ht => writeC_any e.t hok.t hok.w w ht)
  have HT := hidIn htab
  have HR : Hid (chkE e = if formE e = true then (if e.k = 2 then wErrC e.t else 0) else 1) := rfl
  have one := e.t.one' hok.t
  clear hok htab
  generalize chkE e = res at *
  generalize formE e = fe at *
  obtain ⟨k, i, n, l, u, d, v, t⟩ := e
  unfold Ev.val Ev.cs at *
  simp only at *
  generalize t.val = tv at *
  go_enter Tryd.func9, Tryd.ntmps9
  go_wp2_with fail
  have HBV : Hid (Below w.heap.size w (w.alloc (.cells #[.int .i64 k, .string i, .string n, .string l, .string u, .int .i64 d, .int .i64 v, tv] 38))) := below_alloc (Below.refl _ _) _
  have HX := hidIn (heap_alloc_new w (.cells #[.int .i64 k, .string i, .string n, .string l, .string u, .int .i64 d, .int .i64 v, tv] 38))
  generalize w.alloc (.cells #[.int .i64 k, .string i, .string n, .string l, .string u, .int .i64 d, .int .i64 v, tv] 38) = V at *
  refine (HF.out V).mono ?_
  rintro e w1 ⟨rfl, hb⟩
  have HB1 := hidIn (HBV.out.trans (hb.mono HBV.out.size))
  have hx := (hb.block _ (Array.getElem?_eq_some_iff.1 HX.out).1).trans HX.out
  have c0 : w1.cell? ⟨w.heap.size, 0, none⟩ = some (.int .i64 k) := cell_of_row _ _ 0 _ _ _ hx
  have c7 : w1.cell? ⟨w.heap.size, 7, none⟩ = some tv := cell_of_row _ _ 7 _ _ _ hx
  clear hb hx
  cases fe
  · rw [if_neg (by simp)] at HR
    go_wp2_with fail
    go_ret
    exact ⟨by rw [HR.out]; rfl, HB1.out⟩
  · rw [if_pos rfl] at HR
    by_cases hk : k = 2
    · subst hk
      rw [if_pos rfl] at HR
      go_wp2_with fail
      refine (HC.out w1 (tabW_below HT.out HB1.out)).mono ?_
      rintro e w2 ⟨rfl, hb2⟩
      have HB2 := hidIn (HB1.out.trans (hb2.mono HB1.out.size))
      clear hb2
      generalize wErrC t = we at *
      generalize wTextC t = wt at *
      go_wp2_with fail
      go_ret
      exact ⟨by rw [HR.out]; rfl, HB2.out⟩
    · rw [if_neg hk] at HR
      have e2 : (k != 2) = true := by simpa using hk
      clear hk
      go_wp2_with fail
      go_ret
      exact ⟨by rw [HR.out]; rfl, HB1.out⟩

end Go.Proofs.YtiaaibblihebjaaDoor.Ev
namespace Go.Proofs.YtiaaibblihebjaaDoor.Ev
open Go.RowKit
set_option linter.unusedVariables false

theorem nil_runs (t : C) (h : t.Ok) : ∃ b, nilB t = b ∧ ((b = true ∧ t.val = .nilIface) ∨ (b = false ∧ ∃ x y, t.val = .iface x y)) := by
  cases t with
  | odd v =>
    rcases h with rfl | ⟨x, y, rfl, _⟩
    · exact ⟨true, rfl, .inl ⟨rfl, rfl⟩⟩
    · exact ⟨false, rfl, .inr ⟨rfl, _, _, rfl⟩⟩
  | _ => exact ⟨false, rfl, .inr ⟨rfl, _, _, rfl⟩⟩
/-- What event.sameTerm answers. -/
def sameTm (a b : C) : Bool := nilB a && nilB b || sameC a b

set_option maxHeartbeats 2000000 in
set_option maxRecDepth 100000 in
theorem sameTerm_any (a b : C) (ha : a.Ok) (hb : b.Ok) (w : World) : Calls Tryd.prog 21 #[a.val, b.val] w fun r w' => r = .returned (.bool (sameTm a b)) ∧ Below w.heap.size w w' := by
  have HS := hidIn (fun w => sameT_any a ha b hb w)
  have HR : Hid (sameTm a b = (nilB a && nilB b || sameC a b)) := rfl
  obtain ⟨na, hna, hva⟩ := nil_runs a ha
  obtain ⟨nb, hnb, hvb⟩ := nil_runs b hb
  rw [hna, hnb] at HR
  clear hna hnb ha hb
  generalize sameTm a b = res at *
  generalize sameC a b = sc at *
  rcases hva with ⟨rfl, hva⟩ | ⟨rfl, xa, ya, hva⟩ <;> rcases hvb with ⟨rfl, hvb⟩ | ⟨rfl, xb, yb, hvb⟩
  all_goals
    rw [hva, hvb] at HS
    rw [hva, hvb]
    clear hva hvb
    go_enter Tryd.func21, Tryd.ntmps21
    go_wp2_with fail
    try (refine (HS.out _).mono ?_; rintro e w1 ⟨rfl, hb⟩; have HB := hidIn hb; clear hb; go_wp2_with fail)
    go_ret
    first
      | exact ⟨by rw [HR.out]; rfl, HB.out⟩
      | exact ⟨by rw [HR.out]; rfl, Below.refl _ _⟩

theorem eq_nils (d : Nat) (W : World) : Sem.run Tryd.prog (Op.equalIn (d + 1) 26 .nilIface .nilIface) W = .ok true W := by
  simp only [Op.equalIn, Sem.run_bind, run_underlying Tryd.underlying26, Result.andThen_ok]
  rfl
/-- Whether two events are alike. -/
def sameE (a b : Ev) : Bool := (a.k == b.k) && (a.i.toList == b.i.toList) && (a.n.toList == b.n.toList) && (a.l.toList == b.l.toList) && (a.u.toList == b.u.toList) && (a.d == b.d) && (a.v == b.v) && sameTm a.t b.t

set_option maxHeartbeats 2000000 in
set_option maxRecDepth 100000 in
theorem same_any (a b : Ev) (ha : a.Ok) (hb : b.Ok) (w : World) : Calls Tryd.prog 10 #[a.val, b.val] w fun r w' => r = .returned (.bool (sameE a b)) ∧ Below w.heap.size w w' := by
  have HS := hidIn (fun w => sameTerm_any a.t b.t ha.t hb.t w)
  have HR : Hid (sameE a b = ((a.k == b.k) && (a.i.toList == b.i.toList) && (a.n.toList == b.n.toList) && (a.l.toList == b.l.toList) && (a.u.toList == b.u.toList) && (a.d == b.d) && (a.v == b.v) && sameTm a.t b.t)) := rfl
  have onea := a.t.one' ha.t
  have oneb := b.t.one' hb.t
  clear ha hb
  generalize sameE a b = res at *
  generalize sameTm a.t b.t = st at *
  obtain ⟨k, i, n, l, u, d, v, t⟩ := a
  obtain ⟨k', i', n', l', u', d', v', t'⟩ := b
  unfold Ev.val Ev.cs
  simp only at *
  generalize t.val = ta at *
  generalize t'.val = tb at *
  clear t t'
  go_enter Tryd.func10, Tryd.ntmps10
  go_wp2_with fail
  have hx0 : ((w.alloc (.cells #[.int .i64 k, .string i, .string n, .string l, .string u, .int .i64 d, .int .i64 v, ta] 38)).alloc (.cells #[.int .i64 k', .string i', .string n', .string l', .string u', .int .i64 d', .int .i64 v', tb] 38)).heap[w.heap.size]? = some (.cells #[.int .i64 k, .string i, .string n, .string l, .string u, .int .i64 d, .int .i64 v, ta] 38) := heap_keeps (heap_alloc_new _ _) _
  have hx1 : ((w.alloc (.cells #[.int .i64 k, .string i, .string n, .string l, .string u, .int .i64 d, .int .i64 v, ta] 38)).alloc (.cells #[.int .i64 k', .string i', .string n', .string l', .string u', .int .i64 d', .int .i64 v', tb] 38)).heap[w.heap.size + 1]? = some (.cells #[.int .i64 k', .string i', .string n', .string l', .string u', .int .i64 d', .int .i64 v', tb] 38) := by
    have h := heap_alloc_new (w.alloc (.cells #[.int .i64 k, .string i, .string n, .string l, .string u, .int .i64 d, .int .i64 v, ta] 38)) (.cells #[.int .i64 k', .string i', .string n', .string l', .string u', .int .i64 d', .int .i64 v', tb] 38)
    rwa [show (w.alloc (.cells #[.int .i64 k, .string i, .string n, .string l, .string u, .int .i64 d, .int .i64 v, ta] 38)).heap.size = w.heap.size + 1 by simp] at h
  have HBV : Hid (Below w.heap.size w ((w.alloc (.cells #[.int .i64 k, .string i, .string n, .string l, .string u, .int .i64 d, .int .i64 v, ta] 38)).alloc (.cells #[.int .i64 k', .string i', .string n', .string l', .string u', .int .i64 d', .int .i64 v', tb] 38))) := below_alloc (below_alloc (Below.refl _ _) _) _
  have HX0 := hidIn hx0
  have HX1 := hidIn hx1
  clear hx0 hx1
  generalize (w.alloc (.cells #[.int .i64 k, .string i, .string n, .string l, .string u, .int .i64 d, .int .i64 v, ta] 38)).alloc (.cells #[.int .i64 k', .string i', .string n', .string l', .string u', .int .i64 d', .int .i64 v', tb] 38) = V at *
  have HF : Hid (∀ w', Below V.heap.size V w' → w'.cell? ⟨w.heap.size, 7, none⟩ = some ta ∧ w'.cell? ⟨w.heap.size + 1, 7, none⟩ = some tb) := fun w' hw' => by
    have h0 := (hw'.block _ (Array.getElem?_eq_some_iff.1 HX0.out).1).trans HX0.out
    have h1 := (hw'.block _ (Array.getElem?_eq_some_iff.1 HX1.out).1).trans HX1.out
    exact ⟨cell_of_row _ _ 7 _ _ _ h0, cell_of_row _ _ 7 _ _ _ h1⟩
  refine wp_region_class (fun w' => Below V.heap.size V w') (by kernel_rfl) (by kernel_rfl) (below_drew (Below.refl _ _)) ?_
  generalize hops : (#[_, _, _, _, _, _] : Array Oper) = ops
  clear hops
  refine quiet_runs (.pointer (some ⟨w.heap.size, 7, none⟩)) (wanted_none rfl) (fun w' hw' => ?_) ?_
  · go_simp
  simp only [Act.put, List.setIfInBounds_toArray, List.set_cons_zero, List.set_cons_succ]
  refine quiet_runs (ta) (wanted_none rfl) (fun w' hw' => ?_) ?_
  · have q0 := (HF.out w' hw').1
    go_simp
  simp only [Act.put, List.setIfInBounds_toArray, List.set_cons_zero, List.set_cons_succ]
  refine quiet_runs (.pointer (some ⟨w.heap.size + 1, 7, none⟩)) (wanted_none rfl) (fun w' hw' => ?_) ?_
  · go_simp
  simp only [Act.put, List.setIfInBounds_toArray, List.set_cons_zero, List.set_cons_succ]
  refine quiet_runs (tb) (wanted_none rfl) (fun w' hw' => ?_) ?_
  · have q0 := (HF.out w' hw').2
    go_simp
  simp only [Act.put, List.setIfInBounds_toArray, List.set_cons_zero, List.set_cons_succ]
  refine quiet_runs (ta) (wanted_none rfl) (fun w' hw' => ?_) ?_
  · go_simp
  simp only [Act.put, List.setIfInBounds_toArray, List.set_cons_zero, List.set_cons_succ]
  refine quiet_runs (tb) (wanted_none rfl) (fun w' hw' => ?_) ?_
  · go_simp
  simp only [Act.put, List.setIfInBounds_toArray, List.set_cons_zero, List.set_cons_succ]
  refine wpQuiet_nil ?_
  intro w9 hw9
  have hx0 := (hw9.block _ (Array.getElem?_eq_some_iff.1 HX0.out).1).trans HX0.out
  have hx1 := (hw9.block _ (Array.getElem?_eq_some_iff.1 HX1.out).1).trans HX1.out
  have f0 : w9.frozen? ⟨w.heap.size, 7, none⟩ = false := frozen_of_row _ _ _ _ _ hx0
  have f1 : w9.frozen? ⟨w.heap.size + 1, 7, none⟩ = false := frozen_of_row _ _ _ _ _ hx1
  have e0 : w9.cell? ⟨w.heap.size, 7, none⟩ = some ta := cell_of_row _ _ 7 _ _ _ hx0
  have e1 : w9.cell? ⟨w.heap.size + 1, 7, none⟩ = some tb := cell_of_row _ _ 7 _ _ _ hx1
  have HW := hidIn hw9
  clear hw9
  go_upto_region 3 with fail
  have hy0 : ((w9.setCell ⟨w.heap.size, 7, none⟩ .nilIface).setCell ⟨w.heap.size + 1, 7, none⟩ .nilIface).heap[w.heap.size]? = some (.cells #[.int .i64 k, .string i, .string n, .string l, .string u, .int .i64 d, .int .i64 v, .nilIface] 38) := (heap_setCell_other _ ⟨w.heap.size + 1, 7, none⟩ w.heap.size _ (by show w.heap.size ≠ w.heap.size + 1; omega)).trans (heap_setCell_same _ w.heap.size 7 _ _ _ hx0)
  have hy1 : ((w9.setCell ⟨w.heap.size, 7, none⟩ .nilIface).setCell ⟨w.heap.size + 1, 7, none⟩ .nilIface).heap[w.heap.size + 1]? = some (.cells #[.int .i64 k', .string i', .string n', .string l', .string u', .int .i64 d', .int .i64 v', .nilIface] 38) := heap_setCell_same _ (w.heap.size + 1) 7 _ _ _ ((heap_setCell_other _ ⟨w.heap.size, 7, none⟩ (w.heap.size + 1) _ (by show w.heap.size + 1 ≠ w.heap.size; omega)).trans hx1)
  have HB := hidIn (((HBV.out.trans (HW.out.mono HBV.out.size)).setCell (show w.heap.size ≤ (⟨w.heap.size, 7, none⟩ : Addr).block from Nat.le_refl _) .nilIface).setCell (show w.heap.size ≤ (⟨w.heap.size + 1, 7, none⟩ : Addr).block from Nat.le_succ _) .nilIface)
  clear f0 f1 e0 e1 hx0 hx1
  generalize (w9.setCell ⟨w.heap.size, 7, none⟩ .nilIface).setCell ⟨w.heap.size + 1, 7, none⟩ .nilIface = U at *
  have x0 := cell_of_row _ _ 0 _ _ _ hy0
  have y0 := cell_of_row _ _ 0 _ _ _ hy1
  have x1 := cell_of_row _ _ 1 _ _ _ hy0
  have y1 := cell_of_row _ _ 1 _ _ _ hy1
  have x2 := cell_of_row _ _ 2 _ _ _ hy0
  have y2 := cell_of_row _ _ 2 _ _ _ hy1
  have x3 := cell_of_row _ _ 3 _ _ _ hy0
  have y3 := cell_of_row _ _ 3 _ _ _ hy1
  have x4 := cell_of_row _ _ 4 _ _ _ hy0
  have y4 := cell_of_row _ _ 4 _ _ _ hy1
  have x5 := cell_of_row _ _ 5 _ _ _ hy0
  have y5 := cell_of_row _ _ 5 _ _ _ hy1
  have x6 := cell_of_row _ _ 6 _ _ _ hy0
  have y6 := cell_of_row _ _ 6 _ _ _ hy1
  have x7 := cell_of_row _ _ 7 _ _ _ hy0
  have y7 := cell_of_row _ _ 7 _ _ _ hy1
  clear hy0 hy1
  have hnn : ∀ W, Sem.run Tryd.prog (Op.equalIn 9999 26 .nilIface .nilIface) W = .ok true W := eq_nils 9998
  go_wp2_with fail
  all_goals
    try (refine (HS.out _).mono ?_; rintro e w1 ⟨rfl, hb⟩; have HB2 := hidIn (HB.out.trans (hb.mono HB.out.size)); clear hb; go_wp2_with fail)
    go_ret
    first
      | exact ⟨by rw [HR.out]; simp [*], HB2.out⟩
      | exact ⟨by rw [HR.out]; simp [*], HB.out⟩

end Go.Proofs.YtiaaibblihebjaaDoor.Ev
namespace Go.Proofs.YtiaaibblihebjaaDoor.Ev
open Go.RowKit
set_option linter.unusedVariables false

def none' : C := .odd .nilIface
theorem none_ok : none'.Ok := .inl rfl
def pass0 : Ev := ⟨1, ⟨#[]⟩, ⟨#[]⟩, ⟨#[]⟩, ⟨#[]⟩, 0, 0, none'⟩
def ev0 : Ev := ⟨0, ⟨#[]⟩, ⟨#[]⟩, ⟨#[]⟩, ⟨#[]⟩, 0, 0, none'⟩
theorem small_size : (⟨#[]⟩ : ByteArray).size ≤ maxLen := by decide
theorem pass0_ok : pass0.Ok := by
  constructor <;> first | exact none_ok | exact small_size | (show (1 : Nat) ≤ 1000000; omega) | (unfold pass0; simp only; omega)
theorem ev0_ok : ev0.Ok := by
  constructor <;> first | exact none_ok | exact small_size | (show (1 : Nat) ≤ 1000000; omega) | (unfold ev0; simp only; omega)
theorem pass0_chk : chkE pass0 = 0 := by decide +kernel
theorem ev0_chk : chkE ev0 = 1 := by decide +kernel

set_option maxHeartbeats 1000000 in
theorem wakes11_any (w : World) (htab : TabW w) : Calls Tryd.prog 12 #[] w fun e w' => e = .returned (.bool true) ∧ Below w.heap.size w w' := by
  have H1 : Hid (∀ W, TabW W → Calls Tryd.prog 9 #[.agg #[.int .i64 1, .string ⟨#[]⟩, .string ⟨#[]⟩, .string ⟨#[]⟩, .string ⟨#[]⟩, .int .i64 0, .int .i64 0, .nilIface]] W fun r w' => r = .returned (.int .i64 0) ∧ Below W.heap.size W w') := fun W hW => by
    have := check_any pass0 pass0_ok W hW
    rw [pass0_chk] at this
    exact this
  have H2 : Hid (∀ W, TabW W → Calls Tryd.prog 9 #[.agg #[.int .i64 0, .string ⟨#[]⟩, .string ⟨#[]⟩, .string ⟨#[]⟩, .string ⟨#[]⟩, .int .i64 0, .int .i64 0, .nilIface]] W fun r w' => r = .returned (.int .i64 1) ∧ Below W.heap.size W w') := fun W hW => by
    have := check_any ev0 ev0_ok W hW
    rw [ev0_chk] at this
    exact this
  have HT := hidIn htab
  clear htab
  go_enter Tryd.func12, Tryd.ntmps12
  go_wp2_with fail
  refine (H1.out w HT.out).mono ?_
  rintro e w1 ⟨rfl, hb1⟩
  have HB1 := hidIn hb1
  clear hb1
  go_wp2_with fail
  refine (H2.out w1 (tabW_below HT.out HB1.out)).mono ?_
  rintro e w2 ⟨rfl, hb2⟩
  have HB2 := hidIn (HB1.out.trans (hb2.mono HB1.out.size))
  clear hb2
  go_wp2_with fail
  go_ret
  exact ⟨rfl, HB2.out⟩

/-- A trade. -/
def trade (id : ByteArray) (c : C) : Ev := ⟨2, id, ⟨#[]⟩, ⟨#[]⟩, ⟨#[]⟩, 0, 0, c⟩
theorem trade_ok (id : ByteArray) (c : C) (hi : id.size ≤ maxLen) (hc : c.Ok) (hw : c.weight ≤ 1000000) : (trade id c).Ok := by
  constructor <;> first | exact hc | exact hi | exact hw | exact small_size | (unfold trade; simp only; omega)
theorem trade_form (id : ByteArray) (c : C) : formE (trade id c) = nameGo 0 (runesOf id) := by
  have h1 : (!((flds 2).toList == [63])) = true := by decide +kernel
  have h2 : hasB (flds 2) 73 = true := by decide +kernel
  have h3 : hasB (flds 2) 78 = false := by decide +kernel
  have h4 : hasB (flds 2) 76 = false := by decide +kernel
  have h5 : hasB (flds 2) 67 = false := by decide +kernel
  have h6 : hasB (flds 2) 68 = false := by decide +kernel
  have h7 : hasB (flds 2) 86 = false := by decide +kernel
  have h8 : hasB (flds 2) 84 = true := by decide +kernel
  have h9 : (⟨#[]⟩ : ByteArray).toList.isEmpty = true := by decide +kernel
  unfold formE trade
  simp only [h1, h2, h3, h4, h5, h6, h7, h8, fitS, fitI, h9]
  simp
theorem trade_chk (id : ByteArray) (c : C) : chkE (trade id c) = if nameGo 0 (runesOf id) = true then wErrC c else 1 := by
  unfold chkE
  rw [trade_form]
  simp [trade]

end Go.Proofs.YtiaaibblihebjaaDoor.Ev
namespace Go.Proofs.YtiaaibblihebjaaDoor.Ev
open Go.RowKit
set_option linter.unusedVariables false

theorem sameC_give (c : C) : sameC c (.give c) = false := by
  induction c with
  | give c ih => simp only [sameC]; exact ih
  | _ => rfl
theorem nilB_whole (c : C) (h : c.whole) : nilB c = false := by
  cases c with
  | odd v => exact absurd h (by simp [C.whole])
  | _ => rfl
theorem join_pos (word : ByteArray) (xs : List ByteArray) : 0 < (joinT word xs).size := by
  unfold joinT
  rw [ByteArray.size_append]
  have : (⟨#[41]⟩ : ByteArray).size = 1 := rfl
  omega
theorem textC_pos (c : C) (h : formC c = true) : 0 < (textC c).size := by
  cases c with
  | odd v => simp [formC] at h
  | zero => decide
  | _ => exact join_pos _ _
/-- A contract has a text just if there is no error. -/
theorem text_iff (c : C) : (wErrC c = 0) ↔ 0 < (wTextC c).size := by
  unfold wErrC wTextC
  by_cases h : chkC c = 0
  · rw [if_pos h, if_pos h]
    by_cases h2 : 1000 < (textC c).size
    · rw [if_pos h2, if_pos h2]; simp; rfl
    · rw [if_neg h2, if_neg h2]
      exact ⟨fun _ => textC_pos c (chkC_zero h).1, fun _ => rfl⟩
  · rw [if_neg h, if_neg h]
    simp [h]; rfl
theorem same_trade (id : ByteArray) (c : C) (h : c.whole) : sameE (trade id c) (trade id c) = true := by
  have := whole_sameC c h
  simp [sameE, trade, sameTm, this]
theorem same_give (id : ByteArray) (c : C) (h : c.whole) : sameE (trade id c) (trade id (.give c)) = false := by
  simp [sameE, trade, sameTm, sameC_give, nilB]
theorem empty_iff (s : ByteArray) : s.toList.isEmpty = decide (s.size = 0) := by
  have : s.toList = s.data.toList := ByteArray.toList_eq s
  rw [this]
  cases s with
  | mk d => cases d with
    | mk l => cases l <;> simp [ByteArray.size]

set_option maxHeartbeats 8000000 in
set_option maxRecDepth 100000 in
theorem terms_walk (p : Pl) (id : ByteArray) (plain : Bool) (w : World) (hp : PlanIn w p) (hid : id.size ≤ 140737488351232) (htab : TabW w) :
    Calls Tryd.prog 3 #[planV p, .string id, .bool plain] w fun e w' => e = .returned (.bool true) ∧ Below w.heap.size w w' := by
  obtain ⟨c, hc⟩ : ∃ c, conP p = c := ⟨_, rfl⟩
  have HWH : Hid c.whole := by rw [← hc]; exact conP_whole p
  have HOK : Hid c.Ok := cwhole_ok c HWH.out
  have HWT : Hid (c.weight ≤ 1000000) := by rw [← hc]; have := conP_weight p; exact Nat.le_trans this (by omega)
  have HWT2 : Hid (c.weight ≤ 630) := by rw [← hc]; exact conP_weight p
  have HCON := hidIn (fun W h => contract_any p W h)
  rw [hc] at HCON
  clear hc
  obtain ⟨ci, hci⟩ : ∃ s, cutTo id 14 = s := ⟨_, rfl⟩
  have HCS : Hid (ci.size ≤ maxLen) := by rw [← hci]; exact Nat.le_trans (cutTo_size id 14) (by decide)
  have HTX := hidIn (fun W => text_any id 14 W (by unfold maxLen; omega) (by omega))
  rw [hci] at HTX
  clear hci hid
  obtain ⟨ri, hri⟩ : ∃ s, (bif plain then (⟨#[116, 49]⟩ : ByteArray) else ci) = s := ⟨_, rfl⟩
  have HRS : Hid (ri.size ≤ maxLen) := by rw [← hri]; cases plain; exact HCS.out; exact (show (⟨#[116, 49]⟩ : ByteArray).size ≤ maxLen by decide)
  obtain ⟨f, hf⟩ : ∃ f, chkE (trade ri c) = f := ⟨_, rfl⟩
  obtain ⟨we, hwe⟩ : ∃ x, wErrC c = x := ⟨_, rfl⟩
  obtain ⟨wt, hwt⟩ : ∃ x, wTextC c = x := ⟨_, rfl⟩
  have HF1 : Hid (f = we ∨ f = 1) := by
    rw [← hf, ← hwe, trade_chk]
    unfold Hid
    split
    · exact .inl rfl
    · exact .inr rfl
  have HF2 : Hid (plain = true → f = we) := fun h => by
    subst h
    rw [← hf, ← hwe, trade_chk, ← hri]
    rw [show nameGo 0 (runesOf (bif true then (⟨#[116, 49]⟩ : ByteArray) else ci)) = true from (show nameGo 0 (runesOf ⟨#[116, 49]⟩) = true by decide +kernel)]
    rfl
  have HF3 : Hid ((we == 0) = !(wt.toList.isEmpty)) := by
    have := text_iff c
    rw [hwe, hwt] at this
    rw [empty_iff]
    unfold Hid
    by_cases h : we = 0
    · have h2 := this.1 h
      rw [decide_eq_false (by omega)]
      simp [h]
    · have h2 : ¬ 0 < wt.size := fun h3 => h (this.2 h3)
      rw [decide_eq_true (by omega)]
      simp [h]
  have HCK : Hid (∀ W, TabW W → Calls Tryd.prog 9 #[.agg #[.int .i64 2, .string ri, .string ⟨#[]⟩, .string ⟨#[]⟩, .string ⟨#[]⟩, .int .i64 0, .int .i64 0, c.val]] W fun r w' => r = .returned (.int .i64 f) ∧ Below W.heap.size W w') := fun W hW => by
    have := check_any (trade ri c) (trade_ok ri c HRS.out HOK.out HWT.out) W hW
    rw [hf] at this
    exact this
  have HWR := hidIn (fun W h => writeC_any c HOK.out HWT.out W h)
  rw [hwe, hwt] at HWR
  have HS1 : Hid (∀ W, Calls Tryd.prog 10 #[.agg #[.int .i64 2, .string ri, .string ⟨#[]⟩, .string ⟨#[]⟩, .string ⟨#[]⟩, .int .i64 0, .int .i64 0, c.val], .agg #[.int .i64 2, .string ri, .string ⟨#[]⟩, .string ⟨#[]⟩, .string ⟨#[]⟩, .int .i64 0, .int .i64 0, c.val]] W fun r w' => r = .returned (.bool true) ∧ Below W.heap.size W w') := fun W => by
    have := same_any (trade ri c) (trade ri c) (trade_ok ri c HRS.out HOK.out HWT.out) (trade_ok ri c HRS.out HOK.out HWT.out) W
    rw [same_trade ri c HWH.out] at this
    exact this
  have HS2 : Hid (∀ W, Calls Tryd.prog 10 #[.agg #[.int .i64 2, .string ri, .string ⟨#[]⟩, .string ⟨#[]⟩, .string ⟨#[]⟩, .int .i64 0, .int .i64 0, c.val], .agg #[.int .i64 2, .string ri, .string ⟨#[]⟩, .string ⟨#[]⟩, .string ⟨#[]⟩, .int .i64 0, .int .i64 0, .iface 40 (.agg #[c.val])]] W fun r w' => r = .returned (.bool false) ∧ Below W.heap.size W w') := fun W => by
    have hw : (C.give c).weight ≤ 1000000 := by simp only [C.weight]; have := HWT2.out; omega
    have := same_any (trade ri c) (trade ri (.give c)) (trade_ok ri c HRS.out HOK.out HWT.out) (trade_ok ri (.give c) HRS.out HOK.out hw) W
    rw [same_give ri c HWH.out] at this
    exact this
  have HS3 : Hid (∀ W, Calls Tryd.prog 11 #[c.val, c.val] W fun r w' => r = .returned (.bool true) ∧ Below W.heap.size W w') := fun W => by
    have := sameT_any c HOK.out c HOK.out W
    rw [whole_sameC c HWH.out] at this
    exact this
  have HTM := hidIn (fun (W : World) (v : Value) (B : Nat) (ht : TIn W B (plainC c) v) => termP_any c HWH.out W v B ht)
  have HT := hidIn htab
  have HP := hidIn hp
  obtain ⟨xt, xv, hcv⟩ : ∃ x y, c.val = .iface x y := by
    obtain ⟨nb, hnb, hv⟩ := nil_runs c HOK.out
    rcases hv with ⟨rfl, hv⟩ | ⟨rfl, x, y, hv⟩
    · rw [nilB_whole c HWH.out] at hnb; cases hnb
    · exact ⟨x, y, hv⟩
  rw [hcv] at HCK HWR HS1 HS2 HS3 HTM
  clear hf hwe hwt hp htab hcv
  unfold planV at *
  go_enter Tryd.func3, Tryd.ntmps3
  go_wp2_with fail
  have HB0 := hidIn (below_alloc (Below.refl w.heap.size w) (.cells #[.slice p.na p.nl p.nc, .slice p.wa p.wl p.wc] 25))
  generalize w.alloc (.cells #[.slice p.na p.nl p.nc, .slice p.wa p.wl p.wc] 25) = V at *
  refine (HCON.out V (HP.out.below HB0.out)).mono ?_
  rintro e w1 ⟨v1, rfl, ht1, hb1⟩
  have HT1 := hidIn ht1
  have HB1 := hidIn (HB0.out.trans (hb1.mono HB0.out.size))
  clear ht1 hb1 HCON HB0
  go_wp2_with fail
  refine (HTM.out w1 v1 _ HT1.out).mono ?_
  rintro e w2 ⟨rfl, hb2⟩
  have HB2 := hidIn (HB1.out.trans (hb2.mono HB1.out.size))
  clear hb2 HB1 HT1 HTM
  go_wp2_with fail
  refine calls_same (HTX.out w2) ?_
  have key : ∀ (b : Bool), plain = b → ∃ (q0 q1 q2 : Bool), (f == 0) = q0 ∧ (f == we) = q1 ∧ (f == 1) = q2 ∧ (b = true → q1 = true ∧ (wt.toList.isEmpty) = !q0) ∧ (q1 = true ∨ q2 = true) := fun b hb => by
    subst hb
    refine ⟨_, _, _, rfl, rfl, rfl, fun h => ?_, ?_⟩
    · have h1 := HF2.out h
      subst h1
      have h3 := HF3.out
      refine ⟨by simp, ?_⟩
      rw [h3]; simp
    · rcases HF1.out with h | h
      · left; simpa using h
      · right; simpa using h
  have HKEY := hidIn key
  clear key HF1 HF2 HF3
  cases plain
  · obtain ⟨q0, q1, q2, e0, e1, e2, -, h2⟩ := HKEY.out false rfl
    simp only [cond_false] at hri
    subst hri
    clear HKEY
    go_wp2_with fail
    refine (HWR.out w2 (tabW_below HT.out HB2.out)).mono ?_
    rintro e w3 ⟨rfl, hb3⟩
    have HB3 := hidIn (HB2.out.trans (hb3.mono HB2.out.size))
    clear hb3 HWR HB2
    go_wp2_with fail
    refine (HCK.out w3 (tabW_below HT.out HB3.out)).mono ?_
    rintro e w4 ⟨rfl, hb4⟩
    have HB4 := hidIn (HB3.out.trans (hb4.mono HB3.out.size))
    clear hb4 HCK HB3
    rcases h2 with rfl | rfl
    · cases q0
      · go_wp2_with fail
        have HB5 : Hid (Below w.heap.size w ((w4.alloc (.cells #[.int .i64 2, .string ci, .string ⟨#[]⟩, .string ⟨#[]⟩, .string ⟨#[]⟩, .int .i64 0, .int .i64 0, .iface xt xv] 38)).alloc (.cells #[.int .i64 2, .string ci, .string ⟨#[]⟩, .string ⟨#[]⟩, .string ⟨#[]⟩, .int .i64 0, .int .i64 0, .iface 40 (.agg #[.iface xt xv])] 38))) := below_alloc (below_alloc HB4.out _) _
        have hx0 : ((w4.alloc (.cells #[.int .i64 2, .string ci, .string ⟨#[]⟩, .string ⟨#[]⟩, .string ⟨#[]⟩, .int .i64 0, .int .i64 0, .iface xt xv] 38)).alloc (.cells #[.int .i64 2, .string ci, .string ⟨#[]⟩, .string ⟨#[]⟩, .string ⟨#[]⟩, .int .i64 0, .int .i64 0, .iface 40 (.agg #[.iface xt xv])] 38)).heap[w4.heap.size]? = some (.cells #[.int .i64 2, .string ci, .string ⟨#[]⟩, .string ⟨#[]⟩, .string ⟨#[]⟩, .int .i64 0, .int .i64 0, .iface xt xv] 38) := heap_keeps (heap_alloc_new _ _) _
        have hx1 : ((w4.alloc (.cells #[.int .i64 2, .string ci, .string ⟨#[]⟩, .string ⟨#[]⟩, .string ⟨#[]⟩, .int .i64 0, .int .i64 0, .iface xt xv] 38)).alloc (.cells #[.int .i64 2, .string ci, .string ⟨#[]⟩, .string ⟨#[]⟩, .string ⟨#[]⟩, .int .i64 0, .int .i64 0, .iface 40 (.agg #[.iface xt xv])] 38)).heap[w4.heap.size + 1]? = some (.cells #[.int .i64 2, .string ci, .string ⟨#[]⟩, .string ⟨#[]⟩, .string ⟨#[]⟩, .int .i64 0, .int .i64 0, .iface 40 (.agg #[.iface xt xv])] 38) := by
          have h := heap_alloc_new (w4.alloc (.cells #[.int .i64 2, .string ci, .string ⟨#[]⟩, .string ⟨#[]⟩, .string ⟨#[]⟩, .int .i64 0, .int .i64 0, .iface xt xv] 38)) (.cells #[.int .i64 2, .string ci, .string ⟨#[]⟩, .string ⟨#[]⟩, .string ⟨#[]⟩, .int .i64 0, .int .i64 0, .iface 40 (.agg #[.iface xt xv])] 38)
          rwa [show (w4.alloc (.cells #[.int .i64 2, .string ci, .string ⟨#[]⟩, .string ⟨#[]⟩, .string ⟨#[]⟩, .int .i64 0, .int .i64 0, .iface xt xv] 38)).heap.size = w4.heap.size + 1 by simp] at h
        generalize (w4.alloc (.cells #[.int .i64 2, .string ci, .string ⟨#[]⟩, .string ⟨#[]⟩, .string ⟨#[]⟩, .int .i64 0, .int .i64 0, .iface xt xv] 38)).alloc (.cells #[.int .i64 2, .string ci, .string ⟨#[]⟩, .string ⟨#[]⟩, .string ⟨#[]⟩, .int .i64 0, .int .i64 0, .iface 40 (.agg #[.iface xt xv])] 38) = U at *
        refine (HS1.out U).mono ?_
        rintro e w5 ⟨rfl, hb5⟩
        have hy0 := (hb5.block _ (Array.getElem?_eq_some_iff.1 hx0).1).trans hx0
        have hy1 := (hb5.block _ (Array.getElem?_eq_some_iff.1 hx1).1).trans hx1
        have HB6 := hidIn (HB5.out.trans (hb5.mono HB5.out.size))
        clear hx0 hx1 hb5 HB5 HS1
        have x0 := cell_of_row _ _ 0 _ _ _ hy0
        have y0 := cell_of_row _ _ 0 _ _ _ hy1
        have x1 := cell_of_row _ _ 1 _ _ _ hy0
        have y1 := cell_of_row _ _ 1 _ _ _ hy1
        have x2 := cell_of_row _ _ 2 _ _ _ hy0
        have y2 := cell_of_row _ _ 2 _ _ _ hy1
        have x3 := cell_of_row _ _ 3 _ _ _ hy0
        have y3 := cell_of_row _ _ 3 _ _ _ hy1
        have x4 := cell_of_row _ _ 4 _ _ _ hy0
        have y4 := cell_of_row _ _ 4 _ _ _ hy1
        have x5 := cell_of_row _ _ 5 _ _ _ hy0
        have y5 := cell_of_row _ _ 5 _ _ _ hy1
        have x6 := cell_of_row _ _ 6 _ _ _ hy0
        have y6 := cell_of_row _ _ 6 _ _ _ hy1
        have x7 := cell_of_row _ _ 7 _ _ _ hy0
        have y7 := cell_of_row _ _ 7 _ _ _ hy1
        have HY0 := hidIn hy0
        clear hy0 hy1
        go_wp2_with fail
        refine (HS2.out w5).mono ?_
        rintro e w6 ⟨rfl, hb6⟩
        have hz := (hb6.block _ (Array.getElem?_eq_some_iff.1 HY0.out).1).trans HY0.out
        have HB7 := hidIn (HB6.out.trans (hb6.mono HB6.out.size))
        clear hb6 HB6 HS2 x0 x1 x2 x3 x4 x5 x6 x7 y0 y1 y2 y3 y4 y5 y6 y7
        have x7 := cell_of_row _ _ 7 _ _ _ hz
        clear hz
        go_wp2_with fail
        refine (HS3.out w6).mono ?_
        rintro e w7 ⟨rfl, hb7⟩
        have HB8 := hidIn (HB7.out.trans (hb7.mono HB7.out.size))
        clear hb7 HB7 HS3 x7
        go_wp2_with fail
        refine (wakes11_any w7 (tabW_below HT.out HB8.out)).mono ?_
        rintro e w8 ⟨rfl, hb8⟩
        have HB9 := hidIn (HB8.out.trans (hb8.mono HB8.out.size))
        clear hb8 HB8
        go_wp2_with fail
        go_ret
        exact ⟨rfl, HB9.out⟩
      · go_wp2_with fail
        have HB5 : Hid (Below w.heap.size w ((w4.alloc (.cells #[.int .i64 2, .string ci, .string ⟨#[]⟩, .string ⟨#[]⟩, .string ⟨#[]⟩, .int .i64 0, .int .i64 0, .iface xt xv] 38)).alloc (.cells #[.int .i64 2, .string ci, .string ⟨#[]⟩, .string ⟨#[]⟩, .string ⟨#[]⟩, .int .i64 0, .int .i64 0, .iface 40 (.agg #[.iface xt xv])] 38))) := below_alloc (below_alloc HB4.out _) _
        have hx0 : ((w4.alloc (.cells #[.int .i64 2, .string ci, .string ⟨#[]⟩, .string ⟨#[]⟩, .string ⟨#[]⟩, .int .i64 0, .int .i64 0, .iface xt xv] 38)).alloc (.cells #[.int .i64 2, .string ci, .string ⟨#[]⟩, .string ⟨#[]⟩, .string ⟨#[]⟩, .int .i64 0, .int .i64 0, .iface 40 (.agg #[.iface xt xv])] 38)).heap[w4.heap.size]? = some (.cells #[.int .i64 2, .string ci, .string ⟨#[]⟩, .string ⟨#[]⟩, .string ⟨#[]⟩, .int .i64 0, .int .i64 0, .iface xt xv] 38) := heap_keeps (heap_alloc_new _ _) _
        have hx1 : ((w4.alloc (.cells #[.int .i64 2, .string ci, .string ⟨#[]⟩, .string ⟨#[]⟩, .string ⟨#[]⟩, .int .i64 0, .int .i64 0, .iface xt xv] 38)).alloc (.cells #[.int .i64 2, .string ci, .string ⟨#[]⟩, .string ⟨#[]⟩, .string ⟨#[]⟩, .int .i64 0, .int .i64 0, .iface 40 (.agg #[.iface xt xv])] 38)).heap[w4.heap.size + 1]? = some (.cells #[.int .i64 2, .string ci, .string ⟨#[]⟩, .string ⟨#[]⟩, .string ⟨#[]⟩, .int .i64 0, .int .i64 0, .iface 40 (.agg #[.iface xt xv])] 38) := by
          have h := heap_alloc_new (w4.alloc (.cells #[.int .i64 2, .string ci, .string ⟨#[]⟩, .string ⟨#[]⟩, .string ⟨#[]⟩, .int .i64 0, .int .i64 0, .iface xt xv] 38)) (.cells #[.int .i64 2, .string ci, .string ⟨#[]⟩, .string ⟨#[]⟩, .string ⟨#[]⟩, .int .i64 0, .int .i64 0, .iface 40 (.agg #[.iface xt xv])] 38)
          rwa [show (w4.alloc (.cells #[.int .i64 2, .string ci, .string ⟨#[]⟩, .string ⟨#[]⟩, .string ⟨#[]⟩, .int .i64 0, .int .i64 0, .iface xt xv] 38)).heap.size = w4.heap.size + 1 by simp] at h
        generalize (w4.alloc (.cells #[.int .i64 2, .string ci, .string ⟨#[]⟩, .string ⟨#[]⟩, .string ⟨#[]⟩, .int .i64 0, .int .i64 0, .iface xt xv] 38)).alloc (.cells #[.int .i64 2, .string ci, .string ⟨#[]⟩, .string ⟨#[]⟩, .string ⟨#[]⟩, .int .i64 0, .int .i64 0, .iface 40 (.agg #[.iface xt xv])] 38) = U at *
        refine (HS1.out U).mono ?_
        rintro e w5 ⟨rfl, hb5⟩
        have hy0 := (hb5.block _ (Array.getElem?_eq_some_iff.1 hx0).1).trans hx0
        have hy1 := (hb5.block _ (Array.getElem?_eq_some_iff.1 hx1).1).trans hx1
        have HB6 := hidIn (HB5.out.trans (hb5.mono HB5.out.size))
        clear hx0 hx1 hb5 HB5 HS1
        have x0 := cell_of_row _ _ 0 _ _ _ hy0
        have y0 := cell_of_row _ _ 0 _ _ _ hy1
        have x1 := cell_of_row _ _ 1 _ _ _ hy0
        have y1 := cell_of_row _ _ 1 _ _ _ hy1
        have x2 := cell_of_row _ _ 2 _ _ _ hy0
        have y2 := cell_of_row _ _ 2 _ _ _ hy1
        have x3 := cell_of_row _ _ 3 _ _ _ hy0
        have y3 := cell_of_row _ _ 3 _ _ _ hy1
        have x4 := cell_of_row _ _ 4 _ _ _ hy0
        have y4 := cell_of_row _ _ 4 _ _ _ hy1
        have x5 := cell_of_row _ _ 5 _ _ _ hy0
        have y5 := cell_of_row _ _ 5 _ _ _ hy1
        have x6 := cell_of_row _ _ 6 _ _ _ hy0
        have y6 := cell_of_row _ _ 6 _ _ _ hy1
        have x7 := cell_of_row _ _ 7 _ _ _ hy0
        have y7 := cell_of_row _ _ 7 _ _ _ hy1
        have HY0 := hidIn hy0
        clear hy0 hy1
        go_wp2_with fail
        refine (HS2.out w5).mono ?_
        rintro e w6 ⟨rfl, hb6⟩
        have hz := (hb6.block _ (Array.getElem?_eq_some_iff.1 HY0.out).1).trans HY0.out
        have HB7 := hidIn (HB6.out.trans (hb6.mono HB6.out.size))
        clear hb6 HB6 HS2 x0 x1 x2 x3 x4 x5 x6 x7 y0 y1 y2 y3 y4 y5 y6 y7
        have x7 := cell_of_row _ _ 7 _ _ _ hz
        clear hz
        go_wp2_with fail
        refine (HS3.out w6).mono ?_
        rintro e w7 ⟨rfl, hb7⟩
        have HB8 := hidIn (HB7.out.trans (hb7.mono HB7.out.size))
        clear hb7 HB7 HS3 x7
        go_wp2_with fail
        refine (wakes11_any w7 (tabW_below HT.out HB8.out)).mono ?_
        rintro e w8 ⟨rfl, hb8⟩
        have HB9 := hidIn (HB8.out.trans (hb8.mono HB8.out.size))
        clear hb8 HB8
        go_wp2_with fail
        go_ret
        exact ⟨rfl, HB9.out⟩
    · cases q0 <;> cases q1
      · go_wp2_with fail
        have HB5 : Hid (Below w.heap.size w ((w4.alloc (.cells #[.int .i64 2, .string ci, .string ⟨#[]⟩, .string ⟨#[]⟩, .string ⟨#[]⟩, .int .i64 0, .int .i64 0, .iface xt xv] 38)).alloc (.cells #[.int .i64 2, .string ci, .string ⟨#[]⟩, .string ⟨#[]⟩, .string ⟨#[]⟩, .int .i64 0, .int .i64 0, .iface 40 (.agg #[.iface xt xv])] 38))) := below_alloc (below_alloc HB4.out _) _
        have hx0 : ((w4.alloc (.cells #[.int .i64 2, .string ci, .string ⟨#[]⟩, .string ⟨#[]⟩, .string ⟨#[]⟩, .int .i64 0, .int .i64 0, .iface xt xv] 38)).alloc (.cells #[.int .i64 2, .string ci, .string ⟨#[]⟩, .string ⟨#[]⟩, .string ⟨#[]⟩, .int .i64 0, .int .i64 0, .iface 40 (.agg #[.iface xt xv])] 38)).heap[w4.heap.size]? = some (.cells #[.int .i64 2, .string ci, .string ⟨#[]⟩, .string ⟨#[]⟩, .string ⟨#[]⟩, .int .i64 0, .int .i64 0, .iface xt xv] 38) := heap_keeps (heap_alloc_new _ _) _
        have hx1 : ((w4.alloc (.cells #[.int .i64 2, .string ci, .string ⟨#[]⟩, .string ⟨#[]⟩, .string ⟨#[]⟩, .int .i64 0, .int .i64 0, .iface xt xv] 38)).alloc (.cells #[.int .i64 2, .string ci, .string ⟨#[]⟩, .string ⟨#[]⟩, .string ⟨#[]⟩, .int .i64 0, .int .i64 0, .iface 40 (.agg #[.iface xt xv])] 38)).heap[w4.heap.size + 1]? = some (.cells #[.int .i64 2, .string ci, .string ⟨#[]⟩, .string ⟨#[]⟩, .string ⟨#[]⟩, .int .i64 0, .int .i64 0, .iface 40 (.agg #[.iface xt xv])] 38) := by
          have h := heap_alloc_new (w4.alloc (.cells #[.int .i64 2, .string ci, .string ⟨#[]⟩, .string ⟨#[]⟩, .string ⟨#[]⟩, .int .i64 0, .int .i64 0, .iface xt xv] 38)) (.cells #[.int .i64 2, .string ci, .string ⟨#[]⟩, .string ⟨#[]⟩, .string ⟨#[]⟩, .int .i64 0, .int .i64 0, .iface 40 (.agg #[.iface xt xv])] 38)
          rwa [show (w4.alloc (.cells #[.int .i64 2, .string ci, .string ⟨#[]⟩, .string ⟨#[]⟩, .string ⟨#[]⟩, .int .i64 0, .int .i64 0, .iface xt xv] 38)).heap.size = w4.heap.size + 1 by simp] at h
        generalize (w4.alloc (.cells #[.int .i64 2, .string ci, .string ⟨#[]⟩, .string ⟨#[]⟩, .string ⟨#[]⟩, .int .i64 0, .int .i64 0, .iface xt xv] 38)).alloc (.cells #[.int .i64 2, .string ci, .string ⟨#[]⟩, .string ⟨#[]⟩, .string ⟨#[]⟩, .int .i64 0, .int .i64 0, .iface 40 (.agg #[.iface xt xv])] 38) = U at *
        refine (HS1.out U).mono ?_
        rintro e w5 ⟨rfl, hb5⟩
        have hy0 := (hb5.block _ (Array.getElem?_eq_some_iff.1 hx0).1).trans hx0
        have hy1 := (hb5.block _ (Array.getElem?_eq_some_iff.1 hx1).1).trans hx1
        have HB6 := hidIn (HB5.out.trans (hb5.mono HB5.out.size))
        clear hx0 hx1 hb5 HB5 HS1
        have x0 := cell_of_row _ _ 0 _ _ _ hy0
        have y0 := cell_of_row _ _ 0 _ _ _ hy1
        have x1 := cell_of_row _ _ 1 _ _ _ hy0
        have y1 := cell_of_row _ _ 1 _ _ _ hy1
        have x2 := cell_of_row _ _ 2 _ _ _ hy0
        have y2 := cell_of_row _ _ 2 _ _ _ hy1
        have x3 := cell_of_row _ _ 3 _ _ _ hy0
        have y3 := cell_of_row _ _ 3 _ _ _ hy1
        have x4 := cell_of_row _ _ 4 _ _ _ hy0
        have y4 := cell_of_row _ _ 4 _ _ _ hy1
        have x5 := cell_of_row _ _ 5 _ _ _ hy0
        have y5 := cell_of_row _ _ 5 _ _ _ hy1
        have x6 := cell_of_row _ _ 6 _ _ _ hy0
        have y6 := cell_of_row _ _ 6 _ _ _ hy1
        have x7 := cell_of_row _ _ 7 _ _ _ hy0
        have y7 := cell_of_row _ _ 7 _ _ _ hy1
        have HY0 := hidIn hy0
        clear hy0 hy1
        go_wp2_with fail
        refine (HS2.out w5).mono ?_
        rintro e w6 ⟨rfl, hb6⟩
        have hz := (hb6.block _ (Array.getElem?_eq_some_iff.1 HY0.out).1).trans HY0.out
        have HB7 := hidIn (HB6.out.trans (hb6.mono HB6.out.size))
        clear hb6 HB6 HS2 x0 x1 x2 x3 x4 x5 x6 x7 y0 y1 y2 y3 y4 y5 y6 y7
        have x7 := cell_of_row _ _ 7 _ _ _ hz
        clear hz
        go_wp2_with fail
        refine (HS3.out w6).mono ?_
        rintro e w7 ⟨rfl, hb7⟩
        have HB8 := hidIn (HB7.out.trans (hb7.mono HB7.out.size))
        clear hb7 HB7 HS3 x7
        go_wp2_with fail
        refine (wakes11_any w7 (tabW_below HT.out HB8.out)).mono ?_
        rintro e w8 ⟨rfl, hb8⟩
        have HB9 := hidIn (HB8.out.trans (hb8.mono HB8.out.size))
        clear hb8 HB8
        go_wp2_with fail
        go_ret
        exact ⟨rfl, HB9.out⟩
      · go_wp2_with fail
        have HB5 : Hid (Below w.heap.size w ((w4.alloc (.cells #[.int .i64 2, .string ci, .string ⟨#[]⟩, .string ⟨#[]⟩, .string ⟨#[]⟩, .int .i64 0, .int .i64 0, .iface xt xv] 38)).alloc (.cells #[.int .i64 2, .string ci, .string ⟨#[]⟩, .string ⟨#[]⟩, .string ⟨#[]⟩, .int .i64 0, .int .i64 0, .iface 40 (.agg #[.iface xt xv])] 38))) := below_alloc (below_alloc HB4.out _) _
        have hx0 : ((w4.alloc (.cells #[.int .i64 2, .string ci, .string ⟨#[]⟩, .string ⟨#[]⟩, .string ⟨#[]⟩, .int .i64 0, .int .i64 0, .iface xt xv] 38)).alloc (.cells #[.int .i64 2, .string ci, .string ⟨#[]⟩, .string ⟨#[]⟩, .string ⟨#[]⟩, .int .i64 0, .int .i64 0, .iface 40 (.agg #[.iface xt xv])] 38)).heap[w4.heap.size]? = some (.cells #[.int .i64 2, .string ci, .string ⟨#[]⟩, .string ⟨#[]⟩, .string ⟨#[]⟩, .int .i64 0, .int .i64 0, .iface xt xv] 38) := heap_keeps (heap_alloc_new _ _) _
        have hx1 : ((w4.alloc (.cells #[.int .i64 2, .string ci, .string ⟨#[]⟩, .string ⟨#[]⟩, .string ⟨#[]⟩, .int .i64 0, .int .i64 0, .iface xt xv] 38)).alloc (.cells #[.int .i64 2, .string ci, .string ⟨#[]⟩, .string ⟨#[]⟩, .string ⟨#[]⟩, .int .i64 0, .int .i64 0, .iface 40 (.agg #[.iface xt xv])] 38)).heap[w4.heap.size + 1]? = some (.cells #[.int .i64 2, .string ci, .string ⟨#[]⟩, .string ⟨#[]⟩, .string ⟨#[]⟩, .int .i64 0, .int .i64 0, .iface 40 (.agg #[.iface xt xv])] 38) := by
          have h := heap_alloc_new (w4.alloc (.cells #[.int .i64 2, .string ci, .string ⟨#[]⟩, .string ⟨#[]⟩, .string ⟨#[]⟩, .int .i64 0, .int .i64 0, .iface xt xv] 38)) (.cells #[.int .i64 2, .string ci, .string ⟨#[]⟩, .string ⟨#[]⟩, .string ⟨#[]⟩, .int .i64 0, .int .i64 0, .iface 40 (.agg #[.iface xt xv])] 38)
          rwa [show (w4.alloc (.cells #[.int .i64 2, .string ci, .string ⟨#[]⟩, .string ⟨#[]⟩, .string ⟨#[]⟩, .int .i64 0, .int .i64 0, .iface xt xv] 38)).heap.size = w4.heap.size + 1 by simp] at h
        generalize (w4.alloc (.cells #[.int .i64 2, .string ci, .string ⟨#[]⟩, .string ⟨#[]⟩, .string ⟨#[]⟩, .int .i64 0, .int .i64 0, .iface xt xv] 38)).alloc (.cells #[.int .i64 2, .string ci, .string ⟨#[]⟩, .string ⟨#[]⟩, .string ⟨#[]⟩, .int .i64 0, .int .i64 0, .iface 40 (.agg #[.iface xt xv])] 38) = U at *
        refine (HS1.out U).mono ?_
        rintro e w5 ⟨rfl, hb5⟩
        have hy0 := (hb5.block _ (Array.getElem?_eq_some_iff.1 hx0).1).trans hx0
        have hy1 := (hb5.block _ (Array.getElem?_eq_some_iff.1 hx1).1).trans hx1
        have HB6 := hidIn (HB5.out.trans (hb5.mono HB5.out.size))
        clear hx0 hx1 hb5 HB5 HS1
        have x0 := cell_of_row _ _ 0 _ _ _ hy0
        have y0 := cell_of_row _ _ 0 _ _ _ hy1
        have x1 := cell_of_row _ _ 1 _ _ _ hy0
        have y1 := cell_of_row _ _ 1 _ _ _ hy1
        have x2 := cell_of_row _ _ 2 _ _ _ hy0
        have y2 := cell_of_row _ _ 2 _ _ _ hy1
        have x3 := cell_of_row _ _ 3 _ _ _ hy0
        have y3 := cell_of_row _ _ 3 _ _ _ hy1
        have x4 := cell_of_row _ _ 4 _ _ _ hy0
        have y4 := cell_of_row _ _ 4 _ _ _ hy1
        have x5 := cell_of_row _ _ 5 _ _ _ hy0
        have y5 := cell_of_row _ _ 5 _ _ _ hy1
        have x6 := cell_of_row _ _ 6 _ _ _ hy0
        have y6 := cell_of_row _ _ 6 _ _ _ hy1
        have x7 := cell_of_row _ _ 7 _ _ _ hy0
        have y7 := cell_of_row _ _ 7 _ _ _ hy1
        have HY0 := hidIn hy0
        clear hy0 hy1
        go_wp2_with fail
        refine (HS2.out w5).mono ?_
        rintro e w6 ⟨rfl, hb6⟩
        have hz := (hb6.block _ (Array.getElem?_eq_some_iff.1 HY0.out).1).trans HY0.out
        have HB7 := hidIn (HB6.out.trans (hb6.mono HB6.out.size))
        clear hb6 HB6 HS2 x0 x1 x2 x3 x4 x5 x6 x7 y0 y1 y2 y3 y4 y5 y6 y7
        have x7 := cell_of_row _ _ 7 _ _ _ hz
        clear hz
        go_wp2_with fail
        refine (HS3.out w6).mono ?_
        rintro e w7 ⟨rfl, hb7⟩
        have HB8 := hidIn (HB7.out.trans (hb7.mono HB7.out.size))
        clear hb7 HB7 HS3 x7
        go_wp2_with fail
        refine (wakes11_any w7 (tabW_below HT.out HB8.out)).mono ?_
        rintro e w8 ⟨rfl, hb8⟩
        have HB9 := hidIn (HB8.out.trans (hb8.mono HB8.out.size))
        clear hb8 HB8
        go_wp2_with fail
        go_ret
        exact ⟨rfl, HB9.out⟩
      · go_wp2_with fail
        have HB5 : Hid (Below w.heap.size w ((w4.alloc (.cells #[.int .i64 2, .string ci, .string ⟨#[]⟩, .string ⟨#[]⟩, .string ⟨#[]⟩, .int .i64 0, .int .i64 0, .iface xt xv] 38)).alloc (.cells #[.int .i64 2, .string ci, .string ⟨#[]⟩, .string ⟨#[]⟩, .string ⟨#[]⟩, .int .i64 0, .int .i64 0, .iface 40 (.agg #[.iface xt xv])] 38))) := below_alloc (below_alloc HB4.out _) _
        have hx0 : ((w4.alloc (.cells #[.int .i64 2, .string ci, .string ⟨#[]⟩, .string ⟨#[]⟩, .string ⟨#[]⟩, .int .i64 0, .int .i64 0, .iface xt xv] 38)).alloc (.cells #[.int .i64 2, .string ci, .string ⟨#[]⟩, .string ⟨#[]⟩, .string ⟨#[]⟩, .int .i64 0, .int .i64 0, .iface 40 (.agg #[.iface xt xv])] 38)).heap[w4.heap.size]? = some (.cells #[.int .i64 2, .string ci, .string ⟨#[]⟩, .string ⟨#[]⟩, .string ⟨#[]⟩, .int .i64 0, .int .i64 0, .iface xt xv] 38) := heap_keeps (heap_alloc_new _ _) _
        have hx1 : ((w4.alloc (.cells #[.int .i64 2, .string ci, .string ⟨#[]⟩, .string ⟨#[]⟩, .string ⟨#[]⟩, .int .i64 0, .int .i64 0, .iface xt xv] 38)).alloc (.cells #[.int .i64 2, .string ci, .string ⟨#[]⟩, .string ⟨#[]⟩, .string ⟨#[]⟩, .int .i64 0, .int .i64 0, .iface 40 (.agg #[.iface xt xv])] 38)).heap[w4.heap.size + 1]? = some (.cells #[.int .i64 2, .string ci, .string ⟨#[]⟩, .string ⟨#[]⟩, .string ⟨#[]⟩, .int .i64 0, .int .i64 0, .iface 40 (.agg #[.iface xt xv])] 38) := by
          have h := heap_alloc_new (w4.alloc (.cells #[.int .i64 2, .string ci, .string ⟨#[]⟩, .string ⟨#[]⟩, .string ⟨#[]⟩, .int .i64 0, .int .i64 0, .iface xt xv] 38)) (.cells #[.int .i64 2, .string ci, .string ⟨#[]⟩, .string ⟨#[]⟩, .string ⟨#[]⟩, .int .i64 0, .int .i64 0, .iface 40 (.agg #[.iface xt xv])] 38)
          rwa [show (w4.alloc (.cells #[.int .i64 2, .string ci, .string ⟨#[]⟩, .string ⟨#[]⟩, .string ⟨#[]⟩, .int .i64 0, .int .i64 0, .iface xt xv] 38)).heap.size = w4.heap.size + 1 by simp] at h
        generalize (w4.alloc (.cells #[.int .i64 2, .string ci, .string ⟨#[]⟩, .string ⟨#[]⟩, .string ⟨#[]⟩, .int .i64 0, .int .i64 0, .iface xt xv] 38)).alloc (.cells #[.int .i64 2, .string ci, .string ⟨#[]⟩, .string ⟨#[]⟩, .string ⟨#[]⟩, .int .i64 0, .int .i64 0, .iface 40 (.agg #[.iface xt xv])] 38) = U at *
        refine (HS1.out U).mono ?_
        rintro e w5 ⟨rfl, hb5⟩
        have hy0 := (hb5.block _ (Array.getElem?_eq_some_iff.1 hx0).1).trans hx0
        have hy1 := (hb5.block _ (Array.getElem?_eq_some_iff.1 hx1).1).trans hx1
        have HB6 := hidIn (HB5.out.trans (hb5.mono HB5.out.size))
        clear hx0 hx1 hb5 HB5 HS1
        have x0 := cell_of_row _ _ 0 _ _ _ hy0
        have y0 := cell_of_row _ _ 0 _ _ _ hy1
        have x1 := cell_of_row _ _ 1 _ _ _ hy0
        have y1 := cell_of_row _ _ 1 _ _ _ hy1
        have x2 := cell_of_row _ _ 2 _ _ _ hy0
        have y2 := cell_of_row _ _ 2 _ _ _ hy1
        have x3 := cell_of_row _ _ 3 _ _ _ hy0
        have y3 := cell_of_row _ _ 3 _ _ _ hy1
        have x4 := cell_of_row _ _ 4 _ _ _ hy0
        have y4 := cell_of_row _ _ 4 _ _ _ hy1
        have x5 := cell_of_row _ _ 5 _ _ _ hy0
        have y5 := cell_of_row _ _ 5 _ _ _ hy1
        have x6 := cell_of_row _ _ 6 _ _ _ hy0
        have y6 := cell_of_row _ _ 6 _ _ _ hy1
        have x7 := cell_of_row _ _ 7 _ _ _ hy0
        have y7 := cell_of_row _ _ 7 _ _ _ hy1
        have HY0 := hidIn hy0
        clear hy0 hy1
        go_wp2_with fail
        refine (HS2.out w5).mono ?_
        rintro e w6 ⟨rfl, hb6⟩
        have hz := (hb6.block _ (Array.getElem?_eq_some_iff.1 HY0.out).1).trans HY0.out
        have HB7 := hidIn (HB6.out.trans (hb6.mono HB6.out.size))
        clear hb6 HB6 HS2 x0 x1 x2 x3 x4 x5 x6 x7 y0 y1 y2 y3 y4 y5 y6 y7
        have x7 := cell_of_row _ _ 7 _ _ _ hz
        clear hz
        go_wp2_with fail
        refine (HS3.out w6).mono ?_
        rintro e w7 ⟨rfl, hb7⟩
        have HB8 := hidIn (HB7.out.trans (hb7.mono HB7.out.size))
        clear hb7 HB7 HS3 x7
        go_wp2_with fail
        refine (wakes11_any w7 (tabW_below HT.out HB8.out)).mono ?_
        rintro e w8 ⟨rfl, hb8⟩
        have HB9 := hidIn (HB8.out.trans (hb8.mono HB8.out.size))
        clear hb8 HB8
        go_wp2_with fail
        go_ret
        exact ⟨rfl, HB9.out⟩
      · go_wp2_with fail
        have HB5 : Hid (Below w.heap.size w ((w4.alloc (.cells #[.int .i64 2, .string ci, .string ⟨#[]⟩, .string ⟨#[]⟩, .string ⟨#[]⟩, .int .i64 0, .int .i64 0, .iface xt xv] 38)).alloc (.cells #[.int .i64 2, .string ci, .string ⟨#[]⟩, .string ⟨#[]⟩, .string ⟨#[]⟩, .int .i64 0, .int .i64 0, .iface 40 (.agg #[.iface xt xv])] 38))) := below_alloc (below_alloc HB4.out _) _
        have hx0 : ((w4.alloc (.cells #[.int .i64 2, .string ci, .string ⟨#[]⟩, .string ⟨#[]⟩, .string ⟨#[]⟩, .int .i64 0, .int .i64 0, .iface xt xv] 38)).alloc (.cells #[.int .i64 2, .string ci, .string ⟨#[]⟩, .string ⟨#[]⟩, .string ⟨#[]⟩, .int .i64 0, .int .i64 0, .iface 40 (.agg #[.iface xt xv])] 38)).heap[w4.heap.size]? = some (.cells #[.int .i64 2, .string ci, .string ⟨#[]⟩, .string ⟨#[]⟩, .string ⟨#[]⟩, .int .i64 0, .int .i64 0, .iface xt xv] 38) := heap_keeps (heap_alloc_new _ _) _
        have hx1 : ((w4.alloc (.cells #[.int .i64 2, .string ci, .string ⟨#[]⟩, .string ⟨#[]⟩, .string ⟨#[]⟩, .int .i64 0, .int .i64 0, .iface xt xv] 38)).alloc (.cells #[.int .i64 2, .string ci, .string ⟨#[]⟩, .string ⟨#[]⟩, .string ⟨#[]⟩, .int .i64 0, .int .i64 0, .iface 40 (.agg #[.iface xt xv])] 38)).heap[w4.heap.size + 1]? = some (.cells #[.int .i64 2, .string ci, .string ⟨#[]⟩, .string ⟨#[]⟩, .string ⟨#[]⟩, .int .i64 0, .int .i64 0, .iface 40 (.agg #[.iface xt xv])] 38) := by
          have h := heap_alloc_new (w4.alloc (.cells #[.int .i64 2, .string ci, .string ⟨#[]⟩, .string ⟨#[]⟩, .string ⟨#[]⟩, .int .i64 0, .int .i64 0, .iface xt xv] 38)) (.cells #[.int .i64 2, .string ci, .string ⟨#[]⟩, .string ⟨#[]⟩, .string ⟨#[]⟩, .int .i64 0, .int .i64 0, .iface 40 (.agg #[.iface xt xv])] 38)
          rwa [show (w4.alloc (.cells #[.int .i64 2, .string ci, .string ⟨#[]⟩, .string ⟨#[]⟩, .string ⟨#[]⟩, .int .i64 0, .int .i64 0, .iface xt xv] 38)).heap.size = w4.heap.size + 1 by simp] at h
        generalize (w4.alloc (.cells #[.int .i64 2, .string ci, .string ⟨#[]⟩, .string ⟨#[]⟩, .string ⟨#[]⟩, .int .i64 0, .int .i64 0, .iface xt xv] 38)).alloc (.cells #[.int .i64 2, .string ci, .string ⟨#[]⟩, .string ⟨#[]⟩, .string ⟨#[]⟩, .int .i64 0, .int .i64 0, .iface 40 (.agg #[.iface xt xv])] 38) = U at *
        refine (HS1.out U).mono ?_
        rintro e w5 ⟨rfl, hb5⟩
        have hy0 := (hb5.block _ (Array.getElem?_eq_some_iff.1 hx0).1).trans hx0
        have hy1 := (hb5.block _ (Array.getElem?_eq_some_iff.1 hx1).1).trans hx1
        have HB6 := hidIn (HB5.out.trans (hb5.mono HB5.out.size))
        clear hx0 hx1 hb5 HB5 HS1
        have x0 := cell_of_row _ _ 0 _ _ _ hy0
        have y0 := cell_of_row _ _ 0 _ _ _ hy1
        have x1 := cell_of_row _ _ 1 _ _ _ hy0
        have y1 := cell_of_row _ _ 1 _ _ _ hy1
        have x2 := cell_of_row _ _ 2 _ _ _ hy0
        have y2 := cell_of_row _ _ 2 _ _ _ hy1
        have x3 := cell_of_row _ _ 3 _ _ _ hy0
        have y3 := cell_of_row _ _ 3 _ _ _ hy1
        have x4 := cell_of_row _ _ 4 _ _ _ hy0
        have y4 := cell_of_row _ _ 4 _ _ _ hy1
        have x5 := cell_of_row _ _ 5 _ _ _ hy0
        have y5 := cell_of_row _ _ 5 _ _ _ hy1
        have x6 := cell_of_row _ _ 6 _ _ _ hy0
        have y6 := cell_of_row _ _ 6 _ _ _ hy1
        have x7 := cell_of_row _ _ 7 _ _ _ hy0
        have y7 := cell_of_row _ _ 7 _ _ _ hy1
        have HY0 := hidIn hy0
        clear hy0 hy1
        go_wp2_with fail
        refine (HS2.out w5).mono ?_
        rintro e w6 ⟨rfl, hb6⟩
        have hz := (hb6.block _ (Array.getElem?_eq_some_iff.1 HY0.out).1).trans HY0.out
        have HB7 := hidIn (HB6.out.trans (hb6.mono HB6.out.size))
        clear hb6 HB6 HS2 x0 x1 x2 x3 x4 x5 x6 x7 y0 y1 y2 y3 y4 y5 y6 y7
        have x7 := cell_of_row _ _ 7 _ _ _ hz
        clear hz
        go_wp2_with fail
        refine (HS3.out w6).mono ?_
        rintro e w7 ⟨rfl, hb7⟩
        have HB8 := hidIn (HB7.out.trans (hb7.mono HB7.out.size))
        clear hb7 HB7 HS3 x7
        go_wp2_with fail
        refine (wakes11_any w7 (tabW_below HT.out HB8.out)).mono ?_
        rintro e w8 ⟨rfl, hb8⟩
        have HB9 := hidIn (HB8.out.trans (hb8.mono HB8.out.size))
        clear hb8 HB8
        go_wp2_with fail
        go_ret
        exact ⟨rfl, HB9.out⟩
  · obtain ⟨q0, q1, q2, e0, e1, e2, h1, h2⟩ := HKEY.out true rfl
    obtain ⟨rfl, h1⟩ := h1 rfl
    simp only [cond_true] at hri
    subst hri
    clear HKEY
    go_wp2_with fail
    refine (HWR.out w2 (tabW_below HT.out HB2.out)).mono ?_
    rintro e w3 ⟨rfl, hb3⟩
    have HB3 := hidIn (HB2.out.trans (hb3.mono HB2.out.size))
    clear hb3 HWR HB2
    go_wp2_with fail
    refine (HCK.out w3 (tabW_below HT.out HB3.out)).mono ?_
    rintro e w4 ⟨rfl, hb4⟩
    have HB4 := hidIn (HB3.out.trans (hb4.mono HB3.out.size))
    clear hb4 HCK HB3
    have f1 : f = we := by simpa using e1
    subst f1
    cases q0
    · go_wp2_with fail
      have HB5 : Hid (Below w.heap.size w ((w4.alloc (.cells #[.int .i64 2, .string ⟨#[116, 49]⟩, .string ⟨#[]⟩, .string ⟨#[]⟩, .string ⟨#[]⟩, .int .i64 0, .int .i64 0, .iface xt xv] 38)).alloc (.cells #[.int .i64 2, .string ⟨#[116, 49]⟩, .string ⟨#[]⟩, .string ⟨#[]⟩, .string ⟨#[]⟩, .int .i64 0, .int .i64 0, .iface 40 (.agg #[.iface xt xv])] 38))) := below_alloc (below_alloc HB4.out _) _
      have hx0 : ((w4.alloc (.cells #[.int .i64 2, .string ⟨#[116, 49]⟩, .string ⟨#[]⟩, .string ⟨#[]⟩, .string ⟨#[]⟩, .int .i64 0, .int .i64 0, .iface xt xv] 38)).alloc (.cells #[.int .i64 2, .string ⟨#[116, 49]⟩, .string ⟨#[]⟩, .string ⟨#[]⟩, .string ⟨#[]⟩, .int .i64 0, .int .i64 0, .iface 40 (.agg #[.iface xt xv])] 38)).heap[w4.heap.size]? = some (.cells #[.int .i64 2, .string ⟨#[116, 49]⟩, .string ⟨#[]⟩, .string ⟨#[]⟩, .string ⟨#[]⟩, .int .i64 0, .int .i64 0, .iface xt xv] 38) := heap_keeps (heap_alloc_new _ _) _
      have hx1 : ((w4.alloc (.cells #[.int .i64 2, .string ⟨#[116, 49]⟩, .string ⟨#[]⟩, .string ⟨#[]⟩, .string ⟨#[]⟩, .int .i64 0, .int .i64 0, .iface xt xv] 38)).alloc (.cells #[.int .i64 2, .string ⟨#[116, 49]⟩, .string ⟨#[]⟩, .string ⟨#[]⟩, .string ⟨#[]⟩, .int .i64 0, .int .i64 0, .iface 40 (.agg #[.iface xt xv])] 38)).heap[w4.heap.size + 1]? = some (.cells #[.int .i64 2, .string ⟨#[116, 49]⟩, .string ⟨#[]⟩, .string ⟨#[]⟩, .string ⟨#[]⟩, .int .i64 0, .int .i64 0, .iface 40 (.agg #[.iface xt xv])] 38) := by
        have h := heap_alloc_new (w4.alloc (.cells #[.int .i64 2, .string ⟨#[116, 49]⟩, .string ⟨#[]⟩, .string ⟨#[]⟩, .string ⟨#[]⟩, .int .i64 0, .int .i64 0, .iface xt xv] 38)) (.cells #[.int .i64 2, .string ⟨#[116, 49]⟩, .string ⟨#[]⟩, .string ⟨#[]⟩, .string ⟨#[]⟩, .int .i64 0, .int .i64 0, .iface 40 (.agg #[.iface xt xv])] 38)
        rwa [show (w4.alloc (.cells #[.int .i64 2, .string ⟨#[116, 49]⟩, .string ⟨#[]⟩, .string ⟨#[]⟩, .string ⟨#[]⟩, .int .i64 0, .int .i64 0, .iface xt xv] 38)).heap.size = w4.heap.size + 1 by simp] at h
      generalize (w4.alloc (.cells #[.int .i64 2, .string ⟨#[116, 49]⟩, .string ⟨#[]⟩, .string ⟨#[]⟩, .string ⟨#[]⟩, .int .i64 0, .int .i64 0, .iface xt xv] 38)).alloc (.cells #[.int .i64 2, .string ⟨#[116, 49]⟩, .string ⟨#[]⟩, .string ⟨#[]⟩, .string ⟨#[]⟩, .int .i64 0, .int .i64 0, .iface 40 (.agg #[.iface xt xv])] 38) = U at *
      refine (HS1.out U).mono ?_
      rintro e w5 ⟨rfl, hb5⟩
      have hy0 := (hb5.block _ (Array.getElem?_eq_some_iff.1 hx0).1).trans hx0
      have hy1 := (hb5.block _ (Array.getElem?_eq_some_iff.1 hx1).1).trans hx1
      have HB6 := hidIn (HB5.out.trans (hb5.mono HB5.out.size))
      clear hx0 hx1 hb5 HB5 HS1
      have x0 := cell_of_row _ _ 0 _ _ _ hy0
      have y0 := cell_of_row _ _ 0 _ _ _ hy1
      have x1 := cell_of_row _ _ 1 _ _ _ hy0
      have y1 := cell_of_row _ _ 1 _ _ _ hy1
      have x2 := cell_of_row _ _ 2 _ _ _ hy0
      have y2 := cell_of_row _ _ 2 _ _ _ hy1
      have x3 := cell_of_row _ _ 3 _ _ _ hy0
      have y3 := cell_of_row _ _ 3 _ _ _ hy1
      have x4 := cell_of_row _ _ 4 _ _ _ hy0
      have y4 := cell_of_row _ _ 4 _ _ _ hy1
      have x5 := cell_of_row _ _ 5 _ _ _ hy0
      have y5 := cell_of_row _ _ 5 _ _ _ hy1
      have x6 := cell_of_row _ _ 6 _ _ _ hy0
      have y6 := cell_of_row _ _ 6 _ _ _ hy1
      have x7 := cell_of_row _ _ 7 _ _ _ hy0
      have y7 := cell_of_row _ _ 7 _ _ _ hy1
      have HY0 := hidIn hy0
      clear hy0 hy1
      go_wp2_with fail
      refine (HS2.out w5).mono ?_
      rintro e w6 ⟨rfl, hb6⟩
      have hz := (hb6.block _ (Array.getElem?_eq_some_iff.1 HY0.out).1).trans HY0.out
      have HB7 := hidIn (HB6.out.trans (hb6.mono HB6.out.size))
      clear hb6 HB6 HS2 x0 x1 x2 x3 x4 x5 x6 x7 y0 y1 y2 y3 y4 y5 y6 y7
      have x7 := cell_of_row _ _ 7 _ _ _ hz
      clear hz
      go_wp2_with fail
      refine (HS3.out w6).mono ?_
      rintro e w7 ⟨rfl, hb7⟩
      have HB8 := hidIn (HB7.out.trans (hb7.mono HB7.out.size))
      clear hb7 HB7 HS3 x7
      go_wp2_with fail
      refine (wakes11_any w7 (tabW_below HT.out HB8.out)).mono ?_
      rintro e w8 ⟨rfl, hb8⟩
      have HB9 := hidIn (HB8.out.trans (hb8.mono HB8.out.size))
      clear hb8 HB8
      go_wp2_with fail
      go_ret
      exact ⟨rfl, HB9.out⟩
    · go_wp2_with fail
      have HB5 : Hid (Below w.heap.size w ((w4.alloc (.cells #[.int .i64 2, .string ⟨#[116, 49]⟩, .string ⟨#[]⟩, .string ⟨#[]⟩, .string ⟨#[]⟩, .int .i64 0, .int .i64 0, .iface xt xv] 38)).alloc (.cells #[.int .i64 2, .string ⟨#[116, 49]⟩, .string ⟨#[]⟩, .string ⟨#[]⟩, .string ⟨#[]⟩, .int .i64 0, .int .i64 0, .iface 40 (.agg #[.iface xt xv])] 38))) := below_alloc (below_alloc HB4.out _) _
      have hx0 : ((w4.alloc (.cells #[.int .i64 2, .string ⟨#[116, 49]⟩, .string ⟨#[]⟩, .string ⟨#[]⟩, .string ⟨#[]⟩, .int .i64 0, .int .i64 0, .iface xt xv] 38)).alloc (.cells #[.int .i64 2, .string ⟨#[116, 49]⟩, .string ⟨#[]⟩, .string ⟨#[]⟩, .string ⟨#[]⟩, .int .i64 0, .int .i64 0, .iface 40 (.agg #[.iface xt xv])] 38)).heap[w4.heap.size]? = some (.cells #[.int .i64 2, .string ⟨#[116, 49]⟩, .string ⟨#[]⟩, .string ⟨#[]⟩, .string ⟨#[]⟩, .int .i64 0, .int .i64 0, .iface xt xv] 38) := heap_keeps (heap_alloc_new _ _) _
      have hx1 : ((w4.alloc (.cells #[.int .i64 2, .string ⟨#[116, 49]⟩, .string ⟨#[]⟩, .string ⟨#[]⟩, .string ⟨#[]⟩, .int .i64 0, .int .i64 0, .iface xt xv] 38)).alloc (.cells #[.int .i64 2, .string ⟨#[116, 49]⟩, .string ⟨#[]⟩, .string ⟨#[]⟩, .string ⟨#[]⟩, .int .i64 0, .int .i64 0, .iface 40 (.agg #[.iface xt xv])] 38)).heap[w4.heap.size + 1]? = some (.cells #[.int .i64 2, .string ⟨#[116, 49]⟩, .string ⟨#[]⟩, .string ⟨#[]⟩, .string ⟨#[]⟩, .int .i64 0, .int .i64 0, .iface 40 (.agg #[.iface xt xv])] 38) := by
        have h := heap_alloc_new (w4.alloc (.cells #[.int .i64 2, .string ⟨#[116, 49]⟩, .string ⟨#[]⟩, .string ⟨#[]⟩, .string ⟨#[]⟩, .int .i64 0, .int .i64 0, .iface xt xv] 38)) (.cells #[.int .i64 2, .string ⟨#[116, 49]⟩, .string ⟨#[]⟩, .string ⟨#[]⟩, .string ⟨#[]⟩, .int .i64 0, .int .i64 0, .iface 40 (.agg #[.iface xt xv])] 38)
        rwa [show (w4.alloc (.cells #[.int .i64 2, .string ⟨#[116, 49]⟩, .string ⟨#[]⟩, .string ⟨#[]⟩, .string ⟨#[]⟩, .int .i64 0, .int .i64 0, .iface xt xv] 38)).heap.size = w4.heap.size + 1 by simp] at h
      generalize (w4.alloc (.cells #[.int .i64 2, .string ⟨#[116, 49]⟩, .string ⟨#[]⟩, .string ⟨#[]⟩, .string ⟨#[]⟩, .int .i64 0, .int .i64 0, .iface xt xv] 38)).alloc (.cells #[.int .i64 2, .string ⟨#[116, 49]⟩, .string ⟨#[]⟩, .string ⟨#[]⟩, .string ⟨#[]⟩, .int .i64 0, .int .i64 0, .iface 40 (.agg #[.iface xt xv])] 38) = U at *
      refine (HS1.out U).mono ?_
      rintro e w5 ⟨rfl, hb5⟩
      have hy0 := (hb5.block _ (Array.getElem?_eq_some_iff.1 hx0).1).trans hx0
      have hy1 := (hb5.block _ (Array.getElem?_eq_some_iff.1 hx1).1).trans hx1
      have HB6 := hidIn (HB5.out.trans (hb5.mono HB5.out.size))
      clear hx0 hx1 hb5 HB5 HS1
      have x0 := cell_of_row _ _ 0 _ _ _ hy0
      have y0 := cell_of_row _ _ 0 _ _ _ hy1
      have x1 := cell_of_row _ _ 1 _ _ _ hy0
      have y1 := cell_of_row _ _ 1 _ _ _ hy1
      have x2 := cell_of_row _ _ 2 _ _ _ hy0
      have y2 := cell_of_row _ _ 2 _ _ _ hy1
      have x3 := cell_of_row _ _ 3 _ _ _ hy0
      have y3 := cell_of_row _ _ 3 _ _ _ hy1
      have x4 := cell_of_row _ _ 4 _ _ _ hy0
      have y4 := cell_of_row _ _ 4 _ _ _ hy1
      have x5 := cell_of_row _ _ 5 _ _ _ hy0
      have y5 := cell_of_row _ _ 5 _ _ _ hy1
      have x6 := cell_of_row _ _ 6 _ _ _ hy0
      have y6 := cell_of_row _ _ 6 _ _ _ hy1
      have x7 := cell_of_row _ _ 7 _ _ _ hy0
      have y7 := cell_of_row _ _ 7 _ _ _ hy1
      have HY0 := hidIn hy0
      clear hy0 hy1
      go_wp2_with fail
      refine (HS2.out w5).mono ?_
      rintro e w6 ⟨rfl, hb6⟩
      have hz := (hb6.block _ (Array.getElem?_eq_some_iff.1 HY0.out).1).trans HY0.out
      have HB7 := hidIn (HB6.out.trans (hb6.mono HB6.out.size))
      clear hb6 HB6 HS2 x0 x1 x2 x3 x4 x5 x6 x7 y0 y1 y2 y3 y4 y5 y6 y7
      have x7 := cell_of_row _ _ 7 _ _ _ hz
      clear hz
      go_wp2_with fail
      refine (HS3.out w6).mono ?_
      rintro e w7 ⟨rfl, hb7⟩
      have HB8 := hidIn (HB7.out.trans (hb7.mono HB7.out.size))
      clear hb7 HB7 HS3 x7
      go_wp2_with fail
      refine (wakes11_any w7 (tabW_below HT.out HB8.out)).mono ?_
      rintro e w8 ⟨rfl, hb8⟩
      have HB9 := hidIn (HB8.out.trans (hb8.mono HB8.out.size))
      clear hb8 HB8
      go_wp2_with fail
      go_ret
      exact ⟨rfl, HB9.out⟩

end Go.Proofs.YtiaaibblihebjaaDoor.Ev
