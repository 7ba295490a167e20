/- How long a number's and a contract's text is; what obsText and termText answer for any that is whole and not too long. -/
import Derived.Test.YtkioolbjmcpjpaaGreatDoorWTerm
import Derived.Test.YtkioolbjmcpjpaaGreatDoorSize
import Derived.Test.YtkioolbjmcpjpaaGreatDoorTermSize
import Derived.Lib.ItoaLen
import Derived.Test.YtkioolbjmcpjpaaGreatDoorTermLabels
import Derived.Test.YtkioolbjmcpjpaaGreatDoorEvB
import Derived.Test.YtkioolbjmcpjpaaGreatDoorTermSm
import Derived.Lib.AppendStr
import Derived.Laws.CopyOwn
import Derived.Laws.BytesArg
import Derived.WalkSmall
import Derived.Laws.AppendOwnNone
import Derived.Laws.IdiomStrings
import Derived.Test.YtkioolbjmcpjpaaGreatDoorRefT
import Derived.Test.YtkioolbjmcpjpaaGreatDoorFormT
import Derived.Test.YtkioolbjmcpjpaaGreatDoorRefO
import Derived.Test.YtkioolbjmcpjpaaGreatDoorMakerC1
import Derived.Test.YtkioolbjmcpjpaaGreatDoorMakerC2
import Derived.Test.YtkioolbjmcpjpaaGreatDoorMakerC4
import Derived.Test.YtkioolbjmcpjpaaGreatDoorMakerC5
import Derived.Test.YtkioolbjmcpjpaaGreatDoorMakerC6
import Derived.Test.YtkioolbjmcpjpaaGreatDoorTermP
import Derived.Test.YtkioolbjmcpjpaaGreatDoorPlanArg
namespace Go.Proofs.YtkioolbjmcpjpaaGreatDoor
open Go.RowKit
set_option linter.unusedVariables false

theorem joinL1 (a : ByteArray) : (Lib.join ([a].map (·.data.toList)) [44]).length = a.size := by
  have e : ∀ x : ByteArray, x.data.toList.length = x.size := fun x => by simp
  show (a.data.toList ++ []).length = _
  simp only [List.length_append, List.length_nil, e, Nat.add_zero]
theorem joinL2 (a b : ByteArray) : (Lib.join ([a, b].map (·.data.toList)) [44]).length = a.size + b.size + 1 := by
  have e : ∀ x : ByteArray, x.data.toList.length = x.size := fun x => by simp
  show (a.data.toList ++ ([44] ++ (b.data.toList ++ []))).length = _
  simp only [List.length_append, List.length_cons, List.length_nil, e]; omega
theorem joinL3 (a b c : ByteArray) : (Lib.join ([a, b, c].map (·.data.toList)) [44]).length = a.size + b.size + c.size + 2 := by
  have e : ∀ x : ByteArray, x.data.toList.length = x.size := fun x => by simp
  show (a.data.toList ++ ([44] ++ (b.data.toList ++ ([44] ++ (c.data.toList ++ []))))).length = _
  simp only [List.length_append, List.length_cons, List.length_nil, e]; omega
theorem joinT_size (word : ByteArray) (xs : List ByteArray) : (joinT word xs).size = word.size + (Lib.join (xs.map (·.data.toList)) [44]).length + 2 := by
  have e1 : (ByteArray.mk #[40]).size = 1 := rfl
  have e2 : (ByteArray.mk #[41]).size = 1 := rfl
  have e3 : (ByteArray.mk (Lib.join (xs.map (·.data.toList)) [44]).toArray).size = (Lib.join (xs.map (·.data.toList)) [44]).length := by
    simp [ByteArray.size]
  unfold joinT
  rw [ByteArray.size_append, ByteArray.size_append, ByteArray.size_append, e1, e2, e3]; omega
/-- Nothing in it is none, each amount has 64 bits, each name has at most M bytes. -/
def O.neat (M : Nat) : O → Prop
  | .const n => -9223372036854775808 ≤ n ∧ n ≤ 9223372036854775807
  | .fix s => s.size ≤ M
  | .add l r => l.neat M ∧ r.neat M
  | .neg o => o.neat M
  | .mul l r => l.neat M ∧ r.neat M
  | .max l r => l.neat M ∧ r.neat M
  | .odd _ => False
def C.neat (M : Nat) : C → Prop
  | .zero => True
  | .one s => s.size ≤ M
  | .give c => c.neat M
  | .and l r => l.neat M ∧ r.neat M
  | .or s l r => s.size ≤ M ∧ l.neat M ∧ r.neat M
  | .scale o c => o.neat M ∧ c.neat M
  | .when d c => (-9223372036854775808 ≤ d ∧ d ≤ 9223372036854775807) ∧ c.neat M
  | .iff o l r => o.neat M ∧ l.neat M ∧ r.neat M
  | .odd _ => False
theorem textO_size (M : Nat) (o : O) (h : o.neat M) : (textO o).size ≤ (M + 30) * o.nodes := by
  induction o with
  | const n => have := numT_size n h.1 h.2; simp only [textO, O.nodes]; omega
  | fix s => have h' : s.size ≤ M := h; simp only [textO, O.nodes]; rw [joinT_size, joinL1]; have e : (ByteArray.mk #[102, 105, 120]).size = 3 := rfl; omega
  | add l r h1 h2 => have a := h1 h.1; have b := h2 h.2; simp only [textO, O.nodes]; rw [joinT_size, joinL2, Nat.mul_add, Nat.mul_add]; have e : (ByteArray.mk #[97, 100, 100]).size = 3 := rfl; omega
  | neg o h1 => have a := h1 h; simp only [textO, O.nodes]; rw [joinT_size, joinL1, Nat.mul_add]; have e : (ByteArray.mk #[110, 101, 103]).size = 3 := rfl; omega
  | mul l r h1 h2 => have a := h1 h.1; have b := h2 h.2; simp only [textO, O.nodes]; rw [joinT_size, joinL2, Nat.mul_add, Nat.mul_add]; have e : (ByteArray.mk #[109, 117, 108]).size = 3 := rfl; omega
  | max l r h1 h2 => have a := h1 h.1; have b := h2 h.2; simp only [textO, O.nodes]; rw [joinT_size, joinL2, Nat.mul_add, Nat.mul_add]; have e : (ByteArray.mk #[109, 97, 120]).size = 3 := rfl; omega
  | odd v => exact absurd h id
theorem textC_size (M : Nat) (c : C) (h : c.neat M) : (textC c).size ≤ (M + 30) * c.nodes := by
  induction c with
  | zero => simp only [textC, C.nodes]; have e : (ByteArray.mk #[122, 101, 114, 111]).size = 4 := rfl; omega
  | one s => have h' : s.size ≤ M := h; simp only [textC, C.nodes]; rw [joinT_size, joinL1]; have e : (ByteArray.mk #[111, 110, 101]).size = 3 := rfl; omega
  | give c h1 => have a := h1 h; simp only [textC, C.nodes]; rw [joinT_size, joinL1, Nat.mul_add]; have e : (ByteArray.mk #[103, 105, 118, 101]).size = 4 := rfl; omega
  | and l r h1 h2 => have a := h1 h.1; have b := h2 h.2; simp only [textC, C.nodes]; rw [joinT_size, joinL2, Nat.mul_add, Nat.mul_add]; have e : (ByteArray.mk #[97, 110, 100]).size = 3 := rfl; omega
  | or s l r h1 h2 => have h' : s.size ≤ M := h.1; have a := h1 h.2.1; have b := h2 h.2.2; simp only [textC, C.nodes]; rw [joinT_size, joinL3, Nat.mul_add, Nat.mul_add]; have e : (ByteArray.mk #[111, 114]).size = 2 := rfl; omega
  | scale o c h1 => have a := textO_size M o h.1; have b := h1 h.2; simp only [textC, C.nodes]; rw [joinT_size, joinL2, Nat.mul_add, Nat.mul_add]; have e : (ByteArray.mk #[115, 99, 97, 108, 101]).size = 5 := rfl; omega
  | when d c h1 => have a := numT_size d h.1.1 h.1.2; have b := h1 h.2; simp only [textC, C.nodes]; rw [joinT_size, joinL2, Nat.mul_add]; have e : (ByteArray.mk #[119, 104, 101, 110]).size = 4 := rfl; omega
  | iff o l r h1 h2 => have a := textO_size M o h.1; have b := h1 h.2.1; have c := h2 h.2.2; simp only [textC, C.nodes]; rw [joinT_size, joinL3, Nat.mul_add, Nat.mul_add, Nat.mul_add]; have e : (ByteArray.mk #[105, 102]).size = 2 := rfl; omega
  | odd v => exact absurd h id
theorem obsText_any (M : Nat) (o : O) (k : o.Ok) (h : o.neat M) (hb : (M + 30) * o.nodes ≤ 70368744177664) : Writes o := by
  induction o with
  | const n => exact obsText_const n h.1 h.2
  | fix s => exact obsText_fix s (by have q := textO_size M (.fix s) h; simp only [textO] at q; rw [joinT_size] at q; omega)
  | add l r h1 h2 => exact obsText_add l r (l.one' k.1) (r.one' k.2) (h1 k.1 h.1 (Nat.le_trans (Nat.mul_le_mul_left _ (by simp only [O.nodes]; omega)) hb)) (h2 k.2 h.2 (Nat.le_trans (Nat.mul_le_mul_left _ (by simp only [O.nodes]; omega)) hb)) (by have q := textO_size M (.add l r) h; simp only [textO] at q; rw [joinT_size] at q; omega)
  | mul l r h1 h2 => exact obsText_mul l r (l.one' k.1) (r.one' k.2) (h1 k.1 h.1 (Nat.le_trans (Nat.mul_le_mul_left _ (by simp only [O.nodes]; omega)) hb)) (h2 k.2 h.2 (Nat.le_trans (Nat.mul_le_mul_left _ (by simp only [O.nodes]; omega)) hb)) (by have q := textO_size M (.mul l r) h; simp only [textO] at q; rw [joinT_size] at q; omega)
  | max l r h1 h2 => exact obsText_max l r (l.one' k.1) (r.one' k.2) (h1 k.1 h.1 (Nat.le_trans (Nat.mul_le_mul_left _ (by simp only [O.nodes]; omega)) hb)) (h2 k.2 h.2 (Nat.le_trans (Nat.mul_le_mul_left _ (by simp only [O.nodes]; omega)) hb)) (by have q := textO_size M (.max l r) h; simp only [textO] at q; rw [joinT_size] at q; omega)
  | neg o h1 => exact obsText_neg o (o.one' k) (h1 k h (Nat.le_trans (Nat.mul_le_mul_left _ (by simp only [O.nodes]; omega)) hb)) (by have q := textO_size M (.neg o) h; simp only [textO] at q; rw [joinT_size] at q; omega)
  | odd v => exact absurd h id
theorem termText_any (M : Nat) (c : C) (k : c.Ok) (h : c.neat M) (hb : (M + 30) * c.nodes ≤ 70368744177664) : WritesC c := by
  induction c with
  | zero => exact termText_zero
  | one s => exact termText_one s (by have q := textC_size M (.one s) h; simp only [textC] at q; rw [joinT_size] at q; omega)
  | give c h1 => exact termText_give c (c.one' k) (h1 k h (Nat.le_trans (Nat.mul_le_mul_left _ (by simp only [C.nodes]; omega)) hb)) (by have q := textC_size M (.give c) h; simp only [textC] at q; rw [joinT_size] at q; omega)
  | and l r h1 h2 => exact termText_and l r (l.one' k.1) (h1 k.1 h.1 (Nat.le_trans (Nat.mul_le_mul_left _ (by simp only [C.nodes]; omega)) hb)) (r.one' k.2) (h2 k.2 h.2 (Nat.le_trans (Nat.mul_le_mul_left _ (by simp only [C.nodes]; omega)) hb)) (by have q := textC_size M (.and l r) h; simp only [textC] at q; rw [joinT_size] at q; omega)
  | or s l r h1 h2 => exact termText_or s l r (l.one' k.2.1) (h1 k.2.1 h.2.1 (Nat.le_trans (Nat.mul_le_mul_left _ (by simp only [C.nodes]; omega)) hb)) (r.one' k.2.2) (h2 k.2.2 h.2.2 (Nat.le_trans (Nat.mul_le_mul_left _ (by simp only [C.nodes]; omega)) hb)) (by have q := textC_size M (.or s l r) h; simp only [textC] at q; rw [joinT_size] at q; omega)
  | scale o c h1 => exact termText_scale o c (o.one' k.1) (obsText_any M o k.1 h.1 (Nat.le_trans (Nat.mul_le_mul_left _ (by simp only [C.nodes]; omega)) hb)) (c.one' k.2) (h1 k.2 h.2 (Nat.le_trans (Nat.mul_le_mul_left _ (by simp only [C.nodes]; omega)) hb)) (by have q := textC_size M (.scale o c) h; simp only [textC] at q; rw [joinT_size] at q; omega)
  | when d c h1 => exact termText_when d h.1.1 h.1.2 c (c.one' k.2) (h1 k.2 h.2 (Nat.le_trans (Nat.mul_le_mul_left _ (by simp only [C.nodes]; omega)) hb)) (by have q := textC_size M (.when d c) h; simp only [textC] at q; rw [joinT_size] at q; omega)
  | iff o l r h1 h2 => exact termText_if o l r (o.one' k.1) (obsText_any M o k.1 h.1 (Nat.le_trans (Nat.mul_le_mul_left _ (by simp only [C.nodes]; omega)) hb)) (l.one' k.2.1) (h1 k.2.1 h.2.1 (Nat.le_trans (Nat.mul_le_mul_left _ (by simp only [C.nodes]; omega)) hb)) (r.one' k.2.2) (h2 k.2.2 h.2.2 (Nat.le_trans (Nat.mul_le_mul_left _ (by simp only [C.nodes]; omega)) hb)) (by have q := textC_size M (.iff o l r) h; simp only [textC] at q; rw [joinT_size] at q; omega)
  | odd v => exact absurd h id
end Go.Proofs.YtkioolbjmcpjpaaGreatDoor
namespace Go.Proofs.YtkioolbjmcpjpaaGreatDoor
open Go.RowKit Go.Maps
set_option linter.unusedVariables false

theorem ownsRow_base {w : World} {B B' e size n : Nat} {v : Value} {xs : List Value} (h : w.ownsRow B e size v n xs) (hB : B' ≤ B) : w.ownsRow B' e size v n xs := by
  refine ⟨h.1, ?_⟩
  rcases h.2 with h | ⟨g, cap, cur, h1, h2, h3⟩
  · exact .inl h
  · exact .inr ⟨g, cap, cur, h1, by omega, h3⟩

set_option maxHeartbeats 1000000 in
set_option maxRecDepth 100000 in
theorem labelsT_any (c : C) (hok : c.Ok) (hsz : c.weight ≤ 1000000) (w : World) : Calls Tryz.prog 90 #[c.val] w fun e w' => ∃ v, e = .returned v ∧ w'.ownsRow w.heap.size 9 1 v c.labels.length (strCells c.labels) ∧ Below w.heap.size w w' := by
  have hmf : ∀ (fn : Fn) (first cap : Array Value) (w : World), (Instr.makeFunc fn first cap).run Tryz.prog w = .ok (.func fn first cap) w := fun _ _ _ _ => rfl
  go_enter Tryz.func90, Tryz.ntmps90
  go_wp2_with fail
  refine (walk_any (labels1_any w.heap.size) c hok (fun k => k = w.heap.size ∨ (Value.slice none 0 0).ownBlock = some k) [] _ ⟨.slice none 0 0, rfl, heap_alloc_new _ _, World.ownsRow_nil _ _ _ _⟩ (by simpa using hsz)).mono ?_
  rintro e w1 ⟨rfl, own1, ⟨v, rfl, hv, hrow⟩, hd⟩
  rw [labels_fold, List.nil_append] at hrow
  have hc : w1.cell? ⟨w.heap.size, 0, none⟩ = some v := (cell_of_row _ _ _ _ _ _ hv).trans rfl
  have HROW := hidIn hrow
  obtain ⟨ao, cap, rfl⟩ := own_shape hrow
  clear hrow hv
  go_wp2_with fail
  go_ret
  have hb : Below w.heap.size w (w.alloc (.cells #[.slice none 0 0] 23)) := below_alloc (Below.refl _ _) _
  refine ⟨_, rfl, ownsRow_base HROW.out (by omega), hb.trans (hd.below (by simp) (fun k hk => ?_))⟩
  rcases hk with rfl | hk
  · exact Nat.le_refl _
  · cases hk

/-- What is known of a list of texts in memory. -/
def HasTxt (w : World) (a : Option Addr) (l : List ByteArray) : Prop := ∀ (i : Nat) (s : ByteArray), l[i]? = some s → ∃ g, a = some ⟨g, 0, none⟩ ∧ w.cell? ⟨g, i, none⟩ = some (.string s)
theorem HasTxt.below {w w' : World} {a : Option Addr} {l : List ByteArray} (h : HasTxt w a l) (hb : Below w.heap.size w w') : HasTxt w' a l := by
  intro i o hi
  obtain ⟨b, e, hc⟩ := h i o hi
  exact ⟨b, e, (hb.cell (World.block_lt_of_cell? w _ hc)).trans hc⟩
theorem own_txt {w : World} {B : Nat} {v : Value} {l : List ByteArray} (h : w.ownsRow B 9 1 v l.length (strCells l)) : ∃ ao cap, v = .slice ao l.length cap ∧ HasTxt w ao l ∧ l.length ≤ 9223372036854775807 ∧ (∀ g, ao = some ⟨g, 0, none⟩ → v.ownBlock = some g) := by
  have h' := own_str h
  obtain ⟨ao, cap, rfl, hc, hl⟩ := h'
  refine ⟨ao, cap, rfl, fun i s hi => ?_, hl, fun g e => by subst e; rfl⟩
  obtain ⟨hlt, rfl⟩ := List.getElem?_eq_some_iff.1 hi
  obtain ⟨g, e, _, hcc⟩ := hc i hlt
  exact ⟨g, e, hcc⟩
theorem HasTxt.grew {w w' : World} {a : Option Addr} {l : List ByteArray} {M : Nat} {row : Option Nat} (h : HasTxt w a l) (hg : Grew M row w w') (hM : ∀ b, a = some ⟨b, 0, none⟩ → b ≠ M ∧ row ≠ some b) : HasTxt w' a l := by
  intro i o hi
  obtain ⟨b, e, hc⟩ := h i o hi
  obtain ⟨h1, h2⟩ := hM b e
  refine ⟨b, e, ?_⟩
  have hb := hg.block b (World.block_lt_of_cell? w _ hc) h1 h2
  simp only [World.cell?, hb] at hc ⊢
  exact hc
theorem addAll_snoc (acc l : List ByteArray) (s : ByteArray) : addAll acc (l ++ [s]) = addN (addAll acc l) s := by simp [addAll]

set_option maxHeartbeats 2000000 in
set_option maxRecDepth 100000 in
theorem addNew_any (more : List ByteArray) (hok : ∀ s ∈ more, s.size ≤ 2147483648) (M : Nat) (v : Value) (acc : List ByteArray) (w : World) (h : NIn w M v acc) (hl : acc.length + more.length ≤ 1000000) (ao : Option Addr) (cap : Nat) (hm : HasTxt w ao more) (hne : ∀ g, ao = some ⟨g, 0, none⟩ → g ≠ M ∧ v.ownBlock ≠ some g) :
    Calls Tryz.prog 128 #[v, .map (some M), .slice ao more.length cap] w (NPost w M v (addAll acc more)) := by
  obtain ⟨i0, gi, gz0, gz1, gz2⟩ := info_parts infoStr
  have HIN : Hid (NIn w M v acc) := h
  have HM := hidIn hm
  have HNE := hidIn hne
  have HOK := hidIn hok
  have hml : more.length ≤ 1000000 := by omega
  have HL := hidIn hl
  clear h hm hne hok hl
  go_enter Tryz.func128, Tryz.ntmps128
  go_wp2_with fail
  go_loopw [13, 0] (fun s13 s0 wr => ∃ i : Nat, i ≤ more.length ∧ s13 = .int .i64 i ∧ NIn wr M s0 (addAll acc (more.take i)) ∧ Grew M v.ownBlock w wr ∧ (s0.ownBlock = v.ownBlock ∨ ∀ k, s0.ownBlock = some k → w.heap.size ≤ k)) (fun s13 _ _ => more.length - (intOf s13).toNat)
  case atStart => exact ⟨0, by omega, rfl, HIN.out, Grew.refl _ _ _, .inl rfl⟩
  case round =>
    obtain ⟨i, hi, rfl, hinr, hgr, hlocr⟩ := hrel
    have HGR : Hid (Grew M v.ownBlock w wr) := hgr
    have HLOC := hidIn hlocr
    have HINR := hidIn hinr
    clear hgr hlocr
    by_cases hlt : i < more.length
    · have hlt' : (i : Int) < (more.length : Int) := by omega
      obtain ⟨s, hsi⟩ : ∃ s, more[i]? = some s := ⟨_, List.getElem?_eq_getElem hlt⟩
      have hs := HOK.out s (List.mem_of_getElem? hsi)
      have hkey : keyOf Tryz.prog 9 (.string s) = some (.string s.data.toList) := Go.WideMaps.keyOf_string_mk Tryz.underlying9 (by unfold maxLen; omega)
      obtain ⟨g, rfl, hc⟩ := (HM.out.grew HGR.out HNE.out) i s hsi
      have ht := take_more _ _ _ hsi
      have HT : Hid (addAll acc (more.take (i + 1)) = addN (addAll acc (more.take i)) s) := by unfold Hid; rw [ht, addAll_snoc]
      have hal : (addAll acc (more.take i)).length ≤ 1000000 := by
        have h1 := addAll_length (more.take i) acc
        have h3 : (more.take i).length ≤ more.length := by rw [List.length_take]; omega
        have := HL.out
        omega
      clear hsi ht
      generalize addAll acc (more.take i) = ac at *
      obtain ⟨hrow, hmap, hsz⟩ := hinr
      by_cases hm : inN ac s = true
      · have hhas : Maps.has (setN ac) (.string s.data.toList) = true := by rw [has_setN]; simpa using hm
        have HA : Hid (addN ac s = ac) := by unfold Hid addN; rw [if_pos hm]
        clear hm
        go_wp2_with (at_lookup; refine wpList_lookup_own_unit _ rfl _ _ 226 rfl 9 39 lawS Tryz.underlying226 (zeroUnit _) M ac.length _ rfl hmap _ _ rfl hkey ?_)
        go_roundw
        case rel =>
          refine ⟨i + 1, by omega, by go_num, ?_, HGR.out.trans (Grew.of_below (below_alloc (Below.refl _ _) _)) (.inl rfl), HLOC.out⟩
          rw [HT.out, HA.out]
          exact HINR.out.below (below_alloc (Below.refl _ _) _)
        case measure => simp [intOf]; omega
      · have hhas : Maps.has (setN ac) (.string s.data.toList) = false := by rw [has_setN]; simpa using hm
        have HA : Hid (addN ac s = ac ++ [s]) := by unfold Hid addN; rw [if_neg hm]
        have HNEB : Hid (u0.ownBlock = none ∨ u0.ownBlock ≠ some M) := .inr (fun e => by have := hrow.lt M e; omega)
        clear hm
        go_wp2_with (first
          | (at_lookup; refine wpList_lookup_own_unit _ rfl _ _ 226 rfl 9 39 lawS Tryz.underlying226 (zeroUnit _) M ac.length _ rfl hmap _ _ rfl hkey ?_)
          | (at_mapUpdate; refine wpList_mapUpdate_own _ rfl _ _ _ 226 rfl 9 39 lawS Tryz.underlying226 (unitElem (H := Unit)) M ac.length _ rfl (hmap.alloc _) (by unfold maxLen; omega) _ _ _ rfl rfl hkey _ [] unitElem_mk ?_; intro w1 hmap1 hgrow1)
          | (at_builtin; refine wpList_append_own_at _ rfl _ _ 23 rfl (M + 1) 9 i0 (.string ByteArray.empty) 1 16 Tryz.underlying23 gi gz0 gz1 gz2 rfl (by decide) _ _ _ rfl (((hrow.alloc _).kept hgrow1 HNEB.out).alloc _) ⟨w1.heap.size, 0, none⟩ 1 1 [.string s] rfl rfl (cell_one_at w1 _ _) (by intro u hu; simp at hu; subst hu; rfl) (by unfold maxLen; omega) (by omega) (by have := hgrow1.size; simp at this ⊢; omega) ?_; intro v2 w2 hown2 hgrow2 _ hloc)
          | go_in)
        have s1 := hgrow1.size
        have s2 := hgrow2.size
        simp at s1 s2
        have HR : Hid (NIn w2 M v2 (ac ++ [s]) ∧ Grew M v.ownBlock w w2 ∧ (v2.ownBlock = v.ownBlock ∨ ∀ k, v2.ownBlock = some k → w.heap.size ≤ k)) := by
          have g0 : Grew M u0.ownBlock wr w2 := by
            have a1 : Grew M u0.ownBlock wr (wr.alloc (.cells #[] 39)) := Grew.of_below (below_alloc (Below.refl _ _) _)
            have a2 : Grew M u0.ownBlock (wr.alloc (.cells #[] 39)) w1 := Grew.of_map hgrow1
            have a3 : Grew M u0.ownBlock w1 (w1.alloc (.cells #[.string s] 9)) := Grew.of_below (below_alloc (Below.refl _ _) _)
            exact ((a1.trans a2 (.inl rfl)).trans a3 (.inl rfl)).trans (Grew.of_grown hgrow2) (.inl rfl)
          refine ⟨⟨?_, ?_, by omega⟩, HGR.out.trans g0 HLOC.out, ?_⟩
          · simpa [strCells] using hown2
          · rw [setN_snoc]
            have := (hmap1.alloc (.cells #[.string s] 9)).kept hgrow2 (fun e => by have := hrow.lt M e.symm; omega)
            simpa using this
          · rcases hloc with h | h
            · rw [h]; exact HLOC.out
            · refine .inr (fun k hk => ?_)
              rw [h] at hk
              injection hk with hk
              simp at hk
              have := HGR.out.size
              omega
        clear hown2 hgrow2 hloc hmap1 hgrow1 hmap hrow
        go_wp2_with fail
        go_roundw
        case rel => exact ⟨i + 1, by omega, by go_num, by rw [HT.out, HA.out]; exact HR.out.1, HR.out.2.1, HR.out.2.2⟩
        case measure => simp [intOf]; omega
    · have hle : i = more.length := by omega
      subst hle
      have HE : Hid (NIn wr M u0 (addAll acc more)) := by have h := HINR.out; rw [List.take_length] at h; exact h
      clear HINR hinr
      go_wp2_with fail
      go_ret
      exact ⟨_, rfl, HE.out, HGR.out, HLOC.out⟩

/-- Whether one is there twice. -/
def twice (l : List ByteArray) : Bool := decide ((addAll [] l).length < l.length)

set_option maxHeartbeats 1000000 in
set_option maxRecDepth 100000 in
theorem anyTwice_any (l : List ByteArray) (hok : ∀ s ∈ l, s.size ≤ 2147483648) (hl : l.length ≤ 1000000) (ao : Option Addr) (cap : Nat) (w : World) (hm : HasTxt w ao l) (hao : ∀ g, ao = some ⟨g, 0, none⟩ → g < w.heap.size) :
    Calls Tryz.prog 89 #[.slice ao l.length cap] w fun e w' => e = .returned (.bool (twice l)) ∧ Below w.heap.size w w' := by
  have hmm := @run_makeMap Tryz.prog
  have hal := addAll_length l []
  simp only [List.length_nil, Nat.zero_add] at hal
  have HM := hidIn hm
  have HAO := hidIn hao
  have HOK := hidIn hok
  clear hm hao hok
  have HC := hidIn (addNew_any l HOK.out w.heap.size (.slice none 0 0) [] (w.alloc (.map #[] 0)) ⟨World.ownsRow_nil _ _ _ _, World.ownsMap_made _ _ _ _, by simp⟩ (by simpa using hl) ao cap (HM.out.below (below_alloc (Below.refl _ _) _)) (fun g e => ⟨by have := HAO.out g e; omega, by simp [Value.ownBlock]⟩))
  go_enter Tryz.func89, Tryz.ntmps89
  go_wp2_with fail
  refine HC.out.mono ?_
  rintro e w2 ⟨v2, rfl, hin2, hg2, hloc2⟩
  have hb2 : Below w.heap.size w w2 := by
    have h1 : Below w.heap.size w (w.alloc (.map #[] 0)) := below_alloc (Below.refl _ _) _
    exact h1.trans (hg2.below (by simp) (Nat.le_refl _) (fun k hk => by cases hk))
  obtain ⟨ao2, cap2, rfl⟩ := own_shape hin2.1
  have HB2 := hidIn hb2
  by_cases hlt : (addAll [] l).length < l.length
  · have HT : Hid (twice l = true) := decide_eq_true hlt
    have hlt' : ((addAll [] l).length : Int) < (l.length : Int) := by omega
    clear hin2 hg2 hloc2 HC hb2
    generalize addAll [] l = X at *
    go_wp2_with fail
    go_ret
    exact ⟨by rw [HT.out]; rfl, HB2.out⟩
  · have HT : Hid (twice l = false) := decide_eq_false hlt
    have hlt' : ¬ ((addAll [] l).length : Int) < (l.length : Int) := by omega
    clear hin2 hg2 hloc2 HC hb2
    generalize addAll [] l = X at *
    go_wp2_with fail
    go_ret
    exact ⟨by rw [HT.out]; rfl, HB2.out⟩

/-- What Check answers. -/
def chkC (c : C) : Int := if formC c = true then (if 60 < c.nodes ∨ 12 < c.depth then 5 else if twice c.labels = true then 4 else 0) else 2
theorem weight_nodes (c : C) : c.nodes ≤ c.weight := by
  induction c <;> simp [C.nodes, C.weight] <;> omega

set_option maxHeartbeats 1000000 in
set_option maxRecDepth 100000 in
theorem checkT_any (c : C) (hok : c.Ok) (hsz : c.weight ≤ 1000000) (w : World) : Calls Tryz.prog 51 #[c.val] w fun e w' => e = .returned (.int .i64 (chkC c)) ∧ Below w.heap.size w w' := by
  have hwn := weight_nodes c
  have HOK := hidIn hok
  have HSZ := hidIn hsz
  have HLO := hidIn (labels_ok c hok)
  have hlw := labels_weight c
  go_enter Tryz.func51, Tryz.ntmps51
  go_wp2_with fail
  refine (formedT_any c hok hsz w).mono ?_
  rintro e w1 ⟨rfl, hb1⟩
  have hd := cdepth_nodes c
  cases hf : formC c
  · go_wp2_with fail
    go_ret
    exact ⟨by unfold chkC; rw [if_neg (by rw [hf]; simp)]; rfl, hb1⟩
  · go_wp2_with fail
    refine (sizeT_any c hok (by omega) w1).mono ?_
    rintro e w2 ⟨rfl, hb2⟩
    have HC : Hid (chkC c = if 60 < c.nodes ∨ 12 < c.depth then 5 else if twice c.labels = true then 4 else 0) := by unfold Hid chkC; rw [if_pos hf]
    have HB2 := hidIn (hb1.trans (hb2.mono hb1.size))
    clear hb1 hb2
    by_cases h1 : 60 < c.nodes
    · have h1' : (60 : Int) < (c.nodes : Int) := by omega
      go_wp2_with fail
      go_ret
      exact ⟨by rw [HC.out, if_pos (.inl h1)]; rfl, HB2.out⟩
    · have h1' : ¬ (60 : Int) < (c.nodes : Int) := by omega
      have h1d : decide ((60 : Int) < (c.nodes : Int)) = false := by simpa using h1'
      by_cases h2 : 12 < c.depth
      · have h2' : (12 : Int) < (c.depth : Int) := by omega
        go_wp2_with fail
        go_ret
        exact ⟨by rw [HC.out, if_pos (.inr h2)]; rfl, HB2.out⟩
      · have h2' : ¬ (12 : Int) < (c.depth : Int) := by omega
        have HC2 : Hid (chkC c = if twice c.labels = true then 4 else 0) := by unfold Hid; rw [HC.out, if_neg (by omega)]
        go_wp2_with fail
        refine (labelsT_any c HOK.out HSZ.out w2).mono ?_
        rintro e w3 ⟨v3, rfl, hrow3, hb3⟩
        have hlt3 := hrow3.lt
        obtain ⟨ao, cap, rfl, htx, _, hob⟩ := own_txt hrow3
        have HTX := hidIn htx
        have HAO : Hid (∀ g, ao = some ⟨g, 0, none⟩ → g < w3.heap.size) := fun g e => (hlt3 g (hob g e)).2
        have HB3 := hidIn (HB2.out.trans (hb3.mono HB2.out.size))
        clear hrow3 hlt3 htx hob hb3
        go_wp2_with fail
        refine (anyTwice_any c.labels HLO.out (by omega) ao cap w3 HTX.out HAO.out).mono ?_
        rintro e w4 ⟨rfl, hb4⟩
        have HB4 := hidIn (HB3.out.trans (hb4.mono HB3.out.size))
        clear hb4
        cases ht : twice c.labels
        · go_wp2_with fail
          go_ret
          exact ⟨by rw [HC2.out, ht]; rfl, HB4.out⟩
        · go_wp2_with fail
          go_ret
          exact ⟨by rw [HC2.out, ht]; rfl, HB4.out⟩

theorem chkC_nil : chkC (.odd .nilIface) = 2 := rfl
end Go.Proofs.YtkioolbjmcpjpaaGreatDoor
namespace Go.Proofs.YtkioolbjmcpjpaaGreatDoor
open Go.RowKit
set_option linter.unusedVariables false

theorem withinT_any (s : ByteArray) (hs : s.size ≤ 140737488351232) (w : World) :
    Calls Tryz.prog 52 #[.string s] w fun e w' => e = .returned (.tuple #[.string (if 1000 < s.size then ⟨#[]⟩ else s), .int .i64 (if 1000 < s.size then 5 else 0)]) ∧ w' = w := by
  by_cases h : 1000 < s.size
  · have h' : (1000 : Int) < (s.size : Int) := by omega
    rw [if_pos h, if_pos h]
    go_enter Tryz.func52, Tryz.ntmps52
    go_wp2
    go_ret2
    exact ⟨rfl, rfl⟩
  · have h' : ¬ (1000 : Int) < (s.size : Int) := by omega
    rw [if_neg h, if_neg h]
    go_enter Tryz.func52, Tryz.ntmps52
    go_wp2
    go_ret2
    exact ⟨rfl, rfl⟩
theorem formB_neat (o : O) (k : o.Ok) (h : formB o = true) : o.neat 2147483648 := by
  induction o with
  | const n => exact k
  | fix s => exact k
  | add l r h1 h2 => simp only [formB, Bool.and_eq_true] at h; exact ⟨h1 k.1 h.1, h2 k.2 h.2⟩
  | mul l r h1 h2 => simp only [formB, Bool.and_eq_true] at h; exact ⟨h1 k.1 h.1, h2 k.2 h.2⟩
  | max l r h1 h2 => simp only [formB, Bool.and_eq_true] at h; exact ⟨h1 k.1 h.1, h2 k.2 h.2⟩
  | neg o h1 => exact h1 k h
  | odd v => cases h
theorem formC_neat (c : C) (k : c.Ok) (h : formC c = true) : c.neat 2147483648 := by
  induction c with
  | zero => trivial
  | one s => exact k
  | give c h1 => exact h1 k h
  | and l r h1 h2 => simp only [formC, Bool.and_eq_true] at h; exact ⟨h1 k.1 h.1, h2 k.2 h.2⟩
  | or s l r h1 h2 => simp only [formC, Bool.and_eq_true] at h; exact ⟨k.1, h1 k.2.1 h.1.2, h2 k.2.2 h.2⟩
  | scale o c h1 => simp only [formC, Bool.and_eq_true] at h; exact ⟨formB_neat o k.1 h.1, h1 k.2 h.2⟩
  | when d c h1 => simp only [formC, Bool.and_eq_true] at h; exact ⟨k.1, h1 k.2 h.2⟩
  | iff o l r h1 h2 => simp only [formC, Bool.and_eq_true] at h; exact ⟨formB_neat o k.1 h.1.1, h1 k.2.1 h.1.2, h2 k.2.2 h.2⟩
  | odd v => cases h
/-- What write.Obs answers: the text, and the error. -/
def wText (o : O) : ByteArray := if chk o = 0 then (if 1000 < (textO o).size then ⟨#[]⟩ else textO o) else ⟨#[]⟩
def wErr (o : O) : Int := if chk o = 0 then (if 1000 < (textO o).size then 5 else 0) else chk o
def wTextC (c : C) : ByteArray := if chkC c = 0 then (if 1000 < (textC c).size then ⟨#[]⟩ else textC c) else ⟨#[]⟩
def wErrC (c : C) : Int := if chkC c = 0 then (if 1000 < (textC c).size then 5 else 0) else chkC c
theorem chk_zero {o : O} (h : chk o = 0) : formB o = true ∧ o.nodes ≤ 60 ∧ o.depth ≤ 12 := by
  unfold chk at h
  split at h
  · rename_i hf
    split at h
    · cases h
    · exact ⟨hf, by omega, by omega⟩
  · cases h
theorem chkC_zero {c : C} (h : chkC c = 0) : formC c = true ∧ c.nodes ≤ 60 ∧ c.depth ≤ 12 ∧ twice c.labels = false := by
  unfold chkC at h
  split at h
  · rename_i hf
    split at h
    · cases h
    · split at h
      · cases h
      · rename_i ht
        exact ⟨hf, by omega, by omega, by simpa using ht⟩
  · cases h
set_option maxHeartbeats 1000000 in
set_option maxRecDepth 100000 in
theorem writeC_any (c : C) (hok : c.Ok) (hsz : c.weight ≤ 1000000) (w : World) (ht : TabW w) : Calls Tryz.prog 20 #[c.val] w fun e w' => e = .returned (.tuple #[.string (wTextC c), .int .i64 (wErrC c)]) ∧ Below w.heap.size w w' := by
  have HW : Hid (chkC c = 0 → WritesC c ∧ (textC c).size ≤ 70368744177664) := fun h => by
    have hz := chkC_zero h
    have hn := formC_neat c hok hz.1
    exact ⟨termText_any _ c hok hn (by omega), Nat.le_trans (textC_size _ c hn) (by omega)⟩
  have HT := hidIn ht
  have HR : Hid (wTextC c = if chkC c = 0 then (if 1000 < (textC c).size then ⟨#[]⟩ else textC c) else ⟨#[]⟩) := rfl
  have HE : Hid (wErrC c = if chkC c = 0 then (if 1000 < (textC c).size then 5 else 0) else chkC c) := rfl
  have HK := hidIn (checkT_any c hok hsz)
  generalize wTextC c = rt at *
  generalize wErrC c = re at *
  clear hok hsz ht
  go_enter Tryz.func20, Tryz.ntmps20
  go_wp2_with fail
  refine (HK.out w).mono ?_
  rintro e w1 ⟨rfl, hb1⟩
  have HB1 := hidIn hb1
  clear hb1
  by_cases h0 : chkC c = 0
  · obtain ⟨hw, hs⟩ := HW.out h0
    have HW1 := hidIn hw
    clear hw
    rw [h0]
    go_wp2_with fail
    refine (HW1.out w1 (tabW_below HT.out HB1.out)).mono ?_
    rintro e w2 ⟨rfl, hb2⟩
    have HB2 := hidIn (HB1.out.trans (hb2.mono HB1.out.size))
    clear hb2
    go_wp2_with fail
    refine calls_same (withinT_any (textC c) (by omega) _) ?_
    have H1 := HR.out
    have H2 := HE.out
    rw [if_pos h0] at H1 H2
    rw [← H1, ← H2]
    clear H1 H2
    go_wp2_with fail
    go_ret2
    exact ⟨rfl, HB2.out⟩
  · obtain ⟨n, hn⟩ : ∃ n, chkC c = n := ⟨_, rfl⟩
    have H1 := HR.out
    have H2 := HE.out
    rw [if_neg h0] at H1 H2
    rw [hn] at h0 H2
    rw [hn]
    go_wp2_with fail
    go_ret2
    exact ⟨by rw [H1, H2]; rfl, HB1.out⟩

end Go.Proofs.YtkioolbjmcpjpaaGreatDoor
namespace Go.Proofs.YtkioolbjmcpjpaaGreatDoor.Ev
open Go.RowKit
set_option linter.unusedVariables false

/-- What event.Check answers. -/
def chkE (e : Ev) : Int := if formE e = true then (if e.k = 2 then wErrC e.t else 0) else 1

set_option maxHeartbeats 2000000 in
set_option maxRecDepth 100000 in
theorem check_any (e : Ev) (hok : e.Ok) (w : World) (htab : TabW w) : Calls Tryz.prog 13 #[e.val] w fun r w' => r = .returned (.int .i64 (chkE e)) ∧ Below w.heap.size w w' := by
  have HF := hidIn (fun w => formed_any e hok w)
  have HC := hidIn (fun w ht => writeC_any e.t hok.t hok.w w ht)
  have HT := hidIn htab
  have HR : Hid (chkE e = if formE e = true then (if e.k = 2 then wErrC e.t else 0) else 1) := rfl
  have one := e.t.one' hok.t
  clear hok htab
  generalize chkE e = res at *
  generalize formE e = fe at *
  obtain ⟨k, i, n, l, u, d, v, t⟩ := e
  unfold Ev.val Ev.cs at *
  simp only at *
  generalize t.val = tv at *
  go_enter Tryz.func13, Tryz.ntmps13
  go_wp2_with fail
  have HBV : Hid (Below w.heap.size w (w.alloc (.cells #[.int .i64 k, .string i, .string n, .string l, .string u, .int .i64 d, .int .i64 v, tv] 30))) := below_alloc (Below.refl _ _) _
  have HX := hidIn (heap_alloc_new w (.cells #[.int .i64 k, .string i, .string n, .string l, .string u, .int .i64 d, .int .i64 v, tv] 30))
  generalize w.alloc (.cells #[.int .i64 k, .string i, .string n, .string l, .string u, .int .i64 d, .int .i64 v, tv] 30) = V at *
  refine (HF.out V).mono ?_
  rintro e w1 ⟨rfl, hb⟩
  have HB1 := hidIn (HBV.out.trans (hb.mono HBV.out.size))
  have hx := (hb.block _ (Array.getElem?_eq_some_iff.1 HX.out).1).trans HX.out
  have c0 : w1.cell? ⟨w.heap.size, 0, none⟩ = some (.int .i64 k) := cell_of_row _ _ 0 _ _ _ hx
  have c7 : w1.cell? ⟨w.heap.size, 7, none⟩ = some tv := cell_of_row _ _ 7 _ _ _ hx
  clear hb hx
  cases fe
  · rw [if_neg (by simp)] at HR
    go_wp2_with fail
    go_ret
    exact ⟨by rw [HR.out]; rfl, HB1.out⟩
  · rw [if_pos rfl] at HR
    by_cases hk : k = 2
    · subst hk
      rw [if_pos rfl] at HR
      go_wp2_with fail
      refine (HC.out w1 (tabW_below HT.out HB1.out)).mono ?_
      rintro e w2 ⟨rfl, hb2⟩
      have HB2 := hidIn (HB1.out.trans (hb2.mono HB1.out.size))
      clear hb2
      generalize wErrC t = we at *
      generalize wTextC t = wt at *
      go_wp2_with fail
      go_ret
      exact ⟨by rw [HR.out]; rfl, HB2.out⟩
    · rw [if_neg hk] at HR
      have e2 : (k != 2) = true := by simpa using hk
      clear hk
      go_wp2_with fail
      go_ret
      exact ⟨by rw [HR.out]; rfl, HB1.out⟩

end Go.Proofs.YtkioolbjmcpjpaaGreatDoor.Ev
namespace Go.Proofs.YtkioolbjmcpjpaaGreatDoor.Ev
open Go.RowKit
set_option linter.unusedVariables false

theorem nil_runs (t : C) (h : t.Ok) : ∃ b, nilB t = b ∧ ((b = true ∧ t.val = .nilIface) ∨ (b = false ∧ ∃ x y, t.val = .iface x y)) := by
  cases t with
  | odd v =>
    rcases h with rfl | ⟨x, y, rfl, _⟩
    · exact ⟨true, rfl, .inl ⟨rfl, rfl⟩⟩
    · exact ⟨false, rfl, .inr ⟨rfl, _, _, rfl⟩⟩
  | _ => exact ⟨false, rfl, .inr ⟨rfl, _, _, rfl⟩⟩
/-- What event.sameTerm answers. -/
def sameTm (a b : C) : Bool := nilB a && nilB b || sameC a b

set_option maxHeartbeats 2000000 in
set_option maxRecDepth 100000 in
theorem sameTerm_any (a b : C) (ha : a.Ok) (hb : b.Ok) (w : World) : Calls Tryz.prog 41 #[a.val, b.val] w fun r w' => r = .returned (.bool (sameTm a b)) ∧ Below w.heap.size w w' := by
  have HS := hidIn (fun w => sameT_any a ha b hb w)
  have HR : Hid (sameTm a b = (nilB a && nilB b || sameC a b)) := rfl
  obtain ⟨na, hna, hva⟩ := nil_runs a ha
  obtain ⟨nb, hnb, hvb⟩ := nil_runs b hb
  rw [hna, hnb] at HR
  clear hna hnb ha hb
  generalize sameTm a b = res at *
  generalize sameC a b = sc at *
  rcases hva with ⟨rfl, hva⟩ | ⟨rfl, xa, ya, hva⟩ <;> rcases hvb with ⟨rfl, hvb⟩ | ⟨rfl, xb, yb, hvb⟩
  all_goals
    rw [hva, hvb] at HS
    rw [hva, hvb]
    clear hva hvb
    go_enter Tryz.func41, Tryz.ntmps41
    go_wp2_with fail
    try (refine (HS.out _).mono ?_; rintro e w1 ⟨rfl, hb⟩; have HB := hidIn hb; clear hb; go_wp2_with fail)
    go_ret
    first
      | exact ⟨by rw [HR.out]; rfl, HB.out⟩
      | exact ⟨by rw [HR.out]; rfl, Below.refl _ _⟩

theorem eq_nils (d : Nat) (W : World) : Sem.run Tryz.prog (Op.equalIn (d + 1) 28 .nilIface .nilIface) W = .ok true W := by
  simp only [Op.equalIn, Sem.run_bind, run_underlying Tryz.underlying28, Result.andThen_ok]
  rfl
/-- Whether two events are alike. -/
def sameE (a b : Ev) : Bool := (a.k == b.k) && (a.i.toList == b.i.toList) && (a.n.toList == b.n.toList) && (a.l.toList == b.l.toList) && (a.u.toList == b.u.toList) && (a.d == b.d) && (a.v == b.v) && sameTm a.t b.t

set_option maxHeartbeats 2000000 in
set_option maxRecDepth 100000 in
theorem same_any (a b : Ev) (ha : a.Ok) (hb : b.Ok) (w : World) : Calls Tryz.prog 10 #[a.val, b.val] w fun r w' => r = .returned (.bool (sameE a b)) ∧ Below w.heap.size w w' := by
  have HS := hidIn (fun w => sameTerm_any a.t b.t ha.t hb.t w)
  have HR : Hid (sameE a b = ((a.k == b.k) && (a.i.toList == b.i.toList) && (a.n.toList == b.n.toList) && (a.l.toList == b.l.toList) && (a.u.toList == b.u.toList) && (a.d == b.d) && (a.v == b.v) && sameTm a.t b.t)) := rfl
  have onea := a.t.one' ha.t
  have oneb := b.t.one' hb.t
  clear ha hb
  generalize sameE a b = res at *
  generalize sameTm a.t b.t = st at *
  obtain ⟨k, i, n, l, u, d, v, t⟩ := a
  obtain ⟨k', i', n', l', u', d', v', t'⟩ := b
  unfold Ev.val Ev.cs
  simp only at *
  generalize t.val = ta at *
  generalize t'.val = tb at *
  clear t t'
  go_enter Tryz.func10, Tryz.ntmps10
  go_wp2_with fail
  have hx0 : ((w.alloc (.cells #[.int .i64 k, .string i, .string n, .string l, .string u, .int .i64 d, .int .i64 v, ta] 30)).alloc (.cells #[.int .i64 k', .string i', .string n', .string l', .string u', .int .i64 d', .int .i64 v', tb] 30)).heap[w.heap.size]? = some (.cells #[.int .i64 k, .string i, .string n, .string l, .string u, .int .i64 d, .int .i64 v, ta] 30) := heap_keeps (heap_alloc_new _ _) _
  have hx1 : ((w.alloc (.cells #[.int .i64 k, .string i, .string n, .string l, .string u, .int .i64 d, .int .i64 v, ta] 30)).alloc (.cells #[.int .i64 k', .string i', .string n', .string l', .string u', .int .i64 d', .int .i64 v', tb] 30)).heap[w.heap.size + 1]? = some (.cells #[.int .i64 k', .string i', .string n', .string l', .string u', .int .i64 d', .int .i64 v', tb] 30) := by
    have h := heap_alloc_new (w.alloc (.cells #[.int .i64 k, .string i, .string n, .string l, .string u, .int .i64 d, .int .i64 v, ta] 30)) (.cells #[.int .i64 k', .string i', .string n', .string l', .string u', .int .i64 d', .int .i64 v', tb] 30)
    rwa [show (w.alloc (.cells #[.int .i64 k, .string i, .string n, .string l, .string u, .int .i64 d, .int .i64 v, ta] 30)).heap.size = w.heap.size + 1 by simp] at h
  have HBV : Hid (Below w.heap.size w ((w.alloc (.cells #[.int .i64 k, .string i, .string n, .string l, .string u, .int .i64 d, .int .i64 v, ta] 30)).alloc (.cells #[.int .i64 k', .string i', .string n', .string l', .string u', .int .i64 d', .int .i64 v', tb] 30))) := below_alloc (below_alloc (Below.refl _ _) _) _
  have HX0 := hidIn hx0
  have HX1 := hidIn hx1
  clear hx0 hx1
  generalize (w.alloc (.cells #[.int .i64 k, .string i, .string n, .string l, .string u, .int .i64 d, .int .i64 v, ta] 30)).alloc (.cells #[.int .i64 k', .string i', .string n', .string l', .string u', .int .i64 d', .int .i64 v', tb] 30) = V at *
  have HF : Hid (∀ w', Below V.heap.size V w' → w'.cell? ⟨w.heap.size, 7, none⟩ = some ta ∧ w'.cell? ⟨w.heap.size + 1, 7, none⟩ = some tb) := fun w' hw' => by
    have h0 := (hw'.block _ (Array.getElem?_eq_some_iff.1 HX0.out).1).trans HX0.out
    have h1 := (hw'.block _ (Array.getElem?_eq_some_iff.1 HX1.out).1).trans HX1.out
    exact ⟨cell_of_row _ _ 7 _ _ _ h0, cell_of_row _ _ 7 _ _ _ h1⟩
  refine wp_region_class (fun w' => Below V.heap.size V w') (by kernel_rfl) (by kernel_rfl) (below_drew (Below.refl _ _)) ?_
  generalize hops : (#[_, _, _, _, _, _] : Array Oper) = ops
  clear hops
  refine quiet_runs (.pointer (some ⟨w.heap.size, 7, none⟩)) (wanted_none rfl) (fun w' hw' => ?_) ?_
  · go_simp
  simp only [Act.put, List.setIfInBounds_toArray, List.set_cons_zero, List.set_cons_succ]
  refine quiet_runs (ta) (wanted_none rfl) (fun w' hw' => ?_) ?_
  · have q0 := (HF.out w' hw').1
    go_simp
  simp only [Act.put, List.setIfInBounds_toArray, List.set_cons_zero, List.set_cons_succ]
  refine quiet_runs (.pointer (some ⟨w.heap.size + 1, 7, none⟩)) (wanted_none rfl) (fun w' hw' => ?_) ?_
  · go_simp
  simp only [Act.put, List.setIfInBounds_toArray, List.set_cons_zero, List.set_cons_succ]
  refine quiet_runs (tb) (wanted_none rfl) (fun w' hw' => ?_) ?_
  · have q0 := (HF.out w' hw').2
    go_simp
  simp only [Act.put, List.setIfInBounds_toArray, List.set_cons_zero, List.set_cons_succ]
  refine quiet_runs (ta) (wanted_none rfl) (fun w' hw' => ?_) ?_
  · go_simp
  simp only [Act.put, List.setIfInBounds_toArray, List.set_cons_zero, List.set_cons_succ]
  refine quiet_runs (tb) (wanted_none rfl) (fun w' hw' => ?_) ?_
  · go_simp
  simp only [Act.put, List.setIfInBounds_toArray, List.set_cons_zero, List.set_cons_succ]
  refine wpQuiet_nil ?_
  intro w9 hw9
  have hx0 := (hw9.block _ (Array.getElem?_eq_some_iff.1 HX0.out).1).trans HX0.out
  have hx1 := (hw9.block _ (Array.getElem?_eq_some_iff.1 HX1.out).1).trans HX1.out
  have f0 : w9.frozen? ⟨w.heap.size, 7, none⟩ = false := frozen_of_row _ _ _ _ _ hx0
  have f1 : w9.frozen? ⟨w.heap.size + 1, 7, none⟩ = false := frozen_of_row _ _ _ _ _ hx1
  have e0 : w9.cell? ⟨w.heap.size, 7, none⟩ = some ta := cell_of_row _ _ 7 _ _ _ hx0
  have e1 : w9.cell? ⟨w.heap.size + 1, 7, none⟩ = some tb := cell_of_row _ _ 7 _ _ _ hx1
  have HW := hidIn hw9
  clear hw9
  go_upto_region 3 with fail
  have hy0 : ((w9.setCell ⟨w.heap.size, 7, none⟩ .nilIface).setCell ⟨w.heap.size + 1, 7, none⟩ .nilIface).heap[w.heap.size]? = some (.cells #[.int .i64 k, .string i, .string n, .string l, .string u, .int .i64 d, .int .i64 v, .nilIface] 30) := (heap_setCell_other _ ⟨w.heap.size + 1, 7, none⟩ w.heap.size _ (by show w.heap.size ≠ w.heap.size + 1; omega)).trans (heap_setCell_same _ w.heap.size 7 _ _ _ hx0)
  have hy1 : ((w9.setCell ⟨w.heap.size, 7, none⟩ .nilIface).setCell ⟨w.heap.size + 1, 7, none⟩ .nilIface).heap[w.heap.size + 1]? = some (.cells #[.int .i64 k', .string i', .string n', .string l', .string u', .int .i64 d', .int .i64 v', .nilIface] 30) := heap_setCell_same _ (w.heap.size + 1) 7 _ _ _ ((heap_setCell_other _ ⟨w.heap.size, 7, none⟩ (w.heap.size + 1) _ (by show w.heap.size + 1 ≠ w.heap.size; omega)).trans hx1)
  have HB := hidIn (((HBV.out.trans (HW.out.mono HBV.out.size)).setCell (show w.heap.size ≤ (⟨w.heap.size, 7, none⟩ : Addr).block from Nat.le_refl _) .nilIface).setCell (show w.heap.size ≤ (⟨w.heap.size + 1, 7, none⟩ : Addr).block from Nat.le_succ _) .nilIface)
  clear f0 f1 e0 e1 hx0 hx1
  generalize (w9.setCell ⟨w.heap.size, 7, none⟩ .nilIface).setCell ⟨w.heap.size + 1, 7, none⟩ .nilIface = U at *
  have x0 := cell_of_row _ _ 0 _ _ _ hy0
  have y0 := cell_of_row _ _ 0 _ _ _ hy1
  have x1 := cell_of_row _ _ 1 _ _ _ hy0
  have y1 := cell_of_row _ _ 1 _ _ _ hy1
  have x2 := cell_of_row _ _ 2 _ _ _ hy0
  have y2 := cell_of_row _ _ 2 _ _ _ hy1
  have x3 := cell_of_row _ _ 3 _ _ _ hy0
  have y3 := cell_of_row _ _ 3 _ _ _ hy1
  have x4 := cell_of_row _ _ 4 _ _ _ hy0
  have y4 := cell_of_row _ _ 4 _ _ _ hy1
  have x5 := cell_of_row _ _ 5 _ _ _ hy0
  have y5 := cell_of_row _ _ 5 _ _ _ hy1
  have x6 := cell_of_row _ _ 6 _ _ _ hy0
  have y6 := cell_of_row _ _ 6 _ _ _ hy1
  have x7 := cell_of_row _ _ 7 _ _ _ hy0
  have y7 := cell_of_row _ _ 7 _ _ _ hy1
  clear hy0 hy1
  have hnn : ∀ W, Sem.run Tryz.prog (Op.equalIn 9999 28 .nilIface .nilIface) W = .ok true W := eq_nils 9998
  go_wp2_with fail
  all_goals
    try (refine (HS.out _).mono ?_; rintro e w1 ⟨rfl, hb⟩; have HB2 := hidIn (HB.out.trans (hb.mono HB.out.size)); clear hb; go_wp2_with fail)
    go_ret
    first
      | exact ⟨by rw [HR.out]; simp [*], HB2.out⟩
      | exact ⟨by rw [HR.out]; simp [*], HB.out⟩

end Go.Proofs.YtkioolbjmcpjpaaGreatDoor.Ev
namespace Go.Proofs.YtkioolbjmcpjpaaGreatDoor.Ev
open Go.RowKit
set_option linter.unusedVariables false

def none' : C := .odd .nilIface
theorem none_ok : none'.Ok := .inl rfl
def pass0 : Ev := ⟨1, ⟨#[]⟩, ⟨#[]⟩, ⟨#[]⟩, ⟨#[]⟩, 0, 0, none'⟩
def ev0 : Ev := ⟨0, ⟨#[]⟩, ⟨#[]⟩, ⟨#[]⟩, ⟨#[]⟩, 0, 0, none'⟩
theorem small_size : (⟨#[]⟩ : ByteArray).size ≤ maxLen := by decide
theorem pass0_ok : pass0.Ok := by
  constructor <;> first | exact none_ok | exact small_size | (show (1 : Nat) ≤ 1000000; omega) | (unfold pass0; simp only; omega)
theorem ev0_ok : ev0.Ok := by
  constructor <;> first | exact none_ok | exact small_size | (show (1 : Nat) ≤ 1000000; omega) | (unfold ev0; simp only; omega)
theorem pass0_chk : chkE pass0 = 0 := by decide +kernel
theorem ev0_chk : chkE ev0 = 1 := by decide +kernel

set_option maxHeartbeats 1000000 in
theorem wakes11_any (w : World) (htab : TabW w) : Calls Tryz.prog 11 #[] w fun e w' => e = .returned (.bool true) ∧ Below w.heap.size w w' := by
  have H1 : Hid (∀ W, TabW W → Calls Tryz.prog 13 #[.agg #[.int .i64 1, .string ⟨#[]⟩, .string ⟨#[]⟩, .string ⟨#[]⟩, .string ⟨#[]⟩, .int .i64 0, .int .i64 0, .nilIface]] W fun r w' => r = .returned (.int .i64 0) ∧ Below W.heap.size W w') := fun W hW => by
    have := check_any pass0 pass0_ok W hW
    rw [pass0_chk] at this
    exact this
  have H2 : Hid (∀ W, TabW W → Calls Tryz.prog 13 #[.agg #[.int .i64 0, .string ⟨#[]⟩, .string ⟨#[]⟩, .string ⟨#[]⟩, .string ⟨#[]⟩, .int .i64 0, .int .i64 0, .nilIface]] W fun r w' => r = .returned (.int .i64 1) ∧ Below W.heap.size W w') := fun W hW => by
    have := check_any ev0 ev0_ok W hW
    rw [ev0_chk] at this
    exact this
  have HT := hidIn htab
  clear htab
  go_enter Tryz.func11, Tryz.ntmps11
  go_wp2_with fail
  refine (H1.out w HT.out).mono ?_
  rintro e w1 ⟨rfl, hb1⟩
  have HB1 := hidIn hb1
  clear hb1
  go_wp2_with fail
  refine (H2.out w1 (tabW_below HT.out HB1.out)).mono ?_
  rintro e w2 ⟨rfl, hb2⟩
  have HB2 := hidIn (HB1.out.trans (hb2.mono HB1.out.size))
  clear hb2
  go_wp2_with fail
  go_ret
  exact ⟨rfl, HB2.out⟩

/-- A trade. -/
def trade (id : ByteArray) (c : C) : Ev := ⟨2, id, ⟨#[]⟩, ⟨#[]⟩, ⟨#[]⟩, 0, 0, c⟩
theorem trade_ok (id : ByteArray) (c : C) (hi : id.size ≤ maxLen) (hc : c.Ok) (hw : c.weight ≤ 1000000) : (trade id c).Ok := by
  constructor <;> first | exact hc | exact hi | exact hw | exact small_size | (unfold trade; simp only; omega)
theorem trade_form (id : ByteArray) (c : C) : formE (trade id c) = nameGo 0 (runesOf id) := by
  have h1 : (!((flds 2).toList == [63])) = true := by decide +kernel
  have h2 : hasB (flds 2) 73 = true := by decide +kernel
  have h3 : hasB (flds 2) 78 = false := by decide +kernel
  have h4 : hasB (flds 2) 76 = false := by decide +kernel
  have h5 : hasB (flds 2) 67 = false := by decide +kernel
  have h6 : hasB (flds 2) 68 = false := by decide +kernel
  have h7 : hasB (flds 2) 86 = false := by decide +kernel
  have h8 : hasB (flds 2) 84 = true := by decide +kernel
  have h9 : (⟨#[]⟩ : ByteArray).toList.isEmpty = true := by decide +kernel
  unfold formE trade
  simp only [h1, h2, h3, h4, h5, h6, h7, h8, fitS, fitI, h9]
  simp
theorem trade_chk (id : ByteArray) (c : C) : chkE (trade id c) = if nameGo 0 (runesOf id) = true then wErrC c else 1 := by
  unfold chkE
  rw [trade_form]
  simp [trade]

end Go.Proofs.YtkioolbjmcpjpaaGreatDoor.Ev
namespace Go.Proofs.YtkioolbjmcpjpaaGreatDoor.Ev
open Go.RowKit
set_option linter.unusedVariables false

/-- n in w bytes, the greatest first. -/
def gfL (n w : Nat) : List UInt8 := (List.range w).map fun i => UInt8.ofNat (n / 256 ^ (w - 1 - i))
/-- Bytes as a number, the greatest first. -/
def numL (l : List UInt8) : Nat := l.foldl (fun n c => n * 256 + c.toNat) 0
/-- A number of 64 bits as one not below 0, and back. -/
def nat64 (v : Int) : Nat := (v % 18446744073709551616).toNat
def int64 (n : Nat) : Int := if n < 9223372036854775808 then n else (n : Int) - 18446744073709551616
theorem nat64_lt (v : Int) : nat64 v < 256 ^ 8 := by unfold nat64; omega
theorem int64_nat64 (v : Int) (h1 : -9223372036854775808 ≤ v) (h2 : v ≤ 9223372036854775807) : int64 (nat64 v) = v := by
  unfold int64 nat64
  split <;> omega
theorem gfL_length (n w : Nat) : (gfL n w).length = w := by simp [gfL]
theorem gfL_succ (n w : Nat) : gfL n (w + 1) = gfL (n / 256) w ++ [UInt8.ofNat n] := by
  unfold gfL
  rw [List.range_succ, List.map_append]
  congr 1
  · apply List.map_congr_left
    intro i hi
    rw [List.mem_range] at hi
    rw [Nat.div_div_eq_div_mul, ← Nat.pow_succ', show w + 1 - 1 - i = (w - 1 - i).succ by omega]
  · simp
theorem numL_snoc (l : List UInt8) (c : UInt8) : numL (l ++ [c]) = numL l * 256 + c.toNat := by simp [numL, List.foldl_append]
theorem numL_gfL (w : Nat) : ∀ n, n < 256 ^ w → numL (gfL n w) = n := by
  induction w with
  | zero => intro n h; simp at h; subst h; rfl
  | succ w ih =>
    intro n h
    have e : UInt8.toNat (UInt8.ofNat n) = n % 256 := by simp
    rw [gfL_succ, numL_snoc, e, ih (n / 256) (by rw [Nat.pow_succ] at h; exact Nat.div_lt_of_lt_mul (by omega))]
    omega
theorem numL_lt (l : List UInt8) : numL l < 256 ^ l.length := by
  have h : ∀ r : List UInt8, numL r.reverse < 256 ^ r.length := by
    intro r
    induction r with
    | nil => simp [numL]
    | cons c r ih =>
      have := c.toNat_lt
      rw [List.reverse_cons, numL_snoc, List.length_cons, Nat.pow_succ]
      omega
  have := h l.reverse
  simpa using this

/-- A text behind its length. -/
def txL (s : ByteArray) (w : Nat) : List UInt8 := gfL s.size w ++ s.data.toList
/-- One field of an event as bytes, by its letter. -/
def fdL (e : Ev) (c : UInt8) : List UInt8 :=
  if c = 73 then txL e.i 1 else if c = 78 then txL e.n 1 else if c = 76 then txL e.l 1 else if c = 67 then txL e.u 1 else if c = 68 then gfL (nat64 e.d) 8 else if c = 86 then gfL (nat64 e.v) 8 else txL (wTextC e.t) 2
/-- A kind's letters in the order of bytes. -/
def ordL (k : Int) : List UInt8 :=
  if k = 1 then [] else if k = 2 then [73, 84] else if k = 3 then [78, 68, 86] else if k = 4 then [73, 76, 86] else if k = 5 then [68] else if k = 6 then [67, 68, 86] else []
def kdL (k : Int) : UInt8 := UInt8.ofNat (nat64 k)
/-- An event as bytes. -/
def pkL (e : Ev) : List UInt8 := kdL e.k :: (ordL e.k).flatMap (fdL e)
/-- What pack.Event answers. -/
def pkB (e : Ev) : ByteArray := if chkE e = 0 then ⟨(pkL e).toArray⟩ else ⟨#[]⟩
def order7 : List UInt8 := [73, 78, 76, 67, 68, 86, 84]
theorem ordL_filter (k : Int) : ordL k = order7.filter (fun c => hasB (flds k) c) := by
  have h : ∀ l : List UInt8, (∀ f : ByteArray, f = ⟨l.toArray⟩ → True) := fun _ _ _ => trivial
  unfold ordL flds
  split
  · decide +kernel
  split
  · decide +kernel
  split
  · decide +kernel
  split
  · decide +kernel
  split
  · decide +kernel
  split
  · decide +kernel
  · decide +kernel

end Go.Proofs.YtkioolbjmcpjpaaGreatDoor.Ev
namespace Go.Proofs.YtkioolbjmcpjpaaGreatDoor.Ev
open Go.RowKit
set_option linter.unusedVariables false

/-- The cells of bytes. -/
def rowB (l : List UInt8) : List Value := l.map fun b => .int .u8 b.toNat
theorem rowB_len (l : List UInt8) : (rowB l).length = l.length := by simp [rowB]
theorem rowB_get (l : List UInt8) (i : Nat) (x : UInt8) (h : l[i]? = some x) : (rowB l)[i]? = some (.int .u8 x.toNat) := by simp [rowB, h]
theorem rowB_app (a b : List UInt8) : rowB (a ++ b) = rowB a ++ rowB b := by simp [rowB]
theorem rowB_one (l : List UInt8) : ∀ u ∈ rowB l, u.oneCell' = true := by
  intro u hu
  obtain ⟨t, _, rfl⟩ := List.mem_map.1 hu
  rfl
theorem rowB_str (s : ByteArray) : Lib.strCells s = rowB s.data.toList := rfl
/-- Bytes of the call's own. -/
def OwnB (w : World) (B : Nat) (v : Value) (l : List UInt8) : Prop := w.ownsRow B 5 1 v l.length (rowB l)
theorem own_lower {w : World} {B B' : Nat} {v : Value} {l : List UInt8} (h : OwnB w B v l) (hB : B' ≤ B) : OwnB w B' v l := by
  refine ⟨h.1, ?_⟩
  rcases h.2 with h2 | ⟨g, cap, cur, h1, h2, h3⟩
  · exact .inl h2
  · exact .inr ⟨g, cap, cur, h1, Nat.le_trans hB h2, h3⟩
theorem own_below {w w' : World} {B : Nat} {v : Value} {l : List UInt8} (h : OwnB w B v l) (hb : Below w.heap.size w w') : OwnB w' B v l :=
  World.ownsRow.kept h (grown_of_below hb none) (by cases hv : v.ownBlock <;> simp)
theorem infoByte : (Tryz.prog.info? 5).map (fun i => (i.zero, i.size, i.bytes)) = some (some (.int .u8 0), 1, 1) := by kernel_rfl
theorem made_rowB (n : Nat) : (madeCells (Value.int .u8 0).cells (n * 1)).toList = rowB (List.replicate n 0) := by
  rw [show (Value.int .u8 0).cells = #[Value.int .u8 0] from rfl, toList_madeCells_one, Nat.mul_one]
  simp [rowB]
theorem gf_set (l : List UInt8) (k i : Nat) (x : UInt8) (hl : l.length = k) (h : l[i]? = some x) : (rowB (l.take i ++ List.replicate (k - i) 0)).set i (.int .u8 x.toNat) = rowB (l.take (i + 1) ++ List.replicate (k - (i + 1)) 0) := by
  have hi : i < l.length := (List.getElem?_eq_some_iff.1 h).1
  obtain ⟨m, hm⟩ : ∃ m, k - i = m + 1 := ⟨k - i - 1, by omega⟩
  rw [hm, show k - (i + 1) = m by omega, List.replicate_succ, rowB_app, rowB_app, List.set_append_right _ _ (by rw [rowB_len, List.length_take]; omega), rowB_len, List.length_take, show i - min i l.length = 0 by omega]
  have ht : l.take (i + 1) = l.take i ++ [x] := by rw [List.take_add_one, h]; rfl
  rw [ht, rowB_app, List.append_assoc]
  rfl
theorem gf_byte (n j : Nat) (x : UInt8) (hx : x = UInt8.ofNat (n / 256 ^ j)) : IntKind.u8.wrap ((n : Int) / 2 ^ (8 * j)) = (x.toNat : Int) := by
  subst hx
  have e : (2 : Int) ^ (8 * j) = ((256 ^ j : Nat) : Int) := by rw [Int.pow_mul]; norm_cast
  rw [e, ← Int.natCast_ediv]
  simp [IntKind.wrap, IntKind.bits, IntKind.signed]

set_option maxHeartbeats 1000000 in
set_option maxRecDepth 100000 in
theorem gf_any (n k : Nat) (w : World) (hn : n < 18446744073709551616) (hk : k ≤ 8) :
    Calls Tryz.prog 54 #[.int .u64 n, .int .i64 k] w fun e w' => ∃ v, e = .returned v ∧ OwnB w' w.heap.size v (gfL n k) ∧ Below w.heap.size w w' := by
  obtain ⟨i1, gi, gz0, gz1, gz2⟩ := info_parts infoByte
  unfold OwnB
  have HL : Hid ((gfL n k).length = k) := gfL_length n k
  have HG : Hid (∀ i j, k = i + 1 + j → (gfL n k)[i]? = some (UInt8.ofNat (n / 256 ^ j))) := fun i j h => by
    unfold gfL
    rw [List.getElem?_map, List.getElem?_range (by omega)]
    simp only [Option.map_some]
    rw [show k - 1 - i = j by omega]
  generalize gfL n k = L at *
  rw [HL.out]
  go_enter Tryz.func54, Tryz.ntmps54
  go_wp2_with (at_make; refine wpList_make_full _ rfl _ _ 55 rfl w.heap.size 5 i1 (.int .u8 0) 1 Tryz.underlying55 gi gz0 gz1 .i64 .i64 _ _ k rfl rfl (by omega) (by omega) (by rw [gz2]; omega) (by unfold maxLen; omega) (Nat.le_refl _) ?_; intro w1 hown hgrow)
  rw [made_rowB] at hown
  have hb1 : Below w.heap.size w w1 := (Below.refl _ _).grown hgrow (Nat.le_refl _) (fun j hj => by cases hj)
  clear hgrow
  go_loopw [11] (fun s11 wr => ∃ i : Nat, i ≤ k ∧ s11 = .int .i64 i ∧ wr.ownsRow w.heap.size 5 1 (.slice (some ⟨w.heap.size, 0, none⟩) k k) k (rowB (L.take i ++ List.replicate (k - i) 0)) ∧ Below w.heap.size w wr) (fun s11 _ => k - (intOf s11).toNat)
  case atStart => exact ⟨0, by omega, rfl, by simpa using hown, hb1⟩
  case round =>
    clear hown hb1
    obtain ⟨i, hi, rfl, hownr, hbr⟩ := hrel
    by_cases hlt : i < k
    · obtain ⟨j, hj⟩ : ∃ j, k = i + 1 + j := ⟨k - i - 1, by omega⟩
      have hx := HG.out i j hj
      have hst := hownr.stored i (.int .u8 (UInt8.ofNat (n / 256 ^ j)).toNat)
      rw [gf_set L k i _ HL.out hx] at hst
      obtain ⟨hst1, hst2⟩ := hst
      have hc := hownr.cellAt i (by omega)
      have hlen : i < (rowB (L.take i ++ List.replicate (k - i) 0)).length := by rw [rowB_len, List.length_append, List.length_take, List.length_replicate, HL.out]; omega
      obtain ⟨y, hy⟩ : ∃ y, (rowB (L.take i ++ List.replicate (k - i) 0))[i]? = some y := ⟨_, List.getElem?_eq_getElem hlen⟩
      rw [hy] at hc
      clear hy
      have hf : wr.frozen? ⟨w.heap.size, i, none⟩ = false := hownr.frozenAt i
      have hat := gf_byte n j _ rfl
      generalize UInt8.ofNat (n / 256 ^ j) = x at *
      have HS := hidIn hst1
      have HB := hidIn (hbr.setCell (show w.heap.size ≤ (⟨w.heap.size, i, none⟩ : Addr).block from Nat.le_refl _) (.int .u8 x.toNat))
      have hlt' : (i : Int) < (k : Int) := by omega
      have e1 : ((k : Int) - 1 - (i : Int)) = (j : Int) := by omega
      have e3 : 8 * j < 64 := by omega
      have HJ := hidIn hj
      clear hst1 hst2 hownr hbr hx hj hlen
      go_wp2_with fail
      go_roundw
      case rel => exact ⟨i + 1, by omega, by go_num, HS.out, HB.out⟩
      case measure => simp [intOf]; omega
    · have hlt' : ¬ (i : Int) < (k : Int) := by omega
      have hik : i = k := by omega
      subst hik
      rw [List.take_of_length_le (by rw [HL.out]; exact Nat.le_refl _), Nat.sub_self, List.replicate_zero, List.append_nil] at hownr
      go_wp2_with fail
      go_ret
      exact ⟨_, rfl, hownr, hbr⟩

theorem wrap64 (n : Int) : IntKind.u64.wrap n = (nat64 n : Int) := by
  unfold nat64
  simp [IntKind.wrap, IntKind.bits, IntKind.signed]
  omega
set_option maxHeartbeats 1000000 in
set_option maxRecDepth 100000 in
theorem number8_any (n : Int) (w : World) : Calls Tryz.prog 22 #[.int .i64 n] w fun e w' => ∃ v, e = .returned v ∧ OwnB w' w.heap.size v (gfL (nat64 n) 8) ∧ Below w.heap.size w w' := by
  have hw := wrap64 n
  have HG := hidIn (gf_any (nat64 n) 8 w (by have := nat64_lt n; omega) (by omega))
  generalize nat64 n = m at *
  go_enter Tryz.func22, Tryz.ntmps22
  go_wp2_with fail
  refine HG.out.mono ?_
  rintro e w1 ⟨v, rfl, hv, hb⟩
  have HV := hidIn hv
  have HB := hidIn hb
  clear hv hb
  go_wp2_with fail
  go_ret
  exact ⟨_, rfl, HV.out, HB.out⟩
set_option maxHeartbeats 1000000 in
set_option maxRecDepth 100000 in
theorem ptext_any (s : ByteArray) (k : Nat) (w : World) (hs : s.size ≤ 2147483648) (hk : k ≤ 8) : Calls Tryz.prog 95 #[.string s, .int .i64 k] w fun e w' => ∃ v, e = .returned v ∧ OwnB w' w.heap.size v (txL s k) ∧ Below w.heap.size w w' := by
  obtain ⟨i0, gi, gz0, gz1, gz2⟩ := info_parts infoByte
  have HG := hidIn (gf_any s.size k w (by omega) hk)
  have hw : IntKind.u64.wrap (s.size : Int) = (s.size : Int) := by rw [wrap64]; unfold nat64; omega
  have HT : Hid (txL s k = gfL s.size k ++ s.data.toList) := rfl
  have HL : Hid ((gfL s.size k).length = k) := gfL_length _ _
  have HZ : Hid (s.data.toList.length = s.size) := by unfold Hid; simp
  unfold OwnB
  rw [HT.out, List.length_append, HL.out, HZ.out]
  unfold OwnB at HG
  rw [HL.out] at HG
  go_enter Tryz.func95, Tryz.ntmps95
  go_wp2_with fail
  refine HG.out.mono ?_
  rintro e w1 ⟨v, rfl, hv, hb⟩
  have HV := hidIn hv
  have HB := hidIn hb
  clear hv hb
  go_wp2_with (at_builtin; refine Lib.wpList_append_own_string w1 rfl _ _ 55 9 rfl w.heap.size 5 i0 Tryz.underlying55 Tryz.underlying9 gi gz0 gz1 gz2 v k (rowB (gfL s.size k)) rfl HV.out s rfl (by unfold maxLen; omega) (by omega) HB.out.size ?_; intro v2 w2 hown2 hgrow2 _)
  go_ret
  exact ⟨_, rfl, by rw [rowB_app]; exact hown2, HB.out.grown hgrow2 HB.out.size (fun j hj => (World.ownsRow.lt HV.out j hj).1)⟩

end Go.Proofs.YtkioolbjmcpjpaaGreatDoor.Ev
namespace Go.Proofs.YtkioolbjmcpjpaaGreatDoor.Ev
open Go.RowKit
set_option linter.unusedVariables false

def ordS : ByteArray := ⟨#[73, 78, 76, 67, 68, 86, 84]⟩
/-- A kind's letters among the first j in the order of bytes. -/
def ordT (k : Int) (j : Nat) : ByteArray := ⟨((order7.take j).filter (fun c => hasB (flds k) c)).toArray⟩
theorem ordT_zero (k : Int) : ordT k 0 = ⟨#[]⟩ := rfl
theorem ordT_all (k : Int) : ordT k 7 = ⟨(ordL k).toArray⟩ := by unfold ordT; rw [ordL_filter]; rfl
theorem ordT_yes (k : Int) (j : Nat) (c : UInt8) (hc : order7[j]? = some c) (h : hasB (flds k) c = true) : ordT k (j + 1) = ordT k j ++ ⟨#[c]⟩ := by
  apply Go.WideShapes.bytes_inj
  unfold ordT
  rw [List.take_add_one, hc, List.filter_append]
  simp [h]
theorem ordT_no (k : Int) (j : Nat) (c : UInt8) (hc : order7[j]? = some c) (h : hasB (flds k) c = false) : ordT k (j + 1) = ordT k j := by
  unfold ordT
  rw [List.take_add_one, hc, List.filter_append]
  simp [h]
theorem ordT_size (k : Int) (j : Nat) : (ordT k j).size ≤ 7 := by
  have h1 := List.length_filter_le (fun c => hasB (flds k) c) (order7.take j)
  have h2 : (order7.take j).length ≤ 7 := by rw [List.length_take]; exact Nat.min_le_right _ _
  exact Nat.le_trans h1 h2
theorem enc_ascii (c : UInt8) (h : c.toNat < 128) : Utf8.encode (c.toNat : Int) = ⟨#[c]⟩ := by
  have : ∀ n : Nat, n < 128 → Utf8.encode ((UInt8.ofNat n).toNat : Int) = ⟨#[UInt8.ofNat n]⟩ := by decide +kernel
  have h2 := this c.toNat h
  rwa [UInt8.ofNat_toNat] at h2

set_option maxHeartbeats 4000000 in
set_option maxRecDepth 100000 in
theorem pfields_any (k : Int) (w : World) : Calls Tryz.prog 55 #[.int .i64 k] w fun e w' => e = .returned (.string ⟨(ordL k).toArray⟩) ∧ Below w.heap.size w w' := by
  have HF := hidIn (fun w => fields_any k w)
  have HC : Hid (∀ (j : Nat) (c : UInt8) (w : World), order7[j]? = some c → Calls Tryz.prog 94 #[.string (flds k), .int .i32 (c.toNat : Int)] w fun e w' => e = .returned (.bool (hasB (flds k) c)) ∧ w' = w) := fun j c w hj => by
    have h128 : c.toNat < 128 := by
      have : ∀ c ∈ order7, c.toNat < 128 := by decide +kernel
      exact this c (List.mem_of_getElem? hj)
    have h := Tryz.strings_ContainsRune_ascii (flds k) (c.toNat : Int) w (by omega) (by omega)
    rw [show ((c.toNat : Int)).toNat.toUInt8 = c by simp] at h
    exact h
  have HY := hidIn (ordT_yes k)
  have HN := hidIn (ordT_no k)
  have HA := hidIn (ordT_all k)
  have H0 := hidIn (ordT_zero k)
  have HZ := hidIn (ordT_size k)
  generalize flds k = f at *
  generalize ordT k = T at *
  generalize (⟨(ordL k).toArray⟩ : ByteArray) = res at *
  go_enter Tryz.func55, Tryz.ntmps55
  go_wp2_with fail
  refine calls_same (HF.out w) ?_
  go_wp2_with fail
  go_loopw [4] (fun s4 wr => ∃ j : Nat, j ≤ 7 ∧ s4 = .string (T j) ∧ wr = w.iter ordS j) (fun _ wr => 7 - wr.iterPos w.heap.size)
  case atStart => exact ⟨0, by omega, by rw [H0.out], rfl⟩
  case round =>
    obtain ⟨j, hj, rfl, rfl⟩ := hrel
    by_cases hlt : j < 7
    · obtain ⟨c, hc⟩ : ∃ c, order7[j]? = some c := ⟨_, List.getElem?_eq_getElem (show j < order7.length from hlt)⟩
      have hp : j < ordS.size := hlt
      have hcs : ordS[j]'hp = c := by
        have : order7[j]'(show j < order7.length from hlt) = c := by rw [List.getElem?_eq_getElem (show j < order7.length from hlt)] at hc; exact Option.some.inj hc
        rw [← this]
        rfl
      have h128 : c.toNat < 128 := by
        have : ∀ c ∈ order7, c.toNat < 128 := by decide +kernel
        exact this c (List.mem_of_getElem? hc)
      have hnx : ∀ ty, (Instr.next (.pointer (some ⟨w.heap.size, 0, none⟩)) true ty).run Tryz.prog (w.iter ordS j) = .ok (.tuple #[.bool true, .int .i64 j, .int .i32 c.toNat]) (w.iter ordS (j + 1)) := fun ty => by
        have := run_next_ascii (P := Tryz.prog) w ordS j ty hp (by rw [hcs]; exact h128)
        rw [hcs] at this
        exact this
      have hen := enc_ascii c h128
      have hzj := HZ.out j
      have HC1 := hidIn (HC.out j c (w.iter ordS (j + 1)) hc)
      have HY1 := hidIn (HY.out j c hc)
      have HN1 := hidIn (HN.out j c hc)
      obtain ⟨z, hz⟩ : ∃ z : ByteArray, (⟨#[c]⟩ : ByteArray) = z := ⟨_, rfl⟩
      rw [hz] at hen HY1
      have hz1 : z.size = 1 := by rw [← hz]; rfl
      clear hcs hp hz h128
      cases hb : hasB f c
      · rw [hb] at HC1
        go_wp2_with fail
        refine calls_same HC1.out ?_
        go_wp2_with fail
        go_roundw
        case rel => exact ⟨j + 1, by omega, by rw [HN1.out hb], rfl⟩
        case measure => simp; omega
      · rw [hb] at HC1
        go_wp2_with fail
        refine calls_same HC1.out ?_
        go_wp2_with fail
        go_roundw
        case rel => exact ⟨j + 1, by omega, by rw [HY1.out hb], rfl⟩
        case measure => simp; omega
    · have h7 : j = 7 := by omega
      subst h7
      have hnx : ∀ ty, (Instr.next (.pointer (some ⟨w.heap.size, 0, none⟩)) true ty).run Tryz.prog (w.iter ordS 7) = _ := fun ty => run_next_end w ordS 7 ty (by decide)
      rw [HA.out]
      go_wp2_with fail
      go_ret
      exact ⟨rfl, below_iter _ _ _⟩

structure Ev.Sz (e : Ev) : Prop where
  i : e.i.size ≤ 2147483648
  n : e.n.size ≤ 2147483648
  l : e.l.size ≤ 2147483648
  u : e.u.size ≤ 2147483648
theorem wTextC_size (c : C) : (wTextC c).size ≤ 1000 := by
  unfold wTextC
  split
  · split
    · decide
    · omega
  · decide
/-- What packed answers. -/
def FdPost (w : World) (l : List UInt8) (r : Ending) (w' : World) : Prop := ∃ v, r = .returned v ∧ OwnB w' w.heap.size v l ∧ Below w.heap.size w w'

set_option maxHeartbeats 4000000 in
set_option maxRecDepth 100000 in
theorem packed_any (e : Ev) (hok : e.Ok) (hsz : e.Sz) (c : UInt8) (hc : c ∈ order7) (w : World) (ht : TabW w) : Calls Tryz.prog 56 #[e.val, .int .i32 (c.toNat : Int)] w (FdPost w (fdL e c)) := by
  have HW := hidIn (fun w ht => writeC_any e.t hok.t hok.w w ht)
  have HT := hidIn ht
  have HI := hidIn (fun w => ptext_any e.i 1 w hsz.i (by omega))
  have HN := hidIn (fun w => ptext_any e.n 1 w hsz.n (by omega))
  have HL := hidIn (fun w => ptext_any e.l 1 w hsz.l (by omega))
  have HU := hidIn (fun w => ptext_any e.u 1 w hsz.u (by omega))
  have HD := hidIn (fun w => number8_any e.d w)
  have HV := hidIn (fun w => number8_any e.v w)
  have HX := hidIn (fun w => ptext_any (wTextC e.t) 2 w (by have := wTextC_size e.t; omega) (by omega))
  have one := e.t.one' hok.t
  have hcc : c = 73 ∨ c = 78 ∨ c = 76 ∨ c = 67 ∨ c = 68 ∨ c = 86 ∨ c = 84 := by simpa [order7] using hc
  unfold FdPost
  have F73 : Hid (fdL e 73 = txL e.i 1) := rfl
  have F78 : Hid (fdL e 78 = txL e.n 1) := rfl
  have F76 : Hid (fdL e 76 = txL e.l 1) := rfl
  have F67 : Hid (fdL e 67 = txL e.u 1) := rfl
  have F68 : Hid (fdL e 68 = gfL (nat64 e.d) 8) := rfl
  have F86 : Hid (fdL e 86 = gfL (nat64 e.v) 8) := rfl
  have F84 : Hid (fdL e 84 = txL (wTextC e.t) 2) := rfl
  generalize fdL e = fd at *
  clear hok hsz ht hc
  obtain ⟨k, i, n, l, u, d, v, t⟩ := e
  unfold Ev.val Ev.cs at *
  simp only at *
  generalize txL i 1 = ri at *
  generalize txL n 1 = rn at *
  generalize txL l 1 = rl at *
  generalize txL u 1 = ru at *
  generalize gfL (nat64 d) 8 = rd at *
  generalize gfL (nat64 v) 8 = rv at *
  generalize t.val = tv at *
  have HBV : Hid (Below w.heap.size w (w.alloc (.cells #[.int .i64 k, .string i, .string n, .string l, .string u, .int .i64 d, .int .i64 v, tv] 30))) := below_alloc (Below.refl _ _) _
  have hx := heap_alloc_new w (.cells #[.int .i64 k, .string i, .string n, .string l, .string u, .int .i64 d, .int .i64 v, tv] 30)
  have HXX := hidIn hx
  clear hx
  rcases hcc with rfl | rfl | rfl | rfl | rfl | rfl | rfl
  · rw [F73.out, show (((73 : UInt8).toNat : Nat) : Int) = 73 from rfl]
    clear F73 F78 F76 F67 F68 F86 F84
    go_enter Tryz.func56, Tryz.ntmps56
    go_wp2_with fail
    generalize w.alloc (.cells #[.int .i64 k, .string i, .string n, .string l, .string u, .int .i64 d, .int .i64 v, tv] 30) = V at *
    refine (HI.out V).mono ?_
    rintro e w1 ⟨v1, rfl, hv1, hb1⟩
    have HV1 := hidIn hv1
    have HB1 := hidIn hb1
    clear hv1 hb1
    go_wp2_with fail
    go_ret
    exact ⟨_, rfl, own_lower HV1.out HBV.out.size, HBV.out.trans (HB1.out.mono HBV.out.size)⟩
  · rw [F78.out, show (((78 : UInt8).toNat : Nat) : Int) = 78 from rfl]
    clear F73 F78 F76 F67 F68 F86 F84
    go_enter Tryz.func56, Tryz.ntmps56
    go_wp2_with fail
    generalize w.alloc (.cells #[.int .i64 k, .string i, .string n, .string l, .string u, .int .i64 d, .int .i64 v, tv] 30) = V at *
    refine (HN.out V).mono ?_
    rintro e w1 ⟨v1, rfl, hv1, hb1⟩
    have HV1 := hidIn hv1
    have HB1 := hidIn hb1
    clear hv1 hb1
    go_wp2_with fail
    go_ret
    exact ⟨_, rfl, own_lower HV1.out HBV.out.size, HBV.out.trans (HB1.out.mono HBV.out.size)⟩
  · rw [F76.out, show (((76 : UInt8).toNat : Nat) : Int) = 76 from rfl]
    clear F73 F78 F76 F67 F68 F86 F84
    go_enter Tryz.func56, Tryz.ntmps56
    go_wp2_with fail
    generalize w.alloc (.cells #[.int .i64 k, .string i, .string n, .string l, .string u, .int .i64 d, .int .i64 v, tv] 30) = V at *
    refine (HL.out V).mono ?_
    rintro e w1 ⟨v1, rfl, hv1, hb1⟩
    have HV1 := hidIn hv1
    have HB1 := hidIn hb1
    clear hv1 hb1
    go_wp2_with fail
    go_ret
    exact ⟨_, rfl, own_lower HV1.out HBV.out.size, HBV.out.trans (HB1.out.mono HBV.out.size)⟩
  · rw [F67.out, show (((67 : UInt8).toNat : Nat) : Int) = 67 from rfl]
    clear F73 F78 F76 F67 F68 F86 F84
    go_enter Tryz.func56, Tryz.ntmps56
    go_wp2_with fail
    generalize w.alloc (.cells #[.int .i64 k, .string i, .string n, .string l, .string u, .int .i64 d, .int .i64 v, tv] 30) = V at *
    refine (HU.out V).mono ?_
    rintro e w1 ⟨v1, rfl, hv1, hb1⟩
    have HV1 := hidIn hv1
    have HB1 := hidIn hb1
    clear hv1 hb1
    go_wp2_with fail
    go_ret
    exact ⟨_, rfl, own_lower HV1.out HBV.out.size, HBV.out.trans (HB1.out.mono HBV.out.size)⟩
  · rw [F68.out, show (((68 : UInt8).toNat : Nat) : Int) = 68 from rfl]
    clear F73 F78 F76 F67 F68 F86 F84
    go_enter Tryz.func56, Tryz.ntmps56
    go_wp2_with fail
    generalize w.alloc (.cells #[.int .i64 k, .string i, .string n, .string l, .string u, .int .i64 d, .int .i64 v, tv] 30) = V at *
    refine (HD.out V).mono ?_
    rintro e w1 ⟨v1, rfl, hv1, hb1⟩
    have HV1 := hidIn hv1
    have HB1 := hidIn hb1
    clear hv1 hb1
    go_wp2_with fail
    go_ret
    exact ⟨_, rfl, own_lower HV1.out HBV.out.size, HBV.out.trans (HB1.out.mono HBV.out.size)⟩
  · rw [F86.out, show (((86 : UInt8).toNat : Nat) : Int) = 86 from rfl]
    clear F73 F78 F76 F67 F68 F86 F84
    go_enter Tryz.func56, Tryz.ntmps56
    go_wp2_with fail
    generalize w.alloc (.cells #[.int .i64 k, .string i, .string n, .string l, .string u, .int .i64 d, .int .i64 v, tv] 30) = V at *
    refine (HV.out V).mono ?_
    rintro e w1 ⟨v1, rfl, hv1, hb1⟩
    have HV1 := hidIn hv1
    have HB1 := hidIn hb1
    clear hv1 hb1
    go_wp2_with fail
    go_ret
    exact ⟨_, rfl, own_lower HV1.out HBV.out.size, HBV.out.trans (HB1.out.mono HBV.out.size)⟩
  · rw [F84.out, show (((84 : UInt8).toNat : Nat) : Int) = 84 from rfl]
    clear F73 F78 F76 F67 F68 F86 F84
    generalize wTextC t = tx at *
    go_enter Tryz.func56, Tryz.ntmps56
    go_wp2_with fail
    generalize w.alloc (.cells #[.int .i64 k, .string i, .string n, .string l, .string u, .int .i64 d, .int .i64 v, tv] 30) = V at *
    refine (HW.out V (tabW_below HT.out HBV.out)).mono ?_
    rintro e w1 ⟨rfl, hb1⟩
    have HB1 := hidIn (HBV.out.trans (hb1.mono HBV.out.size))
    clear hb1
    go_wp2_with fail
    refine (HX.out w1).mono ?_
    rintro e w2 ⟨v2, rfl, hv2, hb2⟩
    have HV2 := hidIn hv2
    have HB2 := hidIn hb2
    clear hv2 hb2
    go_wp2_with fail
    go_ret
    exact ⟨_, rfl, own_lower HV2.out HB1.out.size, HB1.out.trans (HB2.out.mono HB1.out.size)⟩

end Go.Proofs.YtkioolbjmcpjpaaGreatDoor.Ev
namespace Go.Proofs.YtkioolbjmcpjpaaGreatDoor.Ev
open Go.RowKit
set_option linter.unusedVariables false

theorem own_grown_refl (w : World) (r : Option Nat) : w.grownBy w r := grown_of_below (Below.refl _ _) r
theorem wpList_append_bytes {ops : Array Oper} {rest : List Oper} {o : Oper} {a : Act} {Q : Exit → Act → World → Prop} (w : World) (hgd : o.guard = none) (s x : Operand)
    (ho : o.op = .call { callee := .builtin .append, args := #[s, x], argTypes := #[55, 55] })
    (base : Nat) (v : Value) (l : List UInt8) (hs : a.eval s = v) (hown : OwnB w base v l)
    (B : Nat) (xv : Value) (m : List UInt8) (hx : a.eval x = xv) (hox : OwnB w B xv m) (hlen : l.length + m.length ≤ 140737488355328) (hbase : base ≤ w.heap.size)
    (h : ∀ v' w', OwnB w' base v' (l ++ m) → w.grownBy w' v.ownBlock → (v'.ownBlock = v.ownBlock ∨ v'.ownBlock = some w.heap.size) → wpList Tryz.prog ops Q rest (a.put o.dst v') w') : wpList Tryz.prog ops Q (o :: rest) a w := by
  obtain ⟨i0, gi, gz0, gz1, gz2⟩ := info_parts infoByte
  unfold OwnB at hown hox h
  have hox2 := hox
  rcases hox2.2 with ⟨rfl, h0⟩ | ⟨g, cap, cur, rfl, hb, hg, hnc, hcm, _⟩
  · have hm : m = [] := List.length_eq_zero_iff.1 h0
    subst hm
    refine wpList_append_own_none hgd s x 55 ho base 5 i0 1 Tryz.underlying55 gi v l.length (rowB l) hs hown hx ?_
    exact h v w (by simpa using hown) (own_grown_refl w _) (.inl rfl)
  · refine wpList_append_own_at w hgd s x 55 ho base 5 i0 (.int .u8 0) 1 1 Tryz.underlying55 gi gz0 gz1 gz2 rfl (by decide) v l.length (rowB l) hs hown ⟨g, 0, none⟩ m.length cap (rowB m) hx (by rw [rowB_len]; omega) ?_ (rowB_one m) (by unfold maxLen; omega) (by omega) hbase ?_
    · intro j u hj
      rw [Addr.add_lit, Nat.zero_add]
      have hjl : j < m.length := by
        have := (List.getElem?_eq_some_iff.1 hj).1
        rwa [rowB_len] at this
      rw [hox.cellAt j (by omega)]
      exact hj
    · intro v' w' h1 h2 _ h3
      refine h v' w' ?_ h2 h3
      rw [List.length_append, rowB_app]
      exact h1
theorem own_iterAt {w : World} {B k : Nat} {v : Value} {l : List UInt8} {s : ByteArray} {p : Nat} (h : OwnB w B v l) (hk : w.heap[k]? = some (.stringIter s p)) (p' : Nat) : OwnB (w.iterAt k s p') B v l := by
  refine ⟨h.1, ?_⟩
  rcases h.2 with h2 | ⟨g, cap, cur, h1, h2, h3, h4⟩
  · exact .inl h2
  · refine .inr ⟨g, cap, cur, h1, h2, ?_, h4⟩
    rw [Lib.iterAt_other _ _ _ _ _ (by rintro rfl; rw [hk] at h3; cases h3)]
    exact h3
theorem own_not {w : World} {B k : Nat} {v : Value} {l : List UInt8} {s : ByteArray} {p : Nat} (h : OwnB w B v l) (hk : w.heap[k]? = some (.stringIter s p)) : some k ≠ v.ownBlock := by
  rcases h.2 with ⟨rfl, _⟩ | ⟨g, cap, cur, rfl, h2, h3, h4⟩
  · simp [Value.ownBlock]
  · intro e
    simp [Value.ownBlock] at e
    subst e
    rw [hk] at h3
    cases h3
theorem own_one {w : World} {x : UInt8} {o : Obj} (ho : o = .cells #[.int .u8 x.toNat] 5) : OwnB (w.alloc o) w.heap.size (.slice (some ⟨w.heap.size, 0, none⟩) 1 1) [x] := by
  subst ho
  exact ⟨rfl, .inr ⟨w.heap.size, 1, #[.int .u8 x.toNat], rfl, Nat.le_refl _, heap_alloc_new w _, Nat.le_refl _, by unfold maxLen; omega, rfl, rfl⟩⟩
theorem wrap_u8 (k : Int) : IntKind.u8.wrap k = ((kdL k).toNat : Int) := by
  unfold kdL nat64
  simp [IntKind.wrap, IntKind.bits, IntKind.signed]
  omega
theorem txL_len (s : ByteArray) (k : Nat) : (txL s k).length = k + s.size := by unfold txL; simp [gfL_length]
theorem fdL_len (e : Ev) (h : e.Sz) (c : UInt8) : (fdL e c).length ≤ 2147483656 := by
  have := wTextC_size e.t
  have h1 := h.i
  have h2 := h.n
  have h3 := h.l
  have h4 := h.u
  unfold fdL
  repeat (split; · first | (rw [txL_len]; omega) | (rw [gfL_length]; omega))
  rw [txL_len]
  omega
theorem flat_len (f : UInt8 → List UInt8) (n : Nat) (h : ∀ c, (f c).length ≤ n) : ∀ l : List UInt8, (l.flatMap f).length ≤ l.length * n := by
  intro l
  induction l with
  | nil => simp
  | cons a l ih =>
    have := h a
    rw [List.flatMap_cons, List.length_append, List.length_cons, Nat.succ_mul]
    omega
theorem ordL_mem (k : Int) : ∀ c ∈ ordL k, c ∈ order7 := by
  intro c hc
  rw [ordL_filter] at hc
  exact (List.mem_filter.1 hc).1
theorem ordL_len (k : Int) : (ordL k).length ≤ 7 := by
  rw [ordL_filter]
  exact List.length_filter_le _ _
theorem infoA12 : (Tryz.prog.info? 30).map (·.size) = some 8 := by kernel_rfl
/-- The bytes that pack.Event answers. -/
def pkR (e : Ev) : List UInt8 := if chkE e = 0 then pkL e else []
def PkPost (w : World) (l : List UInt8) (n : Int) (r : Ending) (w' : World) : Prop := ∃ v, r = .returned (.tuple #[v, .int .i64 n]) ∧ OwnB w' w.heap.size v l ∧ Below w.heap.size w w'

set_option maxHeartbeats 4000000 in
set_option maxRecDepth 100000 in
theorem pevent_any (e : Ev) (hok : e.Ok) (hsz : e.Sz) (w : World) (ht : TabW w) : Calls Tryz.prog 23 #[e.val] w (PkPost w (pkR e) (chkE e)) := by
  have HC := hidIn (fun w ht => check_any e hok w ht)
  have HP := hidIn (fun c hc w ht => packed_any e hok hsz c hc w ht)
  obtain ⟨S, hS⟩ : ∃ S : ByteArray, S = ⟨(ordL e.k).toArray⟩ := ⟨_, rfl⟩
  have HF := hidIn (fun w => pfields_any e.k w)
  rw [← hS] at HF
  have HS := hidIn hS
  clear hS
  have HT := hidIn ht
  have HLN := hidIn (fun n => Nat.le_trans (flat_len (fdL e) 2147483656 (fdL_len e hsz) ((ordL e.k).take n)) (Nat.mul_le_mul_right _ (Nat.le_trans (List.length_take_le' _ _) (ordL_len e.k))))
  have HFL := hidIn (fdL_len e hsz)
  have HM := hidIn (ordL_mem e.k)
  have HR : Hid (pkR e = if chkE e = 0 then kdL e.k :: (ordL e.k).flatMap (fdL e) else []) := rfl
  have one := e.t.one' hok.t
  have HKW := hidIn (wrap_u8 e.k)
  unfold PkPost
  generalize pkR e = res at *
  generalize chkE e = ce at *
  generalize fdL e = fd at *
  clear hok hsz ht
  obtain ⟨k, i, n, l, u, d, v, t⟩ := e
  unfold Ev.val Ev.cs at *
  simp only at *
  generalize ordL k = L at *
  generalize t.val = tv at *
  have hkw := HKW.out
  generalize kdL k = kd at *
  clear t
  go_enter Tryz.func23, Tryz.ntmps23
  go_wp2_with fail
  have HBV : Hid (Below w.heap.size w (w.alloc (.cells #[.int .i64 k, .string i, .string n, .string l, .string u, .int .i64 d, .int .i64 v, tv] 30))) := below_alloc (Below.refl _ _) _
  have HX := hidIn (heap_alloc_new w (.cells #[.int .i64 k, .string i, .string n, .string l, .string u, .int .i64 d, .int .i64 v, tv] 30))
  generalize w.alloc (.cells #[.int .i64 k, .string i, .string n, .string l, .string u, .int .i64 d, .int .i64 v, tv] 30) = V at *
  refine (HC.out V (tabW_below HT.out HBV.out)).mono ?_
  rintro e w1 ⟨rfl, hb⟩
  have HB1 := hidIn (HBV.out.trans (hb.mono HBV.out.size))
  have HX1 := hidIn ((hb.block _ (Array.getElem?_eq_some_iff.1 HX.out).1).trans HX.out)
  have HLT : Hid (w.heap.size < w1.heap.size) := (Array.getElem?_eq_some_iff.1 HX1.out).1
  clear hb
  by_cases h0 : ce = 0
  rotate_left
  · have h0' : (ce != 0) = true := by simpa using h0
    rw [if_neg h0] at HR
    clear h0
    go_wp2_with fail
    go_ret2
    exact ⟨_, rfl, by rw [HR.out]; exact World.ownsRow_nil _ _ _ _, HB1.out⟩
  · subst h0
    rw [if_pos rfl] at HR
    have c0 : w1.cell? ⟨w.heap.size, 0, none⟩ = some (.int .i64 k) := cell_of_row _ _ 0 _ _ _ HX1.out
    go_upto_region 5 with fail
    clear c0
    have HO2 : Hid (OwnB (w1.alloc (.cells #[.int .u8 kd.toNat] 5)) w1.heap.size (.slice (some ⟨w1.heap.size, 0, none⟩) 1 1) [kd]) := own_one rfl
    have HB2 : Hid (Below w1.heap.size w1 (w1.alloc (.cells #[.int .u8 kd.toNat] 5))) := below_alloc (Below.refl _ _) _
    generalize w1.alloc (.cells #[.int .u8 kd.toNat] 5) = w2 at *
    have c0 : w2.cell? ⟨w.heap.size, 0, none⟩ = some (.int .i64 k) := cell_of_row _ _ 0 _ _ _ ((HB2.out.block _ HLT.out).trans HX1.out)
    go_wp2_with fail
    clear c0
    refine (HF.out w2).mono ?_
    rintro e w3 ⟨rfl, hb3⟩
    have HO3 := hidIn (own_below HO2.out hb3)
    have HB3 := hidIn (HB2.out.trans (hb3.mono HB2.out.size))
    clear hb3 HO2 HB2
    go_wp2_with fail
    have HO4 : Hid (OwnB (w3.iter S 0) w1.heap.size (.slice (some ⟨w1.heap.size, 0, none⟩) 1 1) [kd]) := own_below HO3.out (below_alloc (Below.refl _ _) _)
    have HB4 : Hid (Below w1.heap.size w1 (w3.iter S 0)) := below_alloc HB3.out _
    have HI4 : Hid ((w3.iter S 0).heap[w3.heap.size]? = some (.stringIter S 0)) := heap_alloc_new w3 _
    have HK : Hid (w1.heap.size ≤ w3.heap.size) := HB3.out.size
    clear HO3 HB3
    go_loopw [5] (fun s5 wr => ∃ (j : Nat), j ≤ L.length ∧ OwnB wr w1.heap.size s5 (kd :: (L.take j).flatMap fd) ∧ wr.heap[w3.heap.size]? = some (.stringIter S j) ∧ Below w1.heap.size w1 wr) (fun _ wr => L.length - wr.iterPos w3.heap.size)
    case atStart => exact ⟨0, Nat.zero_le _, HO4.out, HI4.out, HB4.out⟩
    case round =>
      obtain ⟨j, hj, ho, hit, hbr⟩ := hrel
      have HO := hidIn ho
      have HIT := hidIn hit
      have HBR := hidIn hbr
      clear ho hit hbr
      by_cases hlt : j < L.length
      · obtain ⟨c, hc⟩ : ∃ c, L[j]? = some c := ⟨_, List.getElem?_eq_getElem hlt⟩
        have hmem := HM.out c (List.mem_of_getElem? hc)
        have h128 : c.toNat < 128 := by
          have : ∀ c ∈ order7, c.toNat < 128 := by decide +kernel
          exact this c hmem
        have hnx : ∀ ty, (Instr.next (.pointer (some ⟨w3.heap.size, 0, none⟩)) true ty).run Tryz.prog wr = .ok (.tuple #[.bool true, .int .i64 j, .int .i32 c.toNat]) (wr.iterAt w3.heap.size S (j + 1)) := fun ty => by
          have hp : j < S.size := by rw [HS.out]; exact hlt
          have hcs : S[j]'hp = c := by
            have h2 : L[j] = c := by rw [List.getElem?_eq_getElem hlt] at hc; exact Option.some.inj hc
            have h3 := HS.out
            subst h3
            rw [← h2]
            rfl
          have := Lib.run_next_ascii_at (P := Tryz.prog) wr w3.heap.size S j ty HIT.out hp (by rw [hcs]; exact h128)
          rw [hcs] at this
          exact this
        have HO5 := hidIn (own_iterAt HO.out HIT.out (j + 1))
        have HI5 := hidIn (Lib.iterAt_heap wr w3.heap.size S j (j + 1) HIT.out)
        have HB5 := hidIn (Lib.below_iterAt HBR.out HK.out S (j + 1))
        have HTK : Hid ((L.take (j + 1)).flatMap fd = (L.take j).flatMap fd ++ fd c) := by unfold Hid; rw [List.take_add_one, hc]; simp
        have HLJ := hidIn (HLN.out j)
        generalize wr.iterAt w3.heap.size S (j + 1) = W5 at *
        have HX5 := hidIn ((HB5.out.block _ HLT.out).trans HX1.out)
        have HT5 := hidIn (tabW_below HT.out (HB1.out.trans (HB5.out.mono HB1.out.size)))
        have HPC := hidIn (HP.out c hmem)
        clear h128 hmem
        go_wp2_with (refine wpList_load_row rfl 30 (.tmp 1) rfl (w.heap.size) rfl _ _ _ _ HX5.out Tryz.underlying30 rfl infoA12 ?_)
        refine (HPC.out W5 HT5.out).mono ?_
        rintro e w6 ⟨v6, rfl, hv6, hb6⟩
        have HV6 := hidIn hv6
        have HO6 := hidIn (own_below HO5.out hb6)
        have HI6 := hidIn ((hb6.block _ (Array.getElem?_eq_some_iff.1 HI5.out).1).trans HI5.out)
        have HB6 := hidIn (HB5.out.trans (hb6.mono HB5.out.size))
        have HFC := HFL.out c
        clear hv6 hb6
        go_wp2_with (at_builtin; refine wpList_append_bytes w6 rfl _ _ rfl w1.heap.size u5 _ rfl HO6.out W5.heap.size v6 (fd c) rfl HV6.out (by have := HLJ.out; simp only [List.length_cons]; omega) HB6.out.size ?_; intro v7 w7 hown7 hgrow7 _)
        have HO7 : Hid (OwnB w7 w1.heap.size v7 (kd :: (L.take (j + 1)).flatMap fd)) := by unfold Hid; rw [HTK.out]; exact hown7
        have HI7 : Hid (w7.heap[w3.heap.size]? = some (.stringIter S (j + 1))) := (hgrow7.block _ (Array.getElem?_eq_some_iff.1 HI6.out).1 (own_not HO6.out HI6.out)).trans HI6.out
        have HB7 := hidIn (HB6.out.grown hgrow7 HB6.out.size (fun k hk => (World.ownsRow.lt HO6.out k hk).1))
        clear hown7 hgrow7
        go_roundw
        case rel => exact ⟨j + 1, by omega, HO7.out, HI7.out, HB7.out⟩
        case measure =>
          rw [iterPos_of HI7.out, iterPos_of HIT.out]
          omega
      · have hjl : j = L.length := by omega
        subst hjl
        have hnx : ∀ ty, (Instr.next (.pointer (some ⟨w3.heap.size, 0, none⟩)) true ty).run Tryz.prog wr = _ := fun ty => Lib.run_next_end_at (P := Tryz.prog) wr w3.heap.size S L.length ty HIT.out (by rw [HS.out]; exact fun h => Nat.lt_irrefl L.length h)
        go_wp2_with fail
        go_ret2
        exact ⟨_, rfl, by rw [HR.out]; have h := HO.out; rw [List.take_length] at h; exact own_lower h HB1.out.size, HB1.out.trans (HBR.out.mono HB1.out.size)⟩

def pkX (e : Ev) (r : Bool) : List UInt8 := if chkE e = 0 then (bif r then 1 else 0) :: pkL e else []
set_option maxHeartbeats 4000000 in
set_option maxRecDepth 100000 in
theorem pentry_any (e : Ev) (r : Bool) (hok : e.Ok) (hsz : e.Sz) (w : World) (ht : TabW w) : Calls Tryz.prog 24 #[.agg (e.cs.push (.bool r))] w (PkPost w (pkX e r) (chkE e)) := by
  have HE := hidIn (fun w ht => pevent_any e hok hsz w ht)
  have HLN : Hid ((pkR e).length ≤ 140000000000000) := by
    have h := Nat.le_trans (flat_len (fdL e) 2147483656 (fdL_len e hsz) (ordL e.k)) (Nat.mul_le_mul_right _ (ordL_len e.k))
    unfold Hid pkR pkL
    split
    · simp only [List.length_cons]; omega
    · simp
  have HR : Hid (pkX e r = if chkE e = 0 then (bif r then 1 else 0) :: pkR e else []) := by
    unfold Hid pkX pkR
    split <;> rfl
  have HT := hidIn ht
  have one := e.t.one' hok.t
  unfold PkPost
  generalize pkX e r = res at *
  unfold PkPost at HE
  generalize pkR e = pk at *
  generalize chkE e = ce at *
  clear hok hsz ht
  obtain ⟨k, i, n, l, u, d, v, t⟩ := e
  unfold Ev.val Ev.cs at *
  simp only [List.push_toArray, List.cons_append, List.nil_append] at *
  generalize t.val = tv at *
  clear t
  go_enter Tryz.func24, Tryz.ntmps24
  go_wp2_with fail
  have HBV : Hid (Below w.heap.size w (w.alloc (.cells #[.int .i64 k, .string i, .string n, .string l, .string u, .int .i64 d, .int .i64 v, tv, .bool r] 64))) := below_alloc (Below.refl _ _) _
  have HX := hidIn (heap_alloc_new w (.cells #[.int .i64 k, .string i, .string n, .string l, .string u, .int .i64 d, .int .i64 v, tv, .bool r] 64))
  generalize w.alloc (.cells #[.int .i64 k, .string i, .string n, .string l, .string u, .int .i64 d, .int .i64 v, tv, .bool r] 64) = V at *
  refine (HE.out V (tabW_below HT.out HBV.out)).mono ?_
  rintro e w1 ⟨v1, rfl, hv1, hb⟩
  have HV1 := hidIn hv1
  have HB1 := hidIn (HBV.out.trans (hb.mono HBV.out.size))
  have hx1 := (hb.block _ (Array.getElem?_eq_some_iff.1 HX.out).1).trans HX.out
  have c8 : w1.cell? ⟨w.heap.size, 8, none⟩ = some (.bool r) := cell_of_row _ _ 8 _ _ _ hx1
  clear hv1 hb hx1
  by_cases h0 : ce = 0
  rotate_left
  · have h0' : (ce != 0) = true := by simpa using h0
    rw [if_neg h0] at HR
    clear h0
    go_wp2_with fail
    go_ret2
    exact ⟨_, rfl, by rw [HR.out]; exact World.ownsRow_nil _ _ _ _, HB1.out⟩
  · subst h0
    rw [if_pos rfl] at HR
    cases r
    · go_wp2_with (at_builtin; refine wpList_append_bytes _ rfl _ _ rfl w1.heap.size _ _ rfl (own_one (x := 0) rfl) V.heap.size v1 pk rfl (own_below HV1.out (below_alloc (Below.refl _ _) _)) (by have := HLN.out; simp only [List.length_cons, List.length_nil]; omega) (by simp) ?_; intro v7 w7 hown7 hgrow7 _)
      go_ret2
      exact ⟨_, rfl, by rw [HR.out]; exact own_lower hown7 HB1.out.size, (below_alloc HB1.out _).grown hgrow7 (by have := HB1.out.size; simp; omega) (fun j hj => Nat.le_trans HB1.out.size (World.ownsRow.lt (own_one (w := w1) (x := 0) rfl) j hj).1)⟩
    · go_wp2_with (at_builtin; refine wpList_append_bytes _ rfl _ _ rfl w1.heap.size _ _ rfl (own_one (x := 1) rfl) V.heap.size v1 pk rfl (own_below HV1.out (below_alloc (Below.refl _ _) _)) (by have := HLN.out; simp only [List.length_cons, List.length_nil]; omega) (by simp) ?_; intro v7 w7 hown7 hgrow7 _)
      go_ret2
      exact ⟨_, rfl, by rw [HR.out]; exact own_lower hown7 HB1.out.size, (below_alloc HB1.out _).grown hgrow7 (by have := HB1.out.size; simp; omega) (fun j hj => Nat.le_trans HB1.out.size (World.ownsRow.lt (own_one (w := w1) (x := 1) rfl) j hj).1)⟩

end Go.Proofs.YtkioolbjmcpjpaaGreatDoor.Ev
namespace Go.Proofs.YtkioolbjmcpjpaaGreatDoor.Ev
open Go.RowKit
set_option linter.unusedVariables false

/-- Bytes in memory, whose-ever. -/
def BIn (w : World) (v : Value) (l : List UInt8) : Prop := ∃ ao c, v = .slice ao l.length c ∧ ∀ i x, l[i]? = some x → ∃ b off, ao = some ⟨b, off, none⟩ ∧ w.cell? ⟨b, off + i, none⟩ = some (.int .u8 x.toNat)
theorem own_bin {w : World} {B : Nat} {v : Value} {l : List UInt8} (h : OwnB w B v l) : BIn w v l := by
  have h2 := h
  rcases h.2 with ⟨rfl, h0⟩ | ⟨g, cap, cur, rfl, hb, hg, hnc, hcm, hcs, hcur⟩
  · have : l = [] := List.length_eq_zero_iff.1 h0
    subst this
    exact ⟨none, 0, rfl, fun i x hx => by simp at hx⟩
  · refine ⟨some ⟨g, 0, none⟩, cap, rfl, fun i x hx => ⟨g, 0, rfl, ?_⟩⟩
    have hi : i < l.length := (List.getElem?_eq_some_iff.1 hx).1
    unfold OwnB at h2
    rw [Nat.zero_add, h2.cellAt i (by omega)]
    exact rowB_get l i x hx
theorem BIn.below {w w' : World} {v : Value} {l : List UInt8} (h : BIn w v l) (hb : Below w.heap.size w w') : BIn w' v l := by
  obtain ⟨ao, c, rfl, h⟩ := h
  refine ⟨ao, c, rfl, fun i x hx => ?_⟩
  obtain ⟨b, off, rfl, hc⟩ := h i x hx
  exact ⟨b, off, rfl, (hb.cell (p := ⟨b, off + i, none⟩) (World.block_lt_of_cell? w _ hc)).trans hc⟩
theorem conv_bin {w : World} {v : Value} {l : List UInt8} (h : BIn w v l) : (convert 55 9 v).run Tryz.prog w = .ok (.string ⟨l.toArray⟩) w := by
  obtain ⟨ao, c, rfl, h⟩ := h
  cases ao with
  | none =>
    have hl : l = [] := by
      cases l with
      | nil => rfl
      | cons x l =>
        obtain ⟨b, off, e, _⟩ := h 0 x rfl
        cases e
    subst hl
    exact run_convert_bytes_nil w 55 5 Tryz.underlying55 Tryz.underlying5 0 c 9 Tryz.underlying9
  | some ad =>
    refine run_convert_bytes_back w 55 9 5 ad c l Tryz.underlying55 Tryz.underlying5 Tryz.underlying9 (fun j hj => ?_)
    obtain ⟨b, off, e, hc⟩ := h j l[j] (List.getElem?_eq_getElem hj)
    injection e with e
    subst e
    rw [Go.WideShapes.add_plain]
    exact hc
theorem lt_of_get {l : List UInt8} {i : Nat} (h : i < l.length) : ∃ x, l[i]? = some x := ⟨_, List.getElem?_eq_getElem h⟩

set_option maxHeartbeats 4000000 in
set_option maxRecDepth 100000 in
theorem sameB_any (va vb : Value) (l m : List UInt8) (w : World) (ha : BIn w va l) (hb : BIn w vb m) (hl : l.length ≤ 9223372036854775807) (hm : m.length ≤ 9223372036854775807) :
    Calls Tryz.prog 29 #[va, vb] w fun e w' => e = .returned (.bool (decide (l = m))) ∧ Below w.heap.size w w' := by
  obtain ⟨ao, ca, rfl, ha⟩ := ha
  obtain ⟨bo, cb, rfl, hb⟩ := hb
  have HA := hidIn ha
  have HB := hidIn hb
  clear ha hb
  by_cases hlen : l.length = m.length
  rotate_left
  · have e1 : decide (l = m) = false := decide_eq_false (fun h => hlen (by rw [h]))
    have e2 : ((l.length : Int) != (m.length : Int)) = true := by rw [bne_iff_ne]; omega
    rw [e1]
    clear hlen e1
    go_enter Tryz.func29, Tryz.ntmps29
    go_wp2_with fail
    go_ret
    exact ⟨rfl, Below.refl _ _⟩
  · have HLM := hidIn hlen
    have e2 : ((l.length : Int) != (m.length : Int)) = false := by simp [hlen]
    obtain ⟨res, hres⟩ : ∃ res, decide (l = m) = res := ⟨_, rfl⟩
    rw [hres]
    have HR : Hid ((∀ i, i < l.length → l[i]? = m[i]?) → res = true) := fun h => by
      rw [← hres, decide_eq_true_eq]
      apply List.ext_getElem?
      intro i
      by_cases hi : i < l.length
      · exact h i hi
      · rw [List.getElem?_eq_none (by omega), List.getElem?_eq_none (by omega)]
    have HF : Hid (∀ (i : Nat) (x y : UInt8), l[i]? = some x → m[i]? = some y → x ≠ y → res = false) := fun i x y hx hy hn => by
      rw [← hres, decide_eq_false_iff_not]
      rintro rfl
      rw [hx] at hy
      exact hn (Option.some.inj hy)
    clear hres
    rw [← hlen] at e2 hm ⊢
    clear hlen
    go_enter Tryz.func29, Tryz.ntmps29
    go_wp2_with fail
    go_loopw [5] (fun s5 wr => ∃ k n : Nat, k ≤ l.length ∧ s5 = .int .i64 k ∧ wr = w.drewN n ∧ (∀ i, i < k → l[i]? = m[i]?)) (fun s5 _ => l.length - (intOf s5).toNat)
    case atStart => exact ⟨0, 0, by omega, rfl, rfl, fun i hi => absurd hi (by omega)⟩
    case round =>
      obtain ⟨k, n, hk, rfl, rfl, heq⟩ := hrel
      have HE := hidIn heq
      clear heq
      by_cases hlt : k < l.length
      · have hlt' : (k : Int) < (l.length : Int) := by omega
        obtain ⟨x, hx⟩ := lt_of_get hlt
        obtain ⟨y, hy⟩ := lt_of_get (show k < m.length by rw [← HLM.out]; exact hlt)
        obtain ⟨b1, o1, rfl, hc1⟩ := HA.out k x hx
        obtain ⟨b2, o2, rfl, hc2⟩ := HB.out k y hy
        have HX := hidIn hx
        have HY := hidIn hy
        clear hx hy
        by_cases hxy : x = y
        · subst hxy
          have ex : ((x.toNat : Int) != (x.toNat : Int)) = false := by simp
          go_wp2_with fail
          go_quiet (fail)
          go_wp2_with fail
          go_roundw
          case rel => exact ⟨k + 1, _, by omega, by go_num, rfl, fun i hi => by
            by_cases h : i < k
            · exact HE.out i h
            · rw [show i = k by omega, HX.out, HY.out]⟩
          case measure => simp [intOf]; omega
        · have ex : ((x.toNat : Int) != (y.toNat : Int)) = true := by
            have : x.toNat ≠ y.toNat := fun h => hxy (UInt8.toNat_inj.1 h)
            rw [bne_iff_ne]
            omega
          have hrf := HF.out k x y HX.out HY.out hxy
          subst hrf
          clear hxy
          go_wp2_with fail
          go_quiet (fail)
          go_wp2_with fail
          go_ret
          exact ⟨rfl, below_drewN (below_drewN (Below.refl _ _) _) _⟩
      · have hlt' : ¬ (k : Int) < (l.length : Int) := by omega
        have hrt := HR.out (fun i hi => HE.out i (by omega))
        subst hrt
        go_wp2_with fail
        go_ret
        exact ⟨rfl, below_drewN (Below.refl _ _) _⟩

theorem pass0_sz : pass0.Sz := by constructor <;> decide
set_option maxHeartbeats 1000000 in
set_option maxRecDepth 100000 in
theorem wakes12_any (w : World) (htab : TabW w) : Calls Tryz.prog 21 #[] w fun e w' => e = .returned (.bool true) ∧ Below w.heap.size w w' := by
  have H1 : Hid (∀ W, TabW W → Calls Tryz.prog 23 #[.agg #[.int .i64 1, .string ⟨#[]⟩, .string ⟨#[]⟩, .string ⟨#[]⟩, .string ⟨#[]⟩, .int .i64 0, .int .i64 0, .nilIface]] W (PkPost W [1] 0)) := fun W hW => by
    have := pevent_any pass0 pass0_ok pass0_sz W hW
    rw [show pkR pass0 = [1] by decide +kernel, pass0_chk] at this
    exact this
  have HT := hidIn htab
  clear htab
  unfold PkPost at H1
  go_enter Tryz.func21, Tryz.ntmps21
  go_wp2_with fail
  refine (H1.out w HT.out).mono ?_
  rintro e w1 ⟨v, rfl, hv, hb1⟩
  have HV := hidIn (own_bin hv)
  have HB1 := hidIn hb1
  clear hb1 hv
  go_wp2_with fail
  have hb2 : BIn (w1.alloc (.cells #[.int .u8 1] 5)) (.slice (some ⟨w1.heap.size, 0, none⟩) 1 1) [1] := own_bin (own_one (x := 1) rfl)
  refine (sameB_any v _ [1] [1] _ (HV.out.below (below_alloc (Below.refl _ _) _)) hb2 (by decide) (by decide)).mono ?_
  rintro e w2 ⟨rfl, hb2⟩
  go_wp2_with fail
  go_ret
  exact ⟨rfl, (below_alloc HB1.out _).trans (hb2.mono (below_alloc HB1.out _).size)⟩

end Go.Proofs.YtkioolbjmcpjpaaGreatDoor.Ev
namespace Go.Proofs.YtkioolbjmcpjpaaGreatDoor.Ev
open Go.RowKit
set_option linter.unusedVariables false

def SlOk (a : Option Addr) (l c : Nat) : Prop := (a = none → l = 0 ∧ c = 0) ∧ l ≤ c ∧ c ≤ 9223372036854775807
theorem or_u64 (a b : Nat) (ha : a < 18446744073709551616) (hb : b < 18446744073709551616) : bits .or .u64 (a : Int) (b : Int) = ((a ||| b : Nat) : Int) := by
  show IntKind.u64.wrap ((BitVec.ofInt 64 (a : Int) ||| BitVec.ofInt 64 (b : Int)).toNat : Int) = _
  rw [BitVec.ofInt_natCast, BitVec.ofInt_natCast, BitVec.toNat_or, BitVec.toNat_ofNat, BitVec.toNat_ofNat, Nat.mod_eq_of_lt (by omega), Nat.mod_eq_of_lt (by omega), wrap64]
  have : a ||| b < 2 ^ 64 := Nat.or_lt_two_pow (by omega) (by omega)
  unfold nat64
  omega
theorem or_byte (n : Nat) (x : UInt8) (hn : n < 72057594037927936) : bits .or .u64 ((n * 256 : Nat) : Int) (x.toNat : Int) = ((n * 256 + x.toNat : Nat) : Int) := by
  have hx := x.toNat_lt
  rw [or_u64 _ _ (by omega) (by omega)]
  congr 1
  have := Nat.shiftLeft_add_eq_or_of_lt (i := 8) (b := x.toNat) (by omega) n
  rw [Nat.shiftLeft_eq] at this
  exact this.symm
theorem numL_take (l : List UInt8) (k : Nat) (x : UInt8) (h : l[k]? = some x) : numL (l.take (k + 1)) = numL (l.take k) * 256 + x.toNat := by
  rw [List.take_add_one, h]
  exact numL_snoc _ _
theorem numL_small (l : List UInt8) (k : Nat) (h : k ≤ 8) : numL (l.take k) < 256 ^ k := by
  refine Nat.lt_of_lt_of_le (numL_lt _) (Nat.pow_le_pow_right (by omega) ?_)
  rw [List.length_take]
  omega

set_option maxHeartbeats 2000000 in
set_option maxRecDepth 100000 in
theorem numB_any (v : Value) (l : List UInt8) (w : World) (h : BIn w v l) (hl : l.length ≤ 8) : Calls Tryz.prog 58 #[v] w fun e w' => e = .returned (.int .u64 (numL l)) ∧ w' = w := by
  obtain ⟨ao, c, rfl, h⟩ := h
  have HA := hidIn h
  clear h
  have HL : Hid (numL (l.take l.length) = numL l) := by unfold Hid; rw [List.take_length]
  go_enter Tryz.func58, Tryz.ntmps58
  go_wp2_with fail
  go_loop [3, 8] (fun s3 s8 => ∃ k : Nat, k ≤ l.length ∧ s8 = .int .i64 k ∧ s3 = .int .u64 (numL (l.take k))) (fun _ s8 => l.length - (intOf s8).toNat)
  case atStart => exact ⟨0, by omega, rfl, rfl⟩
  case round =>
    obtain ⟨k, hk, rfl, rfl⟩ := hrel
    by_cases hlt : k < l.length
    · have hlt' : (k : Int) < (l.length : Int) := by omega
      obtain ⟨x, hx⟩ := lt_of_get hlt
      obtain ⟨b, off, rfl, hc⟩ := HA.out k x hx
      have HS := hidIn (numL_take l k x hx)
      have hn : numL (l.take k) < 72057594037927936 := by
        have h1 := numL_small l k (by omega)
        have h2 : 256 ^ k ≤ 256 ^ 7 := Nat.pow_le_pow_right (by omega) (by omega)
        omega
      generalize numL (l.take k) = N at *
      have h1 : IntKind.u64.wrap ((N : Int) * 256) = ((N * 256 : Nat) : Int) := by rw [wrap64]; unfold nat64; omega
      have h2 : IntKind.u64.wrap (x.toNat : Int) = (x.toNat : Int) := by have := x.toNat_lt; rw [wrap64]; unfold nat64; omega
      have h3 : bits .or .u64 ((N : Int) * 256) (x.toNat : Int) = ((N * 256 + x.toNat : Nat) : Int) := by rw [show ((N : Int) * 256) = ((N * 256 : Nat) : Int) by omega]; exact or_byte N x hn
      clear hx hn
      go_wp2_with fail
      go_round
      case rel => exact ⟨k + 1, by omega, by go_num, by rw [HS.out, Int.natCast_add, Int.natCast_mul]; rfl⟩
      case measure => simp [intOf]; omega
    · have hlt' : ¬ (k : Int) < (l.length : Int) := by omega
      have hkl : k = l.length := by omega
      subst hkl
      rw [HL.out]
      go_wp2_with fail
      go_ret
      exact ⟨rfl, rfl⟩
/-- What TakeNumber answers. -/
def tnN (l : List UInt8) : Int := if l.length = 8 then int64 (numL l) else 0
theorem wrap_int64 (n : Nat) (h : n < 18446744073709551616) : RowKit.wrap64 (n : Int) = int64 n := by
  unfold RowKit.wrap64
  unfold int64
  split <;> omega
set_option maxHeartbeats 2000000 in
set_option maxRecDepth 100000 in
theorem takeN_any (v : Value) (l : List UInt8) (w : World) (h : BIn w v l) (hl : l.length ≤ 9223372036854775807) : Calls Tryz.prog 27 #[v] w fun e w' => e = .returned (.tuple #[.int .i64 (tnN l), .bool (decide (l.length = 8))]) ∧ w' = w := by
  by_cases h8 : l.length = 8
  · have HN := hidIn (numB_any v l w h (by omega))
    have hb := numL_lt l
    rw [h8] at hb
    have HT : Hid (tnN l = int64 (numL l)) := by unfold Hid tnN; rw [if_pos h8]
    have hw := wrap_int64 (numL l) (by omega)
    obtain ⟨ao, c, rfl, -⟩ := h
    rw [decide_eq_true h8, HT.out, ← hw]
    generalize numL l = n at *
    rw [h8] at HN ⊢
    clear h8 HT hw
    go_enter Tryz.func27, Tryz.ntmps27
    go_wp2_with fail
    refine calls_same HN.out ?_
    go_wp2_with fail
    go_ret2
    exact ⟨rfl, rfl⟩
  · obtain ⟨ao, c, rfl, -⟩ := h
    rw [decide_eq_false h8, show tnN l = 0 by unfold tnN; rw [if_neg h8]]
    have e : ((l.length : Int) != 8) = true := by rw [bne_iff_ne]; omega
    clear h8
    go_enter Tryz.func27, Tryz.ntmps27
    go_wp2_with fail
    go_ret2
    exact ⟨rfl, rfl⟩

end Go.Proofs.YtkioolbjmcpjpaaGreatDoor.Ev
namespace Go.Proofs.YtkioolbjmcpjpaaGreatDoor.Ev
open Go.RowKit
set_option linter.unusedVariables false
set_option linter.unusedSimpArgs false

theorem has_k (k : Int) (hk : k = 1 ∨ k = 2 ∨ k = 3 ∨ k = 4 ∨ k = 5 ∨ k = 6) : ((flds k).toList == [63]) = false ∧ hasB (flds k) 73 = (k == 2 || k == 4) ∧ hasB (flds k) 78 = (k == 3) ∧ hasB (flds k) 76 = (k == 4) ∧ hasB (flds k) 67 = (k == 6) ∧ hasB (flds k) 68 = (k == 3 || k == 5 || k == 6) ∧ hasB (flds k) 86 = (k == 3 || k == 4 || k == 6) ∧ hasB (flds k) 84 = (k == 2) := by
  rcases hk with rfl | rfl | rfl | rfl | rfl | rfl <;> decide +kernel
def eB : ByteArray := ⟨#[]⟩
theorem eB_emp : (eB).toList.isEmpty = true := by decide +kernel
theorem form_k (e : Ev) (hk : e.k = 1 ∨ e.k = 2 ∨ e.k = 3 ∨ e.k = 4 ∨ e.k = 5 ∨ e.k = 6) : formE e = (fitS e.i (e.k == 2 || e.k == 4) && fitS e.n (e.k == 3) && fitS e.l (e.k == 4) && fitS e.u (e.k == 6) && fitI e.d (e.k == 3 || e.k == 5 || e.k == 6) (dayB e.d) && fitI e.v (e.k == 3 || e.k == 4 || e.k == 6) (vB e.v) && (nilB e.t || e.k == 2) && (!(e.k == 4) || pickB e.v)) := by
  obtain ⟨h1, h2, h3, h4, h5, h6, h7, h8⟩ := has_k e.k hk
  unfold formE
  rw [h1, h2, h3, h4, h5, h6, h7, h8]
  simp
/-- The events of PackForms. -/
def fmE (D V : Int) (t : C) (q : Nat) : Ev :=
  if q = 0 then ⟨1, eB, eB, eB, eB, 0, 0, none'⟩ else if q = 1 then ⟨2, ⟨#[116, 114]⟩, eB, eB, eB, 0, 0, t⟩ else if q = 2 then ⟨3, eB, ⟨#[195, 182, 108]⟩, eB, eB, D, V, none'⟩
  else if q = 3 then ⟨4, ⟨#[97]⟩, eB, ⟨#[98, 99]⟩, eB, 0, 1, none'⟩ else if q = 4 then ⟨5, eB, eB, eB, eB, D, 0, none'⟩ else ⟨6, eB, eB, eB, ⟨#[117, 115, 100]⟩, D, V, none'⟩
def n8 (n : Int) : ByteArray := ⟨(gfL (nat64 n) 8).toArray⟩
def l2 (n : Nat) : ByteArray := ⟨#[UInt8.ofNat (n / 256), UInt8.ofNat n]⟩
/-- Their bytes. -/
def fmB (D V : Int) (s : ByteArray) (q : Nat) : ByteArray :=
  if q = 0 then ⟨#[1]⟩ else if q = 1 then ⟨#[2, 2, 116, 114]⟩ ++ l2 s.size ++ s else if q = 2 then ⟨#[3, 3, 195, 182, 108]⟩ ++ n8 D ++ n8 V
  else if q = 3 then ⟨#[4, 1, 97, 2, 98, 99]⟩ ++ n8 1 else if q = 4 then ⟨#[5]⟩ ++ n8 D else ⟨#[6, 3, 117, 115, 100]⟩ ++ n8 D ++ n8 V
theorem gf1 (n : Nat) : gfL n 1 = [UInt8.ofNat n] := by simp [gfL]
theorem gf2 (n : Nat) : gfL n 2 = [UInt8.ofNat (n / 256), UInt8.ofNat n] := by rw [gfL_succ, gf1]; rfl
theorem n8_data (n : Int) : (n8 n).data.toList = gfL (nat64 n) 8 := rfl
theorem app_data (a b : ByteArray) : (a ++ b).data.toList = a.data.toList ++ b.data.toList := by simp
theorem fm_bytes (D V : Int) (t : C) (q : Nat) (hq : q < 6) : pkL (fmE D V t q) = (fmB D V (wTextC t) q).data.toList := by
  rcases (by omega : q = 0 ∨ q = 1 ∨ q = 2 ∨ q = 3 ∨ q = 4 ∨ q = 5) with rfl | rfl | rfl | rfl | rfl | rfl
  · show pkL ⟨1, eB, eB, eB, eB, 0, 0, none'⟩ = (⟨#[1]⟩ : ByteArray).data.toList
    decide +kernel
  · show kdL 2 :: ((txL ⟨#[116, 114]⟩ 1) ++ (txL (wTextC t) 2 ++ [])) = (⟨#[2, 2, 116, 114]⟩ ++ l2 (wTextC t).size ++ wTextC t : ByteArray).data.toList
    rw [app_data, app_data, show kdL 2 = 2 by decide +kernel, show txL ⟨#[116, 114]⟩ 1 = [2, 116, 114] by decide +kernel]
    unfold txL l2
    rw [gf2]
    simp
  · show kdL 3 :: ((txL ⟨#[195, 182, 108]⟩ 1) ++ (gfL (nat64 D) 8 ++ (gfL (nat64 V) 8 ++ []))) = (⟨#[3, 3, 195, 182, 108]⟩ ++ n8 D ++ n8 V : ByteArray).data.toList
    rw [app_data, app_data, n8_data, n8_data, show kdL 3 = 3 by decide +kernel, show txL ⟨#[195, 182, 108]⟩ 1 = [3, 195, 182, 108] by decide +kernel]
    simp
  · show pkL ⟨4, ⟨#[97]⟩, eB, ⟨#[98, 99]⟩, eB, 0, 1, none'⟩ = (⟨#[4, 1, 97, 2, 98, 99]⟩ ++ n8 1 : ByteArray).data.toList
    decide +kernel
  · show kdL 5 :: (gfL (nat64 D) 8 ++ []) = (⟨#[5]⟩ ++ n8 D : ByteArray).data.toList
    rw [app_data, n8_data, show kdL 5 = 5 by decide +kernel]
    simp
  · show kdL 6 :: ((txL ⟨#[117, 115, 100]⟩ 1) ++ (gfL (nat64 D) 8 ++ (gfL (nat64 V) 8 ++ []))) = (⟨#[6, 3, 117, 115, 100]⟩ ++ n8 D ++ n8 V : ByteArray).data.toList
    rw [app_data, app_data, n8_data, n8_data, show kdL 6 = 6 by decide +kernel, show txL ⟨#[117, 115, 100]⟩ 1 = [3, 117, 115, 100] by decide +kernel]
    simp
theorem fm_chk (D V : Int) (t : C) (q : Nat) (hq : q < 6) (hD : 0 ≤ D) (hD2 : D ≤ 10000) (hV : -1000000000000 ≤ V) (hV2 : V ≤ 1000000000000) (ht : wErrC t = 0) : chkE (fmE D V t q) = 0 := by
  have hd : dayB D = true := by simp [dayB, hD, hD2]
  have hv : vB V = true := (vB_iff V).2 ⟨hV, hV2⟩
  rcases (by omega : q = 0 ∨ q = 1 ∨ q = 2 ∨ q = 3 ∨ q = 4 ∨ q = 5) with rfl | rfl | rfl | rfl | rfl | rfl
  · show chkE ⟨1, eB, eB, eB, eB, 0, 0, none'⟩ = 0
    decide +kernel
  · have h : formE (fmE D V t 1) = true := by
      rw [form_k _ (.inr (.inl rfl))]
      show (fitS ⟨#[116, 114]⟩ true && fitS eB false && fitS eB false && fitS eB false && fitI 0 false (dayB 0) && fitI 0 false (vB 0) && (nilB t || true) && (!false || pickB 0)) = true
      rw [show fitS ⟨#[116, 114]⟩ true = true by decide +kernel, show fitS eB false = true by decide +kernel]
      simp [fitI]
    unfold chkE
    rw [if_pos h]
    exact ht
  · have h : formE (fmE D V t 2) = true := by
      rw [form_k _ (.inr (.inr (.inl rfl)))]
      show (fitS eB false && fitS ⟨#[195, 182, 108]⟩ true && fitS eB false && fitS eB false && fitI D true (dayB D) && fitI V true (vB V) && (true || false) && (!false || pickB V)) = true
      rw [show fitS ⟨#[195, 182, 108]⟩ true = true by decide +kernel, show fitS eB false = true by decide +kernel]
      simp [fitI, hd, hv]
    unfold chkE
    rw [if_pos h]
    rfl
  · show chkE ⟨4, ⟨#[97]⟩, eB, ⟨#[98, 99]⟩, eB, 0, 1, none'⟩ = 0
    decide +kernel
  · have h : formE (fmE D V t 4) = true := by
      rw [form_k _ (.inr (.inr (.inr (.inr (.inl rfl)))))]
      show (fitS eB false && fitS eB false && fitS eB false && fitS eB false && fitI D true (dayB D) && fitI 0 false (vB 0) && (true || false) && (!false || pickB 0)) = true
      rw [show fitS eB false = true by decide +kernel]
      simp [fitI, hd]
    unfold chkE
    rw [if_pos h]
    rfl
  · have h : formE (fmE D V t 5) = true := by
      rw [form_k _ (.inr (.inr (.inr (.inr (.inr rfl)))))]
      show (fitS eB false && fitS eB false && fitS eB false && fitS ⟨#[117, 115, 100]⟩ true && fitI D true (dayB D) && fitI V true (vB V) && (true || false) && (!false || pickB V)) = true
      rw [show fitS ⟨#[117, 115, 100]⟩ true = true by decide +kernel, show fitS eB false = true by decide +kernel]
      simp [fitI, hd, hv]
    unfold chkE
    rw [if_pos h]
    rfl
theorem fm_ok (D V : Int) (t : C) (q : Nat) (hD : 0 ≤ D) (hD2 : D ≤ 10000) (hV : -1000000000000 ≤ V) (hV2 : V ≤ 1000000000000) (ht : t.Ok) (hw : t.weight ≤ 1000000) : (fmE D V t q).Ok ∧ (fmE D V t q).Sz := by
  unfold fmE
  repeat' split
  all_goals
    refine ⟨?_, ?_⟩
    · constructor <;> first | exact ht | exact hw | exact none_ok | (dsimp only; omega) | (dsimp only; decide) | (show (1 : Nat) ≤ 1000000; omega)
    · constructor <;> (dsimp only; decide)

end Go.Proofs.YtkioolbjmcpjpaaGreatDoor.Ev
namespace Go.Proofs.YtkioolbjmcpjpaaGreatDoor
open Go.RowKit Go.Maps
set_option linter.unusedVariables false

def namStep (st : List ByteArray) (c : C) : List ByteArray := addAll st (allL c.nums)
/-- The names of a contract's Fixes, in the order of a walk. -/
def C.all : C → List ByteArray
  | .give c => c.all
  | .and l r => l.all ++ r.all
  | .or _ l r => l.all ++ r.all
  | .scale o c => o.all ++ c.all
  | .when _ c => c.all
  | .iff o l r => o.all ++ (l.all ++ r.all)
  | _ => []
theorem names_fold (c : C) : ∀ st, c.pre.foldl namStep st = addAll st c.all := by
  induction c <;> intro st <;> simp_all [C.pre, namStep, C.nums, C.all, allL, addAll]
def C.names (c : C) : List ByteArray := addAll [] c.all
theorem addAll_id (acc : List ByteArray) : ∀ l : List ByteArray, (∀ s ∈ l, s ∈ acc) → addAll acc l = acc := by
  intro l
  induction l with
  | nil => intro _; rfl
  | cons s l ih =>
    intro h
    have h1 : addN acc s = acc := by unfold addN; rw [if_pos ((inN_iff acc s).2 (h s (by simp)))]
    show addAll (addN acc s) l = acc
    rw [h1]
    exact ih (fun t ht => h t (by simp [ht]))
theorem mem_addN (acc : List ByteArray) (s t : ByteArray) : t ∈ addN acc s ↔ t ∈ acc ∨ t = s := by
  unfold addN
  split
  · rename_i h
    have := (inN_iff acc s).1 h
    constructor
    · exact .inl
    · rintro (h | rfl); exact h; exact this
  · simp
theorem addN_twice (acc : List ByteArray) (s : ByteArray) (h : s ∈ acc) : addN acc s = acc := by unfold addN; rw [if_pos ((inN_iff acc s).2 h)]
theorem mem_addAll : ∀ (l acc : List ByteArray) (t : ByteArray), t ∈ addAll acc l ↔ t ∈ acc ∨ t ∈ l := by
  intro l
  induction l with
  | nil => intro acc t; simp [addAll]
  | cons s l ih =>
    intro acc t
    show t ∈ addAll (addN acc s) l ↔ _
    rw [ih, mem_addN]
    simp only [List.mem_cons]
    constructor
    · rintro ((h | h) | h); exact .inl h; exact .inr (.inl h); exact .inr (.inr h)
    · rintro (h | h | h); exact .inl (.inl h); exact .inl (.inr h); exact .inr h
/-- Adding what is each once is adding all. -/
theorem addAll_once : ∀ (l acc pre : List ByteArray), (∀ s ∈ pre, s ∈ acc) → addAll acc (addAll pre l) = addAll acc l := by
  intro l
  induction l with
  | nil => intro acc pre h; exact addAll_id acc pre h
  | cons s l ih =>
    intro acc pre h
    show addAll acc (addAll (addN pre s) l) = addAll (addN acc s) l
    by_cases hs : s ∈ pre
    · rw [addN_twice pre s hs, ih acc pre h, addN_twice acc s (h s hs)]
    · have e : addN pre s = pre ++ [s] := by
        unfold addN
        rw [if_neg (fun e => hs ((inN_iff pre s).1 e))]
      have hc : ∀ (l pre : List ByteArray), ∃ m, addAll pre l = pre ++ m := by
        intro l
        induction l with
        | nil => intro pre; exact ⟨[], by simp [addAll]⟩
        | cons x l ihl =>
          intro pre
          obtain ⟨m, hm⟩ := ihl (addN pre x)
          show ∃ m, addAll (addN pre x) l = pre ++ m
          rw [hm]
          unfold addN
          split
          · exact ⟨m, rfl⟩
          · exact ⟨[x] ++ m, by simp⟩
      obtain ⟨m, hm⟩ := hc l (addN pre s)
      rw [hm, e, addAll_append, addAll_append, addAll_id acc pre h]
      have h2 : addAll acc [s] = addN acc s := rfl
      rw [h2]
      have h3 := ih (addN acc s) (addN pre s) (fun t ht => by
        rw [mem_addN] at ht ⊢
        rcases ht with ht | ht
        · exact .inl (h t ht)
        · exact .inr ht)
      rw [hm, e, addAll_append, addAll_append] at h3
      rw [addAll_id (addN acc s) pre (fun t ht => (mem_addN acc s t).2 (.inl (h t ht)))] at h3
      have h4 : addAll (addN acc s) [s] = addN acc s := addN_twice _ _ ((mem_addN acc s s).2 (.inr rfl))
      rw [h4] at h3
      exact h3

/-- What is kept while names are gathered. -/
def NamInv (V : Nat) (own : Nat → Prop) (st : List ByteArray) (w : World) : Prop :=
  ∃ v, own = (fun k => k = V ∨ k = V + 1 ∨ v.ownBlock = some k) ∧ w.heap[V]? = some (.cells #[v] 23 (0, 0)) ∧ w.heap[V + 2]? = some (.cells #[.map (some (V + 1))] 226 (0, 0)) ∧ NIn w (V + 1) v st ∧ v.ownBlock ≠ some (V + 2)

theorem names_ok (o : O) (h : o.Ok) : ∀ s ∈ o.all, s.size ≤ 2147483648 := by
  induction o with
  | fix s => intro t ht; simp [O.all] at ht; subst ht; exact h
  | neg o ih => exact ih h
  | add l r h1 h2 => intro s hs; simp only [O.all, List.mem_append] at hs; rcases hs with hs | hs; exact h1 h.1 s hs; exact h2 h.2 s hs
  | mul l r h1 h2 => intro s hs; simp only [O.all, List.mem_append] at hs; rcases hs with hs | hs; exact h1 h.1 s hs; exact h2 h.2 s hs
  | max l r h1 h2 => intro s hs; simp only [O.all, List.mem_append] at hs; rcases hs with hs | hs; exact h1 h.1 s hs; exact h2 h.2 s hs
  | _ => intro s hs; simp [O.all] at hs
theorem onames_ok (o : O) (h : o.Ok) : ∀ s ∈ o.names, s.size ≤ 2147483648 := by
  intro s hs
  unfold O.names at hs
  rw [mem_addAll] at hs
  rcases hs with hs | hs
  · simp at hs
  · exact names_ok o h s hs

theorem nam_fin {V : Nat} {v v2 : Value} {acc : List ByteArray} {w W wA wB : World} (hBW : Below w.heap.size w W) (hXA : Below W.heap.size W wA) (hG : Grew (V + 1) v.ownBlock wA wB) (hin : NIn wB (V + 1) v2 acc) (hloc : v2.ownBlock = v.ownBlock ∨ ∀ k, v2.ownBlock = some k → wA.heap.size ≤ k) (hVB : wB.heap[V]? = some (.cells #[v] 23 (0, 0))) (h3 : w.heap[V + 2]? = some (.cells #[.map (some (V + 1))] 226 (0, 0))) (h5 : v.ownBlock ≠ some (V + 2)) :
    ∃ own', NamInv V own' acc (wB.setCell ⟨V, 0, none⟩ v2) ∧ Dyn (fun k => k = V ∨ k = V + 1 ∨ v.ownBlock = some k) w own' (wB.setCell ⟨V, 0, none⟩ v2) := by
  have hlt := (Array.getElem?_eq_some_iff.1 h3).1
  have s1 := hBW.size
  have s2 := hXA.size
  have s3 := hG.size
  refine ⟨fun k => k = V ∨ k = V + 1 ∨ v2.ownBlock = some k, ⟨v2, rfl, heap_setCell_same wB V 0 _ _ _ hVB, ?_, ⟨ownsRow_setCell_below hin.1 (a := ⟨V, 0, none⟩) (by show V < V + 1 + 1; omega) v2, hin.2.1.setCell (by show V + 1 ≠ V; omega) _, by rw [World.size_setCell]; exact hin.2.2⟩, ?_⟩, hG.os.trans (hXA.os.trans hBW.os), hG.tape.trans (hXA.tape.trans hBW.tape), hG.output.trans (hXA.output.trans hBW.output), by rw [World.size_setCell]; omega, fun k hk hno => ?_, fun k hk => ?_⟩
  · rw [heap_setCell_other wB ⟨V, 0, none⟩ (V + 2) _ (by show V + 2 ≠ V; omega)]
    exact (hG.block (V + 2) (by omega) (by omega) h5).trans ((hXA.block (V + 2) (by omega)).trans ((hBW.block (V + 2) hlt).trans h3))
  · rcases hloc with h | h
    · rw [h]; exact h5
    · intro e; have := h _ e; omega
  · have k1 : k ≠ V := fun e => hno (.inl e)
    have k2 : k ≠ V + 1 := fun e => hno (.inr (.inl e))
    have k3 : v.ownBlock ≠ some k := fun e => hno (.inr (.inr e))
    rw [heap_setCell_other wB ⟨V, 0, none⟩ k _ k1]
    exact (hG.block k (by omega) k2 k3).trans ((hXA.block k (by omega)).trans (hBW.block k hk))
  · rcases hk with hk | hk | hk
    · exact .inl (.inl hk)
    · exact .inl (.inr (.inl hk))
    · rcases hloc with h | h
      · rw [h] at hk; exact .inl (.inr (.inr hk))
      · have := h k hk; exact .inr (by omega)

end Go.Proofs.YtkioolbjmcpjpaaGreatDoor
namespace Go.Proofs.YtkioolbjmcpjpaaGreatDoor
open Go.RowKit
set_option linter.unusedVariables false

theorem ownsRow_below {w w' : World} {B e size n : Nat} {v : Value} {xs : List Value} (h : w.ownsRow B e size v n xs) (hb : Below w.heap.size w w') : w'.ownsRow B e size v n xs :=
  h.kept (grown_of_below hb none) (by cases hv : v.ownBlock <;> simp)
theorem grownBy_refl (w : World) (r : Option Nat) : w.grownBy w r := grown_of_below (Below.refl _ _) r
theorem wpList_append_rows {ops : Array Oper} {rest : List Oper} {o : Oper} {a : Act} {Q : Exit → Act → World → Prop} (w : World) (hgd : o.guard = none) (s x : Operand)
    (ho : o.op = .call { callee := .builtin .append, args := #[s, x], argTypes := #[23, 23] })
    (base : Nat) (v : Value) (l : List ByteArray) (hs : a.eval s = v) (hown : w.ownsRow base 9 1 v l.length (strCells l))
    (B : Nat) (xv : Value) (m : List ByteArray) (hx : a.eval x = xv) (hox : w.ownsRow B 9 1 xv m.length (strCells m)) (hlen : l.length + m.length ≤ 1000000) (hbase : base ≤ w.heap.size)
    (h : ∀ v' w', w'.ownsRow base 9 1 v' (l ++ m).length (strCells (l ++ m)) → w.grownBy w' v.ownBlock → (v'.ownBlock = v.ownBlock ∨ v'.ownBlock = some w.heap.size) → wpList Tryz.prog ops Q rest (a.put o.dst v') w') : wpList Tryz.prog ops Q (o :: rest) a w := by
  obtain ⟨i0, gi, gz0, gz1, gz2⟩ := info_parts infoStr
  have hox2 := hox
  rcases hox2.2 with ⟨rfl, h0⟩ | ⟨g, cap, cur, rfl, hb, hg, hnc, hcm, _⟩
  · have hm : m = [] := List.length_eq_zero_iff.1 h0
    subst hm
    refine wpList_append_own_none hgd s x 23 ho base 9 i0 1 Tryz.underlying23 gi v l.length (strCells l) hs hown hx ?_
    exact h v w (by simpa using hown) (grownBy_refl w _) (.inl rfl)
  · refine wpList_append_own_at w hgd s x 23 ho base 9 i0 (.string ByteArray.empty) 1 16 Tryz.underlying23 gi gz0 gz1 gz2 rfl (by decide) v l.length (strCells l) hs hown ⟨g, 0, none⟩ m.length cap (strCells m) hx (by simp [strCells]) ?_ ?_ (by unfold maxLen; omega) (by omega) hbase ?_
    · intro j u hj
      rw [Addr.add_lit, Nat.zero_add]
      have hjl : j < m.length := by
        have := (List.getElem?_eq_some_iff.1 hj).1
        simpa [strCells] using this
      rw [hox.cellAt j (by omega)]
      exact hj
    · intro u hu
      obtain ⟨t, _, rfl⟩ := List.mem_map.1 hu
      rfl
    · intro v' w' h1 h2 _ h3
      refine h v' w' ?_ h2 h3
      simpa [strCells] using h1
/-- The labels of contracts, one behind the other. -/
def labL : List C → List ByteArray
  | [] => []
  | k :: l => k.labels ++ labL l
theorem labL_snoc (l : List C) (k : C) : labL (l ++ [k]) = labL l ++ k.labels := by
  induction l with
  | nil => simp [labL]
  | cons a l ih => simp [labL, ih]
theorem labels_kids (c : C) : c.labels = (if c.kind = 5 then [c.text] else []) ++ labL c.kids := by
  cases c <;> simp [C.labels, C.kind, C.text, C.kids, labL]
theorem labL_weight (l : List C) : (labL l).length ≤ weightL l := by
  induction l with
  | nil => simp [labL]
  | cons a l ih => have := labels_weight a; simp [labL, weightL]; omega
/-- What an assertion to one of api's types with two or three fields tells of a contract. -/
theorem or_part (c : C) (h : c.Ok) : ∃ (s : ByteArray) (l r : Value) (b : Bool), (∀ xT w, (Instr.typeAssert c.val xT 103 true).run Tryz.prog w = .ok (.tuple #[.agg #[.string s, l, r], .bool b]) w) ∧ One' l ∧ One' r ∧ ((b = true ∧ c.kind = 5 ∧ s = c.text) ∨ (b = false ∧ c.kind ≠ 5)) := by
  have hn : One' Value.nilIface := ⟨rfl, rfl⟩
  cases c with
  | or s l r => exact ⟨s, l.val, r.val, true, fun xT w => isOr _ xT w, l.one' h.2.1, r.one' h.2.2, .inl ⟨rfl, rfl, rfl⟩⟩
  | odd v =>
    rcases h with rfl | ⟨t, x, rfl, _, _, _, _, h5, _⟩
    · exact ⟨_, _, _, false, fun xT w => nilOr xT w, hn, hn, .inr ⟨rfl, by simp [C.kind]⟩⟩
    · exact ⟨_, _, _, false, fun xT w => notOr t x xT w h5, hn, hn, .inr ⟨rfl, by simp [C.kind]⟩⟩
  | _ => exact ⟨_, _, _, false, fun xT w => notOr _ _ xT w (by decide), hn, hn, .inr ⟨rfl, by simp [C.kind]⟩⟩
theorem scale_part (c : C) (h : c.Ok) : ∃ (l r : Value) (b : Bool), (∀ xT w, (Instr.typeAssert c.val xT 107 true).run Tryz.prog w = .ok (.tuple #[.agg #[l, r], .bool b]) w) ∧ One' l ∧ One' r ∧ ((b = true ∧ c.kind = 6) ∨ (b = false ∧ c.kind ≠ 6)) := by
  have hn : One' Value.nilIface := ⟨rfl, rfl⟩
  cases c with
  | scale o c => exact ⟨o.val, c.val, true, fun xT w => isScale _ xT w, o.one' h.1, c.one' h.2, .inl ⟨rfl, rfl⟩⟩
  | odd v =>
    rcases h with rfl | ⟨t, x, rfl, _, _, _, _, _, h6, _⟩
    · exact ⟨_, _, false, fun xT w => nilScale xT w, hn, hn, .inr ⟨rfl, by simp [C.kind]⟩⟩
    · exact ⟨_, _, false, fun xT w => notScale t x xT w h6, hn, hn, .inr ⟨rfl, by simp [C.kind]⟩⟩
  | _ => exact ⟨_, _, false, fun xT w => notScale _ _ xT w (by decide), hn, hn, .inr ⟨rfl, by simp [C.kind]⟩⟩
theorem if_part (c : C) (h : c.Ok) : ∃ (o l r : Value) (b : Bool), (∀ xT w, (Instr.typeAssert c.val xT 111 true).run Tryz.prog w = .ok (.tuple #[.agg #[o, l, r], .bool b]) w) ∧ One' o ∧ One' l ∧ One' r ∧ ((b = true ∧ c.kind = 8) ∨ (b = false ∧ c.kind ≠ 8)) := by
  have hn : One' Value.nilIface := ⟨rfl, rfl⟩
  cases c with
  | iff o l r => exact ⟨o.val, l.val, r.val, true, fun xT w => isIf _ xT w, o.one' h.1, l.one' h.2.1, r.one' h.2.2, .inl ⟨rfl, rfl⟩⟩
  | odd v =>
    rcases h with rfl | ⟨t, x, rfl, _, _, _, _, _, _, _, h8⟩
    · exact ⟨_, _, _, false, fun xT w => nilIf xT w, hn, hn, hn, .inr ⟨rfl, by simp [C.kind]⟩⟩
    · exact ⟨_, _, _, false, fun xT w => notIf t x xT w h8, hn, hn, hn, .inr ⟨rfl, by simp [C.kind]⟩⟩
  | _ => exact ⟨_, _, _, false, fun xT w => notIf _ _ xT w (by decide), hn, hn, hn, .inr ⟨rfl, by simp [C.kind]⟩⟩
theorem plain_parts (c : C) (h6 : c.kind ≠ 6) (h8 : c.kind ≠ 8) : c.nums = [] := by
  cases c <;> simp [C.nums, C.kind] at h6 h8 ⊢

end Go.Proofs.YtkioolbjmcpjpaaGreatDoor
namespace Go.Proofs.YtkioolbjmcpjpaaGreatDoor
open Go.RowKit
set_option linter.unusedVariables false

mutual
/-- The labels of a tree's Ors, in order. -/
def T.labs : T → List ByteArray
  | .mk kind s _ k => (if kind = 5 then [s] else []) ++ labsL k
def labsL : List T → List ByteArray
  | [] => []
  | t :: l => t.labs ++ labsL l
end
mutual
/-- How many trees there are in a tree. -/
def T.cnt : T → Nat
  | .mk _ _ _ k => cntL k + 1
def cntL : List T → Nat
  | [] => 0
  | t :: l => t.cnt + cntL l
end
theorem labsL_snoc (l : List T) (k : T) : labsL (l ++ [k]) = labsL l ++ k.labs := by
  induction l with
  | nil => simp [labsL]
  | cons a l ih => simp [labsL, ih]
theorem cntL_snoc (l : List T) (k : T) : cntL (l ++ [k]) = cntL l + k.cnt := by
  induction l with
  | nil => simp [cntL]
  | cons a l ih => simp [cntL, ih]; omega
theorem cntL_take (l : List T) (i : Nat) : cntL (l.take i) ≤ cntL l := by
  induction l generalizing i with
  | nil => simp [cntL]
  | cons a l ih => cases i with
    | zero => simp [cntL]
    | succ i => simp [cntL]; exact ih i
theorem cntL_mem (l : List T) (t : T) (h : t ∈ l) : t.cnt ≤ cntL l := by
  induction l with
  | nil => simp at h
  | cons a l ih =>
    simp only [List.mem_cons] at h
    simp only [cntL]
    rcases h with rfl | h
    · omega
    · have := ih h; omega
theorem labs_cnt : ∀ t : T, t.labs.length ≤ t.cnt := by
  intro t
  induction t using T.ind with
  | _ kind s n k ih =>
    have h : (labsL k).length ≤ cntL k := by
      induction k with
      | nil => simp [labsL]
      | cons a l ihl =>
        have h1 := ih a (by simp)
        have h2 := ihl (fun t ht => ih t (by simp [ht]))
        simp only [labsL, cntL, List.length_append]
        omega
    unfold T.labs T.cnt
    rw [List.length_append]
    split <;> simp <;> omega
theorem labsL_cnt (l : List T) : (labsL l).length ≤ cntL l := by
  induction l with
  | nil => simp [labsL]
  | cons a l ih => have := labs_cnt a; simp only [labsL, cntL, List.length_append]; omega

set_option maxHeartbeats 4000000 in
set_option maxRecDepth 100000 in
theorem refLabels_any (t : T) : t.cnt ≤ 999990 → ∀ (w : World) (v : Value), TIn w 0 t v → Calls Tryz.prog 86 #[v] w fun e w' => ∃ v', e = .returned v' ∧ w'.ownsRow w.heap.size 9 1 v' t.labs.length (strCells t.labs) ∧ Below w.heap.size w w' := by
  induction t using T.ind with
  | _ kind s n k ih =>
  intro hcnt w v hv
  have hkl := len_cap hv
  obtain ⟨a, cap, rfl, hc1, hc2, hK⟩ := hv
  simp only [T.kind, T.s, T.n, T.k] at hc1 hK hkl ⊢
  obtain ⟨i0, gi, gz0, gz1, gz2⟩ := info_parts infoStr
  have hct : (T.mk kind s n k).cnt = cntL k + 1 := by rw [T.cnt]
  rw [hct] at hcnt
  have HIH : Hid (∀ t ∈ k, ∀ (w : World) (v : Value), TIn w 0 t v → Calls Tryz.prog 86 #[v] w fun e w' => ∃ v', e = .returned v' ∧ w'.ownsRow w.heap.size 9 1 v' t.labs.length (strCells t.labs) ∧ Below w.heap.size w w') := fun t ht => ih t ht (by have := cntL_mem k t ht; omega)
  have HLT0 : Hid ((T.mk kind s n k).labs = (if kind = 5 then [s] else []) ++ labsL k) := by unfold Hid; rw [T.labs]
  have HK := hidIn hK
  have HCN := hidIn hcnt
  clear ih hK hct
  go_enter Tryz.func86, Tryz.ntmps86
  go_upto_if 7 with fail
  obtain ⟨W, hW⟩ : ∃ W, W = w.alloc (.cells #[.int .i64 kind, .string s, .int .i64 n, .slice a k.length cap] 33) := ⟨_, rfl⟩
  have HB : Hid (Below w.heap.size w W) := by rw [hW]; exact below_alloc (Below.refl _ _) _
  have HBK : Hid (W.heap[w.heap.size]? = some (.cells #[.int .i64 kind, .string s, .int .i64 n, .slice a k.length cap] 33 (0, 0))) := by rw [hW]; exact heap_alloc_new _ _
  rw [← hW]
  clear hW
  go_cut [3] (fun s3 wx => wx.ownsRow W.heap.size 9 1 s3 (if kind = 5 then [s] else []).length (strCells (if kind = 5 then [s] else [])) ∧ Below W.heap.size W wx)
  case first =>
    by_cases h5 : kind = 5
    · have h5' : (kind == 5) = true := by simp [h5]
      have hcl := (cell_of_row _ _ 1 _ _ _ HBK.out)
      rw [show (#[.int .i64 kind, .string s, .int .i64 n, .slice a k.length cap] : Array Value)[1]? = some (.string s) from rfl] at hcl
      have HIF : Hid ((if kind = 5 then [s] else []) = [s]) := by unfold Hid; rw [if_pos h5]
      clear h5
      go_wp2_with (first
        | (at_builtin; refine wpList_append_own _ rfl _ _ 23 rfl W.heap.size 9 i0 (.string ByteArray.empty) 1 16 Tryz.underlying23 gi gz0 gz1 gz2 rfl (by decide) _ _ _ rfl (World.ownsRow_nil _ _ _ _) ⟨W.heap.size, 0, none⟩ 1 1 [.string s] rfl rfl (cell_one_in rfl _ _) (by intro u hu; simp at hu; subst hu; rfl) (by unfold maxLen; omega) (by omega) (by simp) ?_; intro v2 w2 hown2 hgrow2 _)
        | go_in)
      go_meet
      case rel =>
        have h1 : Below W.heap.size W (W.alloc (.cells #[.string s] 9)) := below_alloc (Below.refl _ _) _
        exact ⟨by rw [HIF.out]; simpa [strCells] using hown2, h1.grown hgrow2 (by simp) (fun j hj => by cases hj)⟩
    · have h5' : (kind == 5) = false := by simp [h5]
      have HIF : Hid ((if kind = 5 then [s] else []) = ([] : List ByteArray)) := by unfold Hid; rw [if_neg h5]
      clear h5
      go_wp2_with fail
      go_meet
      case rel => exact ⟨by rw [HIF.out]; exact World.ownsRow_nil _ _ _ _, Below.refl _ _⟩
  case rest =>
    obtain ⟨hrow, hbx⟩ := hcut
    generalize hl0 : (if kind = 5 then [s] else []) = l0 at *
    have hl1 : l0.length ≤ 1 := by rw [← hl0]; split <;> simp
    clear hl0
    have HROW0 := hidIn hrow
    have HBX := hidIn hbx
    have HG : Hid (∀ X, Below W.heap.size W X → X.cell? ⟨w.heap.size, 3, none⟩ = some (.slice a k.length cap)) := fun X hX => (cell_of_row _ _ _ _ _ _ ((hX.block _ (Array.getElem?_eq_some_iff.1 HBK.out).1).trans HBK.out)).trans rfl
    have HKW : Hid (KAt W 0 k a 0) := HK.out.below HB.out
    have g3 := HG.out wc hbx
    clear hrow hbx HBK HK
    go_wp2_with fail
    clear g3
    go_loopw [16, 3] (fun s16 s3 wr => ∃ i : Nat, i ≤ k.length ∧ s16 = .int .i64 i ∧ wr.ownsRow W.heap.size 9 1 s3 (l0 ++ labsL (k.take i)).length (strCells (l0 ++ labsL (k.take i))) ∧ Below W.heap.size W wr) (fun s16 _ _ => k.length - (intOf s16).toNat)
    case atStart => exact ⟨0, by omega, rfl, by simpa [labsL] using HROW0.out, HBX.out⟩
    case round =>
      clear HROW0 HBX
      obtain ⟨i, hi, rfl, hrow, hbr⟩ := hrel
      have HROW := hidIn hrow
      have HBR := hidIn hbr
      by_cases hlt : i < k.length
      · have hlt' : (i : Int) < (k.length : Int) := by omega
        obtain ⟨t, hti⟩ : ∃ t, k[i]? = some t := ⟨_, List.getElem?_eq_getElem hlt⟩
        obtain ⟨b, o, ka, ca, rfl, c0, c1, c2, c3, ht⟩ := (HKW.out.below hbr).cells hti
        have g3 := HG.out wr hbr
        have HM : Hid (t ∈ k) := List.mem_of_getElem? hti
        have HTI := hidIn ht
        have htk := take_more _ _ _ hti
        have HT3 : Hid (l0 ++ labsL (k.take (i + 1)) = (l0 ++ labsL (k.take i)) ++ t.labs) := by unfold Hid; rw [htk, labsL_snoc, List.append_assoc]
        have HLEN : Hid ((l0 ++ labsL (k.take i)).length + t.labs.length ≤ 1000000) := by
          have h1 := labs_cnt t
          have h2 := labsL_cnt (k.take i)
          have h3 := cntL_take k (i + 1)
          rw [htk, cntL_snoc] at h3
          have := HCN.out
          rw [List.length_append]
          show _ ≤ _
          omega
        clear hti htk ht hrow hbr
        generalize l0 ++ labsL (k.take i) = L at *
        go_wp2_with fail
        refine (HIH.out t HM.out wr _ HTI.out).mono ?_
        rintro e w4 ⟨v4, rfl, hrow4, hb4⟩
        have HB4 := hidIn (HBR.out.trans (hb4.mono HBR.out.size))
        have HROW4 := hidIn (ownsRow_below HROW.out hb4)
        have HNEW := hidIn hrow4
        clear hb4 hrow4 c0 c1 c2 c3 g3 HTI
        go_wp2_with (first
          | (at_builtin; refine wpList_append_rows _ rfl _ _ rfl W.heap.size _ L rfl HROW4.out wr.heap.size _ t.labs rfl HNEW.out HLEN.out HB4.out.size ?_; intro v5 w5 hown5 hgrow5 hloc5)
          | go_in)
        have HB5 : Hid (Below W.heap.size W w5) := HB4.out.grown hgrow5 HB4.out.size (fun j hj => (HROW4.out.lt j hj).1)
        have HOWN5 := hidIn hown5
        clear hown5 hgrow5 hloc5
        go_wp2_with fail
        go_roundw
        case rel => exact ⟨i + 1, by omega, by go_num, by rw [HT3.out]; exact HOWN5.out, HB5.out⟩
        case measure => simp [intOf]; omega
      · have hle : i = k.length := by omega
        subst hle
        have HE : Hid (wr.ownsRow W.heap.size 9 1 u3 (l0 ++ labsL k).length (strCells (l0 ++ labsL k))) := by have h := HROW.out; rw [List.take_length] at h; exact h
        clear hrow HROW hbr
        go_wp2_with fail
        go_ret
        refine ⟨_, rfl, ?_, HB.out.trans (HBR.out.mono HB.out.size)⟩
        rw [HLT0.out]
        exact ownsRow_base HE.out HB.out.size

end Go.Proofs.YtkioolbjmcpjpaaGreatDoor
namespace Go.Proofs.YtkioolbjmcpjpaaGreatDoor
open Go.RowKit
set_option linter.unusedVariables false

theorem addAll_len : ∀ (l acc : List ByteArray), (addAll acc l).length < acc.length + l.length ↔ ¬ (l.Nodup ∧ ∀ s ∈ l, s ∉ acc) := by
  intro l
  induction l with
  | nil => intro acc; simp [addAll]
  | cons s l ih =>
    intro acc
    show (addAll (addN acc s) l).length < _ ↔ _
    by_cases hs : s ∈ acc
    · rw [addN_twice acc s hs]
      have h := addAll_length l acc
      constructor
      · intro _ hn
        exact hn.2 s (by simp) hs
      · intro _
        simp only [List.length_cons]
        omega
    · have e : addN acc s = acc ++ [s] := by
        unfold addN
        rw [if_neg (fun e => hs ((inN_iff acc s).1 e))]
      have h := ih (acc ++ [s])
      rw [e]
      have hl : (acc ++ [s]).length + l.length = acc.length + (s :: l).length := by simp; omega
      rw [hl] at h
      rw [h]
      constructor
      · intro hn hc
        apply hn
        refine ⟨(List.nodup_cons.1 hc.1).2, fun x hx => ?_⟩
        simp only [List.mem_append, List.mem_singleton, not_or]
        exact ⟨hc.2 x (by simp [hx]), fun ex => (List.nodup_cons.1 hc.1).1 (ex ▸ hx)⟩
      · intro hn hc
        apply hn
        refine ⟨List.nodup_cons.2 ⟨fun hx => ?_, hc.1⟩, fun x hx => ?_⟩
        · have := hc.2 s hx
          simp at this
        · simp only [List.mem_cons] at hx
          rcases hx with rfl | hx
          · exact hs
          · have := hc.2 x hx
            simp only [List.mem_append, List.mem_singleton, not_or] at this
            exact this.1
theorem twice_iff (l : List ByteArray) : twice l = true ↔ ¬ l.Nodup := by
  have h := addAll_len l []
  simp only [List.length_nil, Nat.zero_add, List.not_mem_nil, not_false_eq_true, implies_true, and_true] at h
  unfold twice
  rw [decide_eq_true_iff]
  exact h
/-- What the document's Check answers. -/
def chkT (t : T) (nb : Bool) : Int := if formT t nb = true then (if 60 < t.nodes ∨ 12 < t.depth then 5 else if twice t.labs = true then 4 else 0) else 2
theorem nodup_take {l : List ByteArray} {i : Nat} {s : ByteArray} (h : (l.take i).Nodup) (hs : l[i]? = some s) (hn : ∀ b, b < i → l[b]? ≠ some s) : (l.take (i + 1)).Nodup := by
  rw [take_more _ _ _ hs, List.nodup_append]
  refine ⟨h, by simp, fun x hx y hy => ?_⟩
  simp at hy
  subst hy
  intro e
  subst e
  obtain ⟨b, hb, he⟩ := List.mem_iff_getElem.1 hx
  rw [List.length_take] at hb
  refine hn b (by omega) ?_
  rw [← he, List.getElem_take]
  exact List.getElem?_eq_getElem (by omega)
theorem nodup_get {l : List ByteArray} (h : l.Nodup) {i j : Nat} {s : ByteArray} (hi : l[i]? = some s) (hj : l[j]? = some s) : i = j := by
  obtain ⟨h1, e1⟩ := List.getElem?_eq_some_iff.1 hi
  obtain ⟨h2, e2⟩ := List.getElem?_eq_some_iff.1 hj
  exact (List.getElem_inj h).1 (e1.trans e2.symm)

set_option maxHeartbeats 4000000 in
set_option maxRecDepth 100000 in
theorem refCheck_any (t : T) (hsz : t.Sized) (hcnt : t.cnt ≤ 999990) (hnd : t.nodes ≤ 1000000) (nb : Bool) (w : World) (v : Value) (hv : TIn w 0 t v) : Calls Tryz.prog 50 #[v, .bool nb] w fun e w' => e = .returned (.int .i64 (chkT t nb)) ∧ Below w.heap.size w w' := by
  have HV := hidIn hv
  have hdn := T_depth_nodes t
  obtain ⟨a, cap, rfl, hc1, hc2, hK⟩ := hv
  have HSZ := hidIn hsz
  have HLN := hidIn (labs_cnt t)
  have HCN := hidIn hcnt
  obtain ⟨W, hW⟩ : ∃ W, W = w.alloc (.cells #[.int .i64 t.kind, .string t.s, .int .i64 t.n, .slice a t.k.length cap] 33) := ⟨_, rfl⟩
  have HB : Hid (Below w.heap.size w W) := by rw [hW]; exact below_alloc (Below.refl _ _) _
  have HBK : Hid (W.heap[w.heap.size]? = some (.cells #[.int .i64 t.kind, .string t.s, .int .i64 t.n, .slice a t.k.length cap] 33 (0, 0))) := by rw [hW]; exact heap_alloc_new _ _
  have HF : Hid (∀ X, Below W.heap.size W X → (X.cell? ⟨w.heap.size, 0, none⟩ = some (.int .i64 t.kind) ∧ X.cell? ⟨w.heap.size, 1, none⟩ = some (.string t.s) ∧ X.cell? ⟨w.heap.size, 2, none⟩ = some (.int .i64 t.n) ∧ X.cell? ⟨w.heap.size, 3, none⟩ = some (.slice a t.k.length cap)) ∧ TIn X 0 t (.agg #[.int .i64 t.kind, .string t.s, .int .i64 t.n, .slice a t.k.length cap])) := fun X hX => by
    have h := (hX.block _ (Array.getElem?_eq_some_iff.1 HBK.out).1).trans HBK.out
    exact ⟨⟨(cell_of_row _ _ _ _ _ _ h).trans rfl, (cell_of_row _ _ _ _ _ _ h).trans rfl, (cell_of_row _ _ _ _ _ _ h).trans rfl, (cell_of_row _ _ _ _ _ _ h).trans rfl⟩, (HV.out.below HB.out).below hX⟩
  clear hK hsz hcnt
  go_enter Tryz.func50, Tryz.ntmps50
  go_wp2_with fail
  rw [← hW]
  clear hW HBK HV
  refine (form_any t HSZ.out nb W _ (HF.out W (Below.refl _ _)).2).mono ?_
  rintro e w1 ⟨rfl, hb1⟩
  obtain ⟨⟨c0, c1, c2, c3⟩, t1⟩ := HF.out w1 hb1
  have HT1 := hidIn t1
  have HB1 := hidIn hb1
  clear t1 hb1
  cases hf : formT t nb
  · go_wp2_with fail
    go_ret
    exact ⟨by unfold chkT; rw [if_neg (by rw [hf]; simp)]; rfl, HB.out.trans (HB1.out.mono HB.out.size)⟩
  · have HC : Hid (chkT t nb = if 60 < t.nodes ∨ 12 < t.depth then 5 else if twice t.labs = true then 4 else 0) := by unfold Hid chkT; rw [if_pos hf]
    go_wp2_with fail
    refine (refSize_any t w1 _ HT1.out hnd).mono ?_
    rintro e w2 ⟨rfl, hb2⟩
    have hx2 := HB1.out.trans (hb2.mono HB1.out.size)
    have HX2 := hidIn hx2
    obtain ⟨⟨d0, d1, d2, d3⟩, t2⟩ := HF.out w2 hx2
    have HT2 := hidIn t2
    have HB2 := hidIn (HB.out.trans (hx2.mono HB.out.size))
    clear t2 hb2 hx2 c0 c1 c2 c3
    by_cases h1 : 60 < t.nodes
    · have h1' : (60 : Int) < (t.nodes : Int) := by omega
      go_wp2_with fail
      go_ret
      exact ⟨by rw [HC.out, if_pos (.inl h1)]; rfl, HB2.out⟩
    · have h1' : ¬ (60 : Int) < (t.nodes : Int) := by omega
      have h1d : decide ((60 : Int) < (t.nodes : Int)) = false := by simpa using h1'
      by_cases h2 : 12 < t.depth
      · have h2' : (12 : Int) < (t.depth : Int) := by omega
        go_wp2_with fail
        go_ret
        exact ⟨by rw [HC.out, if_pos (.inr h2)]; rfl, HB2.out⟩
      · have h2' : ¬ (12 : Int) < (t.depth : Int) := by omega
        have HC2 : Hid (chkT t nb = if twice t.labs = true then 4 else 0) := by unfold Hid; rw [HC.out, if_neg (by omega)]
        go_wp2_with fail
        refine (refLabels_any t HCN.out w2 _ HT2.out).mono ?_
        rintro e w3 ⟨v3, rfl, hrow3, hb3⟩
        have HB3 := hidIn (HB2.out.trans (hb3.mono HB2.out.size))
        obtain ⟨ao, lc, rfl, htx, hll, _⟩ := own_txt hrow3
        have HTX := hidIn htx
        have hlen : t.labs.length ≤ 1000000 := by have := HLN.out; have := HCN.out; omega
        clear hrow3 hb3 htx d0 d1 d2 d3 HC HT1 HT2 HX2 HB2
        generalize t.labs = l at *
        go_wp2_with fail
        go_loopw [29] (fun s29 wr => ∃ i : Nat, i ≤ l.length ∧ s29 = .int .i64 i ∧ Hid ((l.take i).Nodup) ∧ Below w3.heap.size w3 wr) (fun s29 _ => l.length - (intOf s29).toNat)
        case atStart => exact ⟨0, by omega, rfl, by unfold Hid; simp, Below.refl _ _⟩
        case round =>
          obtain ⟨i, hi, rfl, HN, hbr⟩ := hrel
          obtain ⟨wA, hwA⟩ : ∃ y, y = wr := ⟨_, rfl⟩
          subst hwA
          have HBA := hidIn hbr
          clear hbr
          by_cases hlt : i < l.length
          · have hlt' : (i : Int) < (l.length : Int) := by omega
            obtain ⟨s, hs⟩ : ∃ s, l[i]? = some s := ⟨_, List.getElem?_eq_getElem hlt⟩
            have HS := hidIn hs
            clear hs
            go_wp2_with fail
            go_loopw [9] (fun s9 wr => ∃ j : Nat, j ≤ i ∧ s9 = .int .i64 j ∧ Hid (∀ b, b < j → l[b]? ≠ some s) ∧ Below w3.heap.size w3 wr) (fun s9 _ => i - (intOf s9).toNat)
            case atStart => exact ⟨0, by omega, rfl, by intro b hb; omega, HBA.out⟩
            case round =>
              obtain ⟨j, hj, rfl, HJ, hbr⟩ := hrel
              by_cases hjl : j < i
              · have hjl' : (j : Int) < (i : Int) := by omega
                have hjl2 : (j : Int) < (l.length : Int) := by omega
                obtain ⟨y, hy⟩ : ∃ y, l[j]? = some y := ⟨_, List.getElem?_eq_getElem (by omega)⟩
                obtain ⟨g, rfl, k0⟩ := (HTX.out.below hbr) i s HS.out
                obtain ⟨g', eg, k1⟩ := (HTX.out.below hbr) j y hy
                have hgg : g' = g := by injection eg with eg; injection eg with eg; exact eg.symm
                subst hgg
                have HY := hidIn hy
                clear hy eg
                by_cases he : s = y
                · subst he
                  have HTW : Hid (twice l = true) := (twice_iff l).2 (fun hn => by have := nodup_get hn HS.out HY.out; omega)
                  go_wp2_with fail
                  go_quiet (fail)
                  go_wp2_with fail
                  go_ret
                  exact ⟨by rw [HC2.out, HTW.out]; rfl, HB3.out.trans ((below_drewN hbr _).mono HB3.out.size)⟩
                · have he' : ¬ s.toList = y.toList := fun e => he (toList_inj e)
                  have heb : (s.toList == y.toList) = false := by rw [beq_eq_false_iff_ne]; exact he'
                  go_wp2_with fail
                  go_quiet (fail)
                  go_wp2_with fail
                  go_roundw
                  case rel =>
                    refine ⟨j + 1, by omega, by go_num, fun b hb => ?_, below_drewN hbr _⟩
                    by_cases hbj : b = j
                    · subst hbj
                      rw [HY.out]
                      intro e
                      injection e with e
                      exact he e.symm
                    · exact HJ.out b (by omega)
                  case measure => simp [intOf]; omega
              · have hji : j = i := by omega
                subst hji
                have HN2 : Hid ((l.take (j + 1)).Nodup) := nodup_take HN.out HS.out HJ.out
                clear HJ HN hjl
                go_wp2_with fail
                go_roundw
                case rel => exact ⟨j + 1, by omega, by go_num, HN2, hbr⟩
                case measure => simp [intOf]; omega
          · have hle : i = l.length := by omega
            subst hle
            have HTW : Hid (twice l = false) := by
              have h := HN.out
              rw [List.take_length] at h
              show twice l = false
              cases ht : twice l
              · rfl
              · exact absurd h ((twice_iff l).1 ht)
            clear HN hlt
            go_wp2_with fail
            go_ret
            exact ⟨by rw [HC2.out, HTW.out]; rfl, HB3.out.trans (HBA.out.mono HB3.out.size)⟩

end Go.Proofs.YtkioolbjmcpjpaaGreatDoor
namespace Go.Proofs.YtkioolbjmcpjpaaGreatDoor
open Go.RowKit
set_option linter.unusedVariables false

theorem plain_labs (o : O) : (plain o).labs = [] := by
  induction o <;> simp_all [plain, T.labs, labsL]
theorem plain_cnt (o : O) : (plain o).cnt ≤ 2 * o.nodes + 1 := by
  induction o <;> simp only [plain, T.cnt, cntL, O.nodes] at * <;> omega
theorem plain_sized (o : O) (h : o.Ok) : (plain o).Sized := by
  have he : (⟨#[]⟩ : ByteArray).size ≤ 2147483648 := by decide
  induction o with
  | const n => simp only [plain, T.Sized, SizedL]; exact ⟨he, trivial⟩
  | fix s => simp only [plain, T.Sized, SizedL]; exact ⟨h, trivial⟩
  | odd v => simp only [plain, T.Sized, SizedL]; exact ⟨he, trivial⟩
  | neg o h1 => simp only [plain, T.Sized, SizedL]; exact ⟨he, h1 h, trivial⟩
  | add l r h1 h2 => simp only [plain, T.Sized, SizedL]; exact ⟨he, h1 h.1, h2 h.2, trivial⟩
  | mul l r h1 h2 => simp only [plain, T.Sized, SizedL]; exact ⟨he, h1 h.1, h2 h.2, trivial⟩
  | max l r h1 h2 => simp only [plain, T.Sized, SizedL]; exact ⟨he, h1 h.1, h2 h.2, trivial⟩
theorem plain_form (o : O) : formT (plain o) true = formB o := by
  induction o <;> simp_all [plain, formT, formTL, headOk, partB, formB]

end Go.Proofs.YtkioolbjmcpjpaaGreatDoor
namespace Go.Proofs.YtkioolbjmcpjpaaGreatDoor
open Go.RowKit
set_option linter.unusedVariables false

/-- How far a contract goes. -/
def rC : Nat → Nat
  | 0 => 40
  | d + 1 => 4 * rC d + 40
theorem rC_pos : ∀ d, 40 ≤ rC d
  | 0 => Nat.le_refl _
  | d + 1 => by have := rC_pos d; simp only [rC]; omega
theorem rC_le (d : Nat) (h : d ≤ 5) : rC d ≤ 60000 := by
  have : d = 0 ∨ d = 1 ∨ d = 2 ∨ d = 3 ∨ d = 4 ∨ d = 5 := by omega
  rcases this with rfl | rfl | rfl | rfl | rfl | rfl <;> decide
theorem reach_min (d : Nat) : reach (min d 2) ≤ 11 := by
  have : min d 2 = 0 ∨ min d 2 = 1 ∨ min d 2 = 2 := by omega
  rcases this with h | h | h <;> rw [h] <;> decide
theorem conO_reach (p : Pl) : ∀ d i left label, (conO p d i left label).2.1 ≤ i + rC d ∧ left - rC d ≤ (conO p d i left label).2.2.1 ∧ (conO p d i left label).2.2.1 ≤ left ∧ (conO p d i left label).2.2.2 ≤ label + rC d := by
  intro d
  induction d with
  | zero =>
    intro i left label
    unfold conO
    simp only [rC]
    split <;> simp only <;> omega
  | succ d ih =>
    intro i left label
    have hr := rC_pos d
    have h1 := ih (i + 1) (left - 1) label
    have h2 := ih (conO p d (i + 1) (left - 1) label).2.1 (conO p d (i + 1) (left - 1) label).2.2.1 (conO p d (i + 1) (left - 1) label).2.2.2
    have h3 := ih (i + 2) (left - 1) (label + 1)
    have h4 := ih (conO p d (i + 2) (left - 1) (label + 1)).2.1 (conO p d (i + 2) (left - 1) (label + 1)).2.2.1 (conO p d (i + 2) (left - 1) (label + 1)).2.2.2
    have h5 := ih (i + 2) (left - 1) label
    have ho := numO_reach p (min d 2) (i + 1) (left - 1)
    have hm := reach_min d
    have h6 := ih (numO p (min d 2) (i + 1) (left - 1)).2.1 (numO p (min d 2) (i + 1) (left - 1)).2.2 label
    have h7 := ih (conO p d (numO p (min d 2) (i + 1) (left - 1)).2.1 (numO p (min d 2) (i + 1) (left - 1)).2.2 label).2.1 (conO p d (numO p (min d 2) (i + 1) (left - 1)).2.1 (numO p (min d 2) (i + 1) (left - 1)).2.2 label).2.2.1 (conO p d (numO p (min d 2) (i + 1) (left - 1)).2.1 (numO p (min d 2) (i + 1) (left - 1)).2.2 label).2.2.2
    unfold conO
    simp only [rC]
    split
    · simp only; omega
    · split
      · simp only; omega
      · split
        · simp only; omega
        · split
          · simp only; omega
          · split
            · simp only; omega
            · split
              · simp only; omega
              · split
                · simp only; omega
                · simp only; omega

theorem mterm_any (w0 : World) (M : Nat) (p : Pl) : ∀ d, d ≤ 5 → LessC w0 M p d (rC d) := by
  intro d
  induction d with
  | zero =>
    intro _ w i left label h hi hl1 hl2 hlb
    have hk := kT_zero p i left
    simp only [rC] at hi hl1 hlb
    exact mterm_leaf w0 w M p 0 i left label h (by omega) (by omega) hl2 (by omega) hk _ rfl
  | succ d ih =>
    intro hd w i left label h hi hl1 hl2 hlb
    have hr := rC_pos d
    have hr2 := rC_le d (by omega)
    have ih' := ih (by omega)
    have hb1 := conO_reach p d
    simp only [rC] at hi hl1 hlb
    have hk := kT_lt p (d + 1) i left
    by_cases h2 : kT p (d + 1) i left ≤ 2
    · have := mterm_leaf w0 w M p (d + 1) i left label h (by omega) (by omega) hl2 (by omega) h2 _ rfl
      have e : conO p (d + 1) i left label = if kT p (d + 1) i left ≤ 1 then (.one (curOf p (i + 1)), i + 2, left - 1, label) else (.zero, i + 1, left - 1, label) := by
        rw [conO]
        split
        · rfl
        · rw [if_pos (by omega)]
      rw [e]
      exact this
    · by_cases h4 : kT p (d + 1) i left ≤ 4
      · exact mterm_give w0 w M p d i left label (rC d) ih' h (by omega) (by omega) (by omega) hl2 (by omega) (by omega) hb1 (by omega) _ rfl
      by_cases h6 : kT p (d + 1) i left ≤ 6
      · exact mterm_and w0 w M p d i left label (rC d) ih' h (by omega) (by omega) (by omega) hl2 (by omega) (by omega) hb1 (by omega) _ rfl
      by_cases h8 : kT p (d + 1) i left ≤ 8
      · exact mterm_or w0 w M p d i left label (rC d) ih' h (by omega) (by omega) (by omega) hl2 (by omega) (by omega) hb1 (by omega) _ rfl
      by_cases h10 : kT p (d + 1) i left ≤ 10
      · exact mterm_scale w0 w M p d i left label (rC d) ih' h (by omega) (by omega) (by omega) hl2 (by omega) (by omega) hb1 (by omega) _ rfl
      by_cases h11 : kT p (d + 1) i left = 11
      · exact mterm_when w0 w M p d i left label (rC d) ih' h (by omega) (by omega) (by omega) hl2 (by omega) (by omega) hb1 h11 _ rfl
      · exact mterm_iff w0 w M p d i left label (rC d) ih' h (by omega) (by omega) (by omega) hl2 (by omega) (by omega) hb1 (by omega) _ rfl

/-- A contract in which nothing is none. -/
def C.whole : C → Prop
  | .zero => True
  | .one s => s.size ≤ 2147483648
  | .give c => c.whole
  | .and l r => l.whole ∧ r.whole
  | .or s l r => s.size ≤ 2147483648 ∧ l.whole ∧ r.whole
  | .scale o c => o.whole ∧ c.whole
  | .when d c => (-9223372036854775808 ≤ d ∧ d ≤ 9223372036854775807) ∧ c.whole
  | .iff o l r => o.whole ∧ l.whole ∧ r.whole
  | .odd _ => False
theorem cwhole_ok (c : C) (h : c.whole) : c.Ok := by
  induction c with
  | zero => trivial
  | one s => exact h
  | give c h1 => exact h1 h
  | and l r h1 h2 => exact ⟨h1 h.1, h2 h.2⟩
  | or s l r h1 h2 => exact ⟨h.1, h1 h.2.1, h2 h.2.2⟩
  | scale o c h1 => exact ⟨whole_ok o h.1, h1 h.2⟩
  | when d c h1 => exact ⟨h.1, h1 h.2⟩
  | iff o l r h1 h2 => exact ⟨whole_ok o h.1, h1 h.2.1, h2 h.2.2⟩
  | odd v => exact absurd h id
theorem conO_whole (p : Pl) : ∀ d i left label, (conO p d i left label).1.whole ∧ (conO p d i left label).1.weight + 10 ≤ 20 * 2 ^ d := by
  have hn : ∀ d i left, (numO p (min d 2) i left).1.whole ∧ (numO p (min d 2) i left).1.nodes ≤ 7 := fun d i left => by
    have h := numO_whole p (min d 2) i left
    refine ⟨h.1, ?_⟩
    have h2 : 2 ^ (min d 2 + 1) ≤ 8 := by
      have : min d 2 = 0 ∨ min d 2 = 1 ∨ min d 2 = 2 := by omega
      rcases this with e | e | e <;> rw [e] <;> decide
    have := h.2.1
    omega
  intro d
  induction d with
  | zero =>
    intro i left label
    unfold conO
    split
    · exact ⟨by show (curOf p (i + 1)).size ≤ _; have := curOf_size p (i + 1); omega, by simp [C.weight]⟩
    · exact ⟨trivial, by simp [C.weight]⟩
  | succ d ih =>
    intro i left label
    have hp : 1 ≤ 2 ^ d := Nat.one_le_two_pow
    have hp2 : 2 ^ (d + 1) = 2 * 2 ^ d := by rw [Nat.pow_succ]; omega
    have h1 := ih (i + 1) (left - 1) label
    have h2 := ih (conO p d (i + 1) (left - 1) label).2.1 (conO p d (i + 1) (left - 1) label).2.2.1 (conO p d (i + 1) (left - 1) label).2.2.2
    have h3 := ih (i + 2) (left - 1) (label + 1)
    have h4 := ih (conO p d (i + 2) (left - 1) (label + 1)).2.1 (conO p d (i + 2) (left - 1) (label + 1)).2.2.1 (conO p d (i + 2) (left - 1) (label + 1)).2.2.2
    have h5 := ih (i + 2) (left - 1) label
    have ho := hn d (i + 1) (left - 1)
    have h6 := ih (numO p (min d 2) (i + 1) (left - 1)).2.1 (numO p (min d 2) (i + 1) (left - 1)).2.2 label
    have h7 := ih (conO p d (numO p (min d 2) (i + 1) (left - 1)).2.1 (numO p (min d 2) (i + 1) (left - 1)).2.2 label).2.1 (conO p d (numO p (min d 2) (i + 1) (left - 1)).2.1 (numO p (min d 2) (i + 1) (left - 1)).2.2 label).2.2.1 (conO p d (numO p (min d 2) (i + 1) (left - 1)).2.1 (numO p (min d 2) (i + 1) (left - 1)).2.2 label).2.2.2
    unfold conO
    rw [hp2]
    split
    · exact ⟨by show (curOf p (i + 1)).size ≤ _; have := curOf_size p (i + 1); omega, by simp only [C.weight]; omega⟩
    · split
      · exact ⟨trivial, by simp only [C.weight]; omega⟩
      · split
        · exact ⟨h1.1, by simp only [C.weight]; omega⟩
        · split
          · exact ⟨⟨h1.1, h2.1⟩, by simp only [C.weight]; omega⟩
          · split
            · refine ⟨⟨?_, h3.1, h4.1⟩, by simp only [C.weight]; omega⟩
              split
              · decide
              · have := chT_size (label + 1); omega
            · split
              · exact ⟨⟨ho.1, h6.1⟩, by simp only [C.weight]; omega⟩
              · split
                · exact ⟨⟨⟨by omega, by omega⟩, h5.1⟩, by simp only [C.weight]; omega⟩
                · exact ⟨⟨ho.1, h6.1, h7.1⟩, by simp only [C.weight]; omega⟩
/-- The contract of a plan. -/
def conP (p : Pl) : C := (conO p 5 0 24 0).1
theorem conP_whole (p : Pl) : (conP p).whole := (conO_whole p 5 0 24 0).1
theorem conP_weight (p : Pl) : (conP p).weight ≤ 630 := by have := (conO_whole p 5 0 24 0).2; simp at this; unfold conP; omega

set_option maxHeartbeats 1000000 in
set_option maxRecDepth 100000 in
theorem contract_any (p : Pl) (w : World) (h : PlanIn w p) : Calls Tryz.prog 49 #[planV p] w fun e w' => ∃ v, e = .returned v ∧ TIn w' w.heap.size (plainC (conP p)) v ∧ Below w.heap.size w w' := by
  unfold planV
  have HP : Hid (PlanIn w p) := h
  clear h
  go_enter Tryz.func49, Tryz.ntmps49
  go_wp2_with fail
  obtain ⟨W, hW⟩ : ∃ W, W = ((w.alloc (.cells #[.slice p.na p.nl p.nc, .slice p.wa p.wl p.wc] 25)).alloc (.cells #[.int .i64 0, .string ⟨#[]⟩, .int .i64 0, .slice none 0 0] 33)).alloc (.cells #[.slice p.na p.nl p.nc, .slice p.wa p.wl p.wc, .int .i64 0, .int .i64 24, .int .i64 0] 173) := ⟨_, rfl⟩
  have hWs : W.heap.size = w.heap.size + 3 := by rw [hW]; simp
  have HB : Hid (Below w.heap.size w W) := by rw [hW]; exact below_alloc (below_alloc (below_alloc (Below.refl _ _) _) _) _
  have HMI : Hid (MIn w W (w.heap.size + 1 + 1) p 0 24 (0 : Nat)) := by
    refine ⟨HP.out, by omega, HB.out, ?_⟩
    rw [hW]
    exact blk_new (by simp)
  have HZ : Hid (Blk W (w.heap.size + 1) 33 zeroT) := by
    rw [hW]
    exact (Below.heap_alloc _ _ _ (by simp)).trans (blk_new (by simp))
  rw [← hW]
  clear hW
  have hr5 := rC_le 5 (by omega)
  have HC := mterm_any w (w.heap.size + 1 + 1) p 5 (by omega) W 0 24 0 HMI.out (by omega) (by omega) (by omega) (by omega)
  refine HC.mono ?_
  rintro e w5 ⟨v, rfl, ht5, hm5, hg5⟩
  clear HC
  have ht5' := ht5
  obtain ⟨la, lc, rfl, _, _, _⟩ := ht5'
  have HZ5 : Hid (Blk w5 (w.heap.size + 1) 33 zeroT) := HZ.out.grew hg5 (by omega)
  obtain ⟨⟨z0, z1, z2, z3⟩, f0, f1, f2, f3⟩ := blk_zero HZ5.out
  have HB5 : Hid (Below w.heap.size w w5) := HB.out.trans (hg5.below (by omega) (by omega) (fun k hk => by cases hk))
  have HT5 : Hid (TIn w5 W.heap.size (plainC (conP p)) (.agg #[.int .i64 (plainC (conP p)).kind, .string (plainC (conP p)).s, .int .i64 (plainC (conP p)).n, .slice la (plainC (conP p)).k.length lc])) := ht5
  have HWS : Hid (W.heap.size = w.heap.size + 3) := hWs
  clear ht5 hm5 hg5 HZ HMI hWs HB
  rw [show (conO p 5 0 24 0).1 = conP p from rfl]
  go_wp2_with fail
  refine bodyPost_ret (results_cell_row rfl _ _ (w.heap.size + 1) 33 #[.int .i64 (plainC (conP p)).kind, .string (plainC (conP p)).s, .int .i64 (plainC (conP p)).n, .slice la (plainC (conP p)).k.length lc] (0, 0) _ rfl (set4_blk HZ5.out _ _ _ _) Tryz.underlying33 rfl infoT) rfl ?_
  have hs := HWS.out
  refine ⟨_, rfl, (HT5.out.set4 (R := w.heap.size + 1) (by omega) _ _ _ _).low (by omega), ?_⟩
  exact (((HB5.out.setCell (Nat.le_succ _) _).setCell (Nat.le_succ _) _).setCell (Nat.le_succ _) _).setCell (Nat.le_succ _) _

end Go.Proofs.YtkioolbjmcpjpaaGreatDoor
namespace Go.Proofs.YtkioolbjmcpjpaaGreatDoor
open Go.RowKit
set_option linter.unusedVariables false

theorem sc_plain (c : C) (h : c.Ok) : SC (plainC c) := by
  induction c with
  | zero => exact .leaf _ _ _ _ (by omega) (by decide)
  | one s => exact .leaf _ _ _ _ (by omega) h
  | give c h1 => exact .give _ _ _ (h1 h)
  | and l r h1 h2 => exact .and _ _ _ _ (h1 h.1) (h2 h.2)
  | or s l r h1 h2 => exact .or _ _ _ _ h.1 (h1 h.2.1) (h2 h.2.2)
  | scale o c h1 => exact .scale _ _ _ _ (shaped_plain o h.1) (h1 h.2)
  | when d c h1 => exact .when _ _ _ h.1 (h1 h.2)
  | iff o l r h1 h2 => exact .iff _ _ _ _ _ (shaped_plain o h.1) (h1 h.2.1) (h2 h.2.2)
  | odd v => exact .leaf _ _ _ _ (by omega) (by decide)
theorem termOf_whole (c : C) (h : c.whole) : termOf (plainC c) = c := by
  induction c with
  | zero => rfl
  | one s => rfl
  | give c h1 => show C.give (termOf (plainC c)) = _; rw [h1 h]
  | and l r h1 h2 => show C.and (termOf (plainC l)) (termOf (plainC r)) = _; rw [h1 h.1, h2 h.2]
  | or s l r h1 h2 => show C.or s (termOf (plainC l)) (termOf (plainC r)) = _; rw [h1 h.2.1, h2 h.2.2]
  | scale o c h1 => show C.scale (obsOf (plain o)) (termOf (plainC c)) = _; rw [obsOf_whole o h.1, h1 h.2]
  | when d c h1 => show C.when d (termOf (plainC c)) = _; rw [h1 h.2]
  | iff o l r h1 h2 => show C.iff (obsOf (plain o)) (termOf (plainC l)) (termOf (plainC r)) = _; rw [obsOf_whole o h.1, h1 h.2.1, h2 h.2.2]
  | odd v => exact absurd h id
theorem termP_any (c : C) (h : c.whole) (w : World) (v : Value) (B : Nat) (ht : TIn w B (plainC c) v) : Calls Tryz.prog 18 #[v] w fun e w' => e = .returned c.val ∧ Below w.heap.size w w' := by
  have := termT_any (sc_plain c (cwhole_ok c h)) w v (ht.low (Nat.zero_le _))
  rw [termOf_whole c h] at this
  exact this
theorem whole_sameC (c : C) (h : c.whole) : sameC c c = true := by
  induction c with
  | zero => rfl
  | one s => simp [sameC]
  | give c h1 => simp [sameC, h1 h]
  | and l r h1 h2 => simp [sameC, h1 h.1, h2 h.2]
  | or s l r h1 h2 => simp [sameC, h1 h.2.1, h2 h.2.2]
  | scale o c h1 => simp [sameC, whole_same o h.1, h1 h.2]
  | when d c h1 => simp [sameC, h1 h.2]
  | iff o l r h1 h2 => simp [sameC, whole_same o h.1, h1 h.2.1, h2 h.2.2]
  | odd v => exact absurd h id
theorem same_give (c : C) : sameC (.give c) c = false := by
  induction c with
  | give c ih => simp only [sameC]; exact ih
  | _ => rfl
theorem same_give' (c : C) : sameC c (.give c) = false := by
  induction c with
  | give c ih => simp only [sameC]; exact ih
  | _ => rfl
/-- A plan's contract, made by two calls in one statement: whatever the order. -/
theorem con_made {p : Pl} {W X : World} (hP : PlanIn W p) (hX : Below W.heap.size W X) : Calls Tryz.prog 49 #[.agg #[.slice p.na p.nl p.nc, .slice p.wa p.wl p.wc]] X (fun e w' => ∃ v, e = .returned v ∧ Below W.heap.size W w' ∧ TIn w' 0 (plainC (conP p)) v) :=
  (contract_any p X (hP.below hX)).mono (fun e w' ⟨v, he, ht, hb⟩ => ⟨v, he, hX.trans (hb.mono hX.size), ht.low (Nat.zero_le _)⟩)
theorem con_term {p : Pl} {W X : World} {v : Value} (hX : Below W.heap.size W X) (ht : TIn X 0 (plainC (conP p)) v) : Calls Tryz.prog 18 #[v] X (fun e w' => e = .returned (conP p).val ∧ Below W.heap.size W w') :=
  (termP_any (conP p) (conP_whole p) X v 0 ht).mono (fun e w' ⟨he, hb⟩ => ⟨he, hX.trans (hb.mono hX.size)⟩)

end Go.Proofs.YtkioolbjmcpjpaaGreatDoor
namespace Go.Proofs.YtkioolbjmcpjpaaGreatDoor
open Go.RowKit
set_option linter.unusedVariables false

theorem plainC_nodes (c : C) : (plainC c).nodes = c.nodes := by
  induction c with
  | scale o c ih => have := plain_nodes o; simp only [plainC, T.nodes, nodesL, C.nodes] at *; simp; omega
  | iff o l r h1 h2 => have := plain_nodes o; simp only [plainC, T.nodes, nodesL, C.nodes] at *; simp; omega
  | _ => simp_all [plainC, T.nodes, nodesL, C.nodes] <;> omega
theorem plainC_depth (c : C) : (plainC c).depth = c.depth := by
  induction c with
  | scale o c ih => have := plain_depth o; simp only [plainC, T.depth, depthL, C.depth] at *; simp; omega
  | iff o l r h1 h2 => have := plain_depth o; simp only [plainC, T.depth, depthL, C.depth] at *; simp; omega
  | _ => simp_all [plainC, T.depth, depthL, C.depth] <;> omega
theorem plainC_labs (c : C) : (plainC c).labs = c.labels := by
  induction c <;> simp_all [plainC, T.labs, labsL, C.labels, plain_labs]
theorem plainC_cnt (c : C) : (plainC c).cnt ≤ 3 * c.weight := by
  induction c with
  | scale o c ih => have := plain_cnt o; simp only [plainC, T.cnt, cntL, C.weight] at *; omega
  | iff o l r h1 h2 => have := plain_cnt o; simp only [plainC, T.cnt, cntL, C.weight] at *; omega
  | _ => simp only [plainC, T.cnt, cntL, C.weight] at * <;> omega
theorem plainC_sized (c : C) (h : c.Ok) : (plainC c).Sized := by
  have he : (⟨#[]⟩ : ByteArray).size ≤ 2147483648 := by decide
  induction c with
  | zero => simp only [plainC, T.Sized, SizedL]; exact ⟨he, trivial⟩
  | one s => simp only [plainC, T.Sized, SizedL]; exact ⟨h, trivial⟩
  | odd v => simp only [plainC, T.Sized, SizedL]; exact ⟨he, trivial⟩
  | give c h1 => simp only [plainC, T.Sized, SizedL]; exact ⟨he, h1 h, trivial⟩
  | and l r h1 h2 => simp only [plainC, T.Sized, SizedL]; exact ⟨he, h1 h.1, h2 h.2, trivial⟩
  | or s l r h1 h2 => simp only [plainC, T.Sized, SizedL]; exact ⟨h.1, h1 h.2.1, h2 h.2.2, trivial⟩
  | scale o c h1 => simp only [plainC, T.Sized, SizedL]; exact ⟨he, plain_sized o h.1, h1 h.2, trivial⟩
  | when d c h1 => simp only [plainC, T.Sized, SizedL]; exact ⟨he, h1 h.2, trivial⟩
  | iff o l r h1 h2 => simp only [plainC, T.Sized, SizedL]; exact ⟨he, plain_sized o h.1, h1 h.2.1, h2 h.2.2, trivial⟩
theorem plainC_form (c : C) : formT (plainC c) false = formC c := by
  induction c <;> simp_all [plainC, formT, formTL, headOk, partB, formC, plain_form, Bool.and_assoc]
theorem plainC_chk (c : C) : chkT (plainC c) false = chkC c := by
  unfold chkT chkC
  rw [plainC_form, plainC_nodes, plainC_depth, plainC_labs]
theorem refCheckC_any (c : C) (hok : c.Ok) (hw : c.weight ≤ 300000) (w : World) (v : Value) (B : Nat) (ht : TIn w B (plainC c) v) : Calls Tryz.prog 50 #[v, .bool false] w fun e w' => e = .returned (.int .i64 (chkC c)) ∧ Below w.heap.size w w' := by
  have h := refCheck_any (plainC c) (plainC_sized c hok) (by have := plainC_cnt c; omega) (by rw [plainC_nodes]; have := weight_nodes c; omega) false w v (ht.low (Nat.zero_le _))
  rw [plainC_chk] at h
  exact h
/-- The right contract of a plan. -/
def rightP (p : Pl) : C := if chkC (conP p) = 0 then conP p else .one ⟨#[117, 115, 100]⟩
theorem rightP_whole (p : Pl) : (rightP p).whole := by
  unfold rightP
  split
  · exact conP_whole p
  · show (⟨#[117, 115, 100]⟩ : ByteArray).size ≤ _
    decide
theorem rightP_weight (p : Pl) : (rightP p).weight ≤ 630 := by
  unfold rightP
  split
  · exact conP_weight p
  · simp [C.weight]

set_option maxHeartbeats 1000000 in
set_option maxRecDepth 100000 in
theorem right_any (p : Pl) (w : World) (h : PlanIn w p) : Calls Tryz.prog 19 #[planV p] w fun e w' => ∃ v, e = .returned v ∧ TIn w' w.heap.size (plainC (rightP p)) v ∧ Below w.heap.size w w' := by
  unfold planV
  have HP := hidIn h
  have HOK := hidIn (cwhole_ok _ (conP_whole p))
  have HWT := hidIn (conP_weight p)
  have HRP : Hid (rightP p = if chkC (conP p) = 0 then conP p else .one ⟨#[117, 115, 100]⟩) := rfl
  clear h
  go_enter Tryz.func19, Tryz.ntmps19
  go_wp2_with fail
  obtain ⟨W, hW⟩ : ∃ W, W = (w.alloc (.cells #[.slice p.na p.nl p.nc, .slice p.wa p.wl p.wc] 25)).alloc (.cells #[.int .i64 0, .string ⟨#[]⟩, .int .i64 0, .slice none 0 0] 33) := ⟨_, rfl⟩
  have hWs : W.heap.size = w.heap.size + 2 := by rw [hW]; simp
  have HB : Hid (Below w.heap.size w W) := by rw [hW]; exact below_alloc (below_alloc (Below.refl _ _) _) _
  have HZ : Hid (Blk W (w.heap.size + 1) 33 zeroT) := by rw [hW]; exact blk_new (by simp)
  have HPW := hidIn (HP.out.below HB.out)
  have HWS := hidIn hWs
  rw [← hW]
  clear hW hWs
  refine (contract_any p W HPW.out).mono ?_
  rintro e w1 ⟨v, rfl, ht1, hb1⟩
  have ht1' := ht1
  obtain ⟨ka, kc, rfl, _, _, _⟩ := ht1'
  have HT1 := hidIn ht1
  have HB1 := hidIn hb1
  clear ht1 hb1
  generalize hC : conP p = c at *
  clear hC
  go_wp2_with fail
  obtain ⟨w2, hw2⟩ : ∃ w2, w2 = w1.alloc (.cells (four (plainC c) ka kc) 33) := ⟨_, rfl⟩
  have HB2 : Hid (Below W.heap.size W w2) := by rw [hw2]; exact below_alloc HB1.out _
  have HT2 : Hid (TIn w2 W.heap.size (plainC c) (.agg (four (plainC c) ka kc))) := by rw [hw2]; exact HT1.out.below (below_alloc (Below.refl _ _) _)
  have HK2 : Hid (Blk w2 w1.heap.size 33 (four (plainC c) ka kc)) := by rw [hw2]; exact blk_new rfl
  unfold four at hw2
  rw [← hw2]
  clear hw2 HT1
  refine (refCheckC_any c HOK.out (by have := HWT.out; omega) w2 _ _ HT2.out).mono ?_
  rintro e w3 ⟨rfl, hb3⟩
  have HB3 := hidIn (HB2.out.trans (hb3.mono HB2.out.size))
  have HT3 := hidIn (HT2.out.below hb3)
  have hk3 : Blk w3 w1.heap.size 33 (four (plainC c) ka kc) := HK2.out.below hb3 HK2.out.lt
  obtain ⟨q0, q1, q2, q3⟩ := four_cells hk3
  have HZ3 : Hid (Blk w3 (w.heap.size + 1) 33 zeroT) := HZ.out.below HB3.out HZ.out.lt
  obtain ⟨⟨z0, z1, z2, z3⟩, f0, f1, f2, f3⟩ := blk_zero HZ3.out
  have hne : ¬ w.heap.size + 1 = w1.heap.size := by have := HWS.out; have := HB1.out.size; omega
  have HBE : Hid (Below w.heap.size w w3) := HB.out.trans (HB3.out.mono HB.out.size)
  clear hb3 hk3 HK2 HT2
  by_cases h0 : chkC c = 0
  · have h0' : (chkC c == 0) = true := by simp [h0]
    have HR : Hid (rightP p = c) := by unfold Hid; rw [HRP.out, if_pos h0]
    rw [h0]
    clear h0
    go_wp2_with fail
    refine bodyPost_ret (results_cell_row rfl _ _ (w.heap.size + 1) 33 #[.int .i64 (plainC c).kind, .string (plainC c).s, .int .i64 (plainC c).n, .slice ka (plainC c).k.length kc] (0, 0) _ rfl (set4_blk HZ3.out _ _ _ _) Tryz.underlying33 rfl infoT) rfl ?_
    refine ⟨_, rfl, ?_, (((HBE.out.setCell (Nat.le_succ _) _).setCell (Nat.le_succ _) _).setCell (Nat.le_succ _) _).setCell (Nat.le_succ _) _⟩
    rw [HR.out]
    exact (HT3.out.set4 (R := w.heap.size + 1) (by have := HWS.out; omega) _ _ _ _).low (by have := HWS.out; omega)
  · have h0' : (chkC c == 0) = false := by rw [beq_eq_false_iff_ne]; exact h0
    have HR : Hid (rightP p = .one ⟨#[117, 115, 100]⟩) := by unfold Hid; rw [HRP.out, if_neg h0]
    go_wp2_with fail
    refine bodyPost_ret (results_cell_row rfl _ _ (w.heap.size + 1) 33 #[.int .i64 2, .string ⟨#[117, 115, 100]⟩, .int .i64 0, .slice none 0 0] (0, 0) _ rfl (set4_blk HZ3.out _ _ _ _) Tryz.underlying33 rfl infoT) rfl ?_
    refine ⟨_, rfl, ?_, (((HBE.out.setCell (Nat.le_succ _) _).setCell (Nat.le_succ _) _).setCell (Nat.le_succ _) _).setCell (Nat.le_succ _) _⟩
    rw [HR.out]
    exact tin_leaf _ _ _ _ _

end Go.Proofs.YtkioolbjmcpjpaaGreatDoor
namespace Go.Proofs.YtkioolbjmcpjpaaGreatDoor.Ev
open Go.RowKit
set_option linter.unusedVariables false
set_option linter.unusedSimpArgs false

def binF (l : List UInt8) (u : Value) (w : World) : Prop := BIn w u l
theorem binF_stays (l : List UInt8) : ∀ u w w', Up w w' → binF l u w → binF l u w' := fun u w w' h hb => BIn.below hb h
def rowF (cs : Array Value) (t : TypeId) (n : Nat) (u : Value) (w : World) : Prop := ∃ g, u = .slice (some ⟨g, 0, none⟩) n n ∧ w.heap[g]? = some (.cells cs t)
theorem own_two {w : World} {x y : UInt8} {o : Obj} (ho : o = .cells #[.int .u8 x.toNat, .int .u8 y.toNat] 5) : OwnB (w.alloc o) w.heap.size (.slice (some ⟨w.heap.size, 0, none⟩) 2 2) [x, y] := by
  subst ho
  exact ⟨rfl, .inr ⟨w.heap.size, 2, #[.int .u8 x.toNat, .int .u8 y.toNat], rfl, Nat.le_refl _, heap_alloc_new w _, Nat.le_refl _, by unfold maxLen; omega, rfl, rfl⟩⟩
theorem rowF_stays (cs : Array Value) (t : TypeId) (n : Nat) : ∀ u w w', Up w w' → rowF cs t n u w → rowF cs t n u w' := fun u w w' h ⟨g, hu, hg⟩ => ⟨g, hu, (Below.block h _ (Array.getElem?_eq_some_iff.1 hg).1).trans hg⟩
/-- The cells of the six things. -/
def fmRow (D V : Int) (tv : Value) (s pl dS nS oS : ByteArray) : Array Value := #[.int .i64 1, .string ⟨#[]⟩, .string ⟨#[]⟩, .string ⟨#[]⟩, .string ⟨#[]⟩, .int .i64 0, .int .i64 0, .nilIface, .string ⟨#[1]⟩, .int .i64 2, .string ⟨#[116, 114]⟩, .string ⟨#[]⟩, .string ⟨#[]⟩, .string ⟨#[]⟩, .int .i64 0, .int .i64 0, tv, .string (⟨#[2, 2, 116, 114]⟩ ++ pl ++ s), .int .i64 3, .string ⟨#[]⟩, .string ⟨#[195, 182, 108]⟩, .string ⟨#[]⟩, .string ⟨#[]⟩, .int .i64 D, .int .i64 V, .nilIface, .string (⟨#[3, 3, 195, 182, 108]⟩ ++ dS ++ nS), .int .i64 4, .string ⟨#[97]⟩, .string ⟨#[]⟩, .string ⟨#[98, 99]⟩, .string ⟨#[]⟩, .int .i64 0, .int .i64 1, .nilIface, .string (⟨#[4, 1, 97, 2, 98, 99]⟩ ++ oS), .int .i64 5, .string ⟨#[]⟩, .string ⟨#[]⟩, .string ⟨#[]⟩, .string ⟨#[]⟩, .int .i64 D, .int .i64 0, .nilIface, .string (⟨#[5]⟩ ++ dS), .int .i64 6, .string ⟨#[]⟩, .string ⟨#[]⟩, .string ⟨#[]⟩, .string ⟨#[117, 115, 100]⟩, .int .i64 D, .int .i64 V, .nilIface, .string (⟨#[6, 3, 117, 115, 100]⟩ ++ dS ++ nS)]
theorem fmB_size (D V : Int) (s : ByteArray) (q : Nat) (hs : s.size ≤ 1000) : (fmB D V s q).size ≤ 2000 := by
  have h8 : ∀ n, (n8 n).size = 8 := fun n => gfL_length _ _
  have h2 : ∀ n, (l2 n).size = 2 := fun n => rfl
  have hk : (⟨#[1]⟩ : ByteArray).size = 1 ∧ (⟨#[2, 2, 116, 114]⟩ : ByteArray).size = 4 ∧ (⟨#[3, 3, 195, 182, 108]⟩ : ByteArray).size = 5 ∧ (⟨#[4, 1, 97, 2, 98, 99]⟩ : ByteArray).size = 6 ∧ (⟨#[5]⟩ : ByteArray).size = 1 ∧ (⟨#[6, 3, 117, 115, 100]⟩ : ByteArray).size = 5 := ⟨rfl, rfl, rfl, rfl, rfl, rfl⟩
  obtain ⟨k1, k2, k3, k4, k5, k6⟩ := hk
  unfold fmB
  repeat' split
  all_goals simp only [ByteArray.size_append, h8, h2, k1, k2, k3, k4, k5, k6]; omega
theorem cells9e {w : World} {B t : Nat} {a b c d e f g h i : Value} (hh : w.heap[B]? = some (.cells #[a, b, c, d, e, f, g, h, i] t)) : w.cell? ⟨B, 0, none⟩ = some a ∧ w.cell? ⟨B, 1, none⟩ = some b ∧ w.cell? ⟨B, 2, none⟩ = some c ∧ w.cell? ⟨B, 3, none⟩ = some d ∧ w.cell? ⟨B, 4, none⟩ = some e ∧ w.cell? ⟨B, 5, none⟩ = some f ∧ w.cell? ⟨B, 6, none⟩ = some g ∧ w.cell? ⟨B, 7, none⟩ = some h ∧ w.cell? ⟨B, 8, none⟩ = some i :=
  ⟨cell_of_row _ _ 0 _ _ _ hh, cell_of_row _ _ 1 _ _ _ hh, cell_of_row _ _ 2 _ _ _ hh, cell_of_row _ _ 3 _ _ _ hh, cell_of_row _ _ 4 _ _ _ hh, cell_of_row _ _ 5 _ _ _ hh, cell_of_row _ _ 6 _ _ _ hh, cell_of_row _ _ 7 _ _ _ hh, cell_of_row _ _ 8 _ _ _ hh⟩
theorem fmRow_at (D V : Int) (t : C) (tv : Value) (htv : t.val = tv) (s : ByteArray) (hs : s = wTextC t) (q : Nat) (hq : q < 6) : ∀ j v, ((fmE D V t q).cs.push (.string (fmB D V (wTextC t) q)))[j]? = some v → (fmRow D V tv s (l2 s.size) (n8 D) (n8 V) (n8 1))[q * 9 + j]? = some v := by
  subst htv hs
  rcases (by omega : q = 0 ∨ q = 1 ∨ q = 2 ∨ q = 3 ∨ q = 4 ∨ q = 5) with rfl | rfl | rfl | rfl | rfl | rfl
  all_goals
    intro j v h
    have hj : j < 9 := (Array.getElem?_eq_some_iff.1 h).1
    rcases (by omega : j = 0 ∨ j = 1 ∨ j = 2 ∨ j = 3 ∨ j = 4 ∨ j = 5 ∨ j = 6 ∨ j = 7 ∨ j = 8) with rfl | rfl | rfl | rfl | rfl | rfl | rfl | rfl | rfl
    all_goals exact h

set_option maxHeartbeats 16000000 in
set_option maxRecDepth 100000 in
theorem forms_walk (day vv : Int) (p : Pl) (refused : Bool) (w : World) (hd1 : -9223372036854775808 ≤ day) (hd2 : day ≤ 9223372036854775807) (hv1 : -9223372036854775808 ≤ vv) (hv2 : vv ≤ 9223372036854775807) (hp : PlanIn w p) (htab : TabW w) :
    Calls Tryz.prog 5 #[.int .i64 day, .int .i64 vv, planV p, .bool refused] w fun e w' => e = .returned (.bool true) ∧ Below w.heap.size w w' := by
  have HWD := hidIn (fun w : World => within_any day 10001 w (by omega) (by omega) hd1 hd2)
  have HWV := hidIn (fun w : World => within_any vv 2000000000001 w (by omega) (by omega) hv1 hv2)
  obtain ⟨D, hD⟩ : ∃ D, day % 10001 = D := ⟨_, rfl⟩
  obtain ⟨V0, hV⟩ : ∃ V, vv % 2000000000001 = V := ⟨_, rfl⟩
  have hD1 : 0 ≤ D := by omega
  have hD2 : D ≤ 10000 := by omega
  have hV1 : 0 ≤ V0 := by omega
  have hV2 : V0 ≤ 2000000000000 := by omega
  rw [hD] at HWD
  rw [hV] at HWV
  obtain ⟨V, hVV⟩ : ∃ V, V0 - 1000000000000 = V := ⟨_, rfl⟩
  have hwv : IntKind.i64.wrap (V0 - 1000000000000) = V := by rw [IntKind.wrap_i64]; omega
  have hV3 : -1000000000000 ≤ V := by omega
  have hV4 : V ≤ 1000000000000 := by omega
  have HP := hidIn hp
  have HT := hidIn htab
  clear hD hV hp htab hd1 hd2 hv1 hv2
  unfold planV
  obtain ⟨t, ht⟩ : ∃ t, rightP p = t := ⟨_, rfl⟩
  have HRA := hidIn (fun W (hW : Below w.heap.size w W) => right_any p W (HP.out.below hW))
  unfold planV at HRA
  have HWH : Hid t.whole := by rw [← ht]; exact rightP_whole p
  have HWG : Hid (t.weight ≤ 630) := by rw [← ht]; exact rightP_weight p
  rw [ht] at HRA
  clear ht HP
  have HTM := hidIn (fun (W : World) (v : Value) (B : Nat) (h : TIn W B (plainC t) v) => termP_any t HWH.out W v B h)
  have HWR := hidIn (fun W hW => writeC_any t (cwhole_ok _ HWH.out) (by have := HWG.out; omega) W hW)
  have HFO := hidIn (fun q => fm_ok D V t q hD1 hD2 hV3 hV4 (cwhole_ok _ HWH.out) (by have := HWG.out; omega))
  have HFC := hidIn (fun (he : wErrC t = 0) q hq => fm_chk D V t q hq hD1 hD2 hV3 hV4 he)
  have HFB := hidIn (fun q hq => fm_bytes D V t q hq)
  have HFR := hidIn (fun q hq => fmRow_at D V t _ rfl _ rfl q hq)
  have HSZ := hidIn (wTextC_size t)
  have hone := t.one' (cwhole_ok _ HWH.out)
  generalize t.val = tv at *
  go_enter Tryz.func5, Tryz.ntmps5
  go_wp2_with fail
  have HBV := hidIn (below_alloc (Below.refl w.heap.size w) (.cells #[.slice p.na p.nl p.nc, .slice p.wa p.wl p.wc] 25))
  have HPV := hidIn (heap_alloc_new w (.cells #[.slice p.na p.nl p.nc, .slice p.wa p.wl p.wc] 25))
  generalize w.alloc (.cells #[.slice p.na p.nl p.nc, .slice p.wa p.wl p.wc] 25) = VW at *
  refine calls_same (HWD.out VW) ?_
  go_wp2_with fail
  refine calls_same (HWV.out VW) ?_
  have y0 : VW.cell? ⟨w.heap.size, 0, none⟩ = some (.slice p.na p.nl p.nc) := cell_of_row _ _ 0 _ _ _ HPV.out
  have y1 : VW.cell? ⟨w.heap.size, 1, none⟩ = some (.slice p.wa p.wl p.wc) := cell_of_row _ _ 1 _ _ _ HPV.out
  go_wp2_with fail
  refine (HRA.out VW HBV.out).mono ?_
  rintro e w1 ⟨v1, rfl, ht1, hb1⟩
  have HT1 := hidIn ht1
  have HB1 := hidIn (HBV.out.trans (hb1.mono HBV.out.size))
  clear ht1 hb1 y0 y1
  go_wp2_with fail
  refine (HTM.out w1 v1 _ HT1.out).mono ?_
  rintro e w2 ⟨rfl, hb2⟩
  have HB2 := hidIn (HB1.out.trans (hb2.mono HB1.out.size))
  clear hb2 HT1 HTM HRA
  go_wp2_with fail
  refine (HWR.out w2 (tabW_below HT.out HB2.out)).mono ?_
  rintro e w3 ⟨rfl, hb3⟩
  have HB3 := hidIn (HB2.out.trans (hb3.mono HB2.out.size))
  clear hb3 HWR
  obtain ⟨s, hs⟩ : ∃ s, wTextC t = s := ⟨_, rfl⟩
  rw [hs] at HFB HFR HSZ ⊢
  by_cases he : wErrC t = 0
  rotate_left
  · have he' : (wErrC t != 0) = true := by simpa using he
    generalize wErrC t = we at *
    go_wp2_with fail
    refine (wakes12_any w3 (tabW_below HT.out HB3.out)).mono ?_
    rintro e w4 ⟨rfl, hb4⟩
    have HB4 := hidIn (HB3.out.trans (hb4.mono HB3.out.size))
    clear hb4
    go_wp2_with fail
    go_ret
    exact ⟨rfl, HB4.out⟩
  have HFC2 := hidIn (HFC.out he)
  rw [he]
  clear he HFC hs
  go_upto_region 6 with fail
  refine wp_region_grow (fun w' => Below w3.heap.size w3 w') Up (modes [one (.int .i64 D), loose (binF (gfL (nat64 D) 8)), one (.string (n8 D)), one (.int .i64 V), loose (binF (gfL (nat64 V) 8)), one (.string (n8 V)), one (.string (n8 D)), one (.string (n8 V))]) (by kernel_rfl) (by kernel_rfl) (up_class _) (below_drew (Below.refl _ _)) ?_
  generalize hops : (#[_, _, _, _, _, _, _, _] : Array Oper) = ops
  clear hops
  refine g_runs (.int .i64 D) grow_end Up.refl rfl (wanted_none rfl) (by intro d hd w; cases hd; exact trivial) (fun w' hw' => ?_) ?_
  · go_simp
  simp only [Act.put, List.setIfInBounds_toArray, List.set_cons_zero, List.set_cons_succ]
  refine g_loose 22 #[.int .i64 D] (binF (gfL (nat64 D) 8)) rfl (binF_stays _) (wanted_none rfl) (fun w' hw' => ?_) (fun w' hw' hk => ?_) (fun u38 => ?_)
  · go_simp
  · refine (number8_any D w').mono ?_
    rintro e w9 ⟨v, rfl, hv, hb⟩
    exact ⟨v, rfl, hb, own_bin hv⟩
  simp only [Act.put, List.setIfInBounds_toArray, List.set_cons_zero, List.set_cons_succ]
  refine g_knows (.string (n8 D)) grow_end Up.refl rfl (wanted_none rfl) (by intro d hd w; cases hd; exact trivial) (fun w' hw' hk => ?_) ?_
  · have hb : BIn w' u38 (gfL (nat64 D) 8) := hk 38 (looks_at (by simp [Op.operands]))
    have hc := conv_bin hb
    go_simp
    rfl
  simp only [Act.put, List.setIfInBounds_toArray, List.set_cons_zero, List.set_cons_succ]
  refine g_runs (.int .i64 V) grow_end Up.refl rfl (wanted_none rfl) (by intro d hd w; cases hd; exact trivial) (fun w' hw' => ?_) ?_
  · go_simp
  simp only [Act.put, List.setIfInBounds_toArray, List.set_cons_zero, List.set_cons_succ]
  refine g_loose 22 #[.int .i64 V] (binF (gfL (nat64 V) 8)) rfl (binF_stays _) (wanted_none rfl) (fun w' hw' => ?_) (fun w' hw' hk => ?_) (fun u41 => ?_)
  · go_simp
  · refine (number8_any V w').mono ?_
    rintro e w9 ⟨v, rfl, hv, hb⟩
    exact ⟨v, rfl, hb, own_bin hv⟩
  simp only [Act.put, List.setIfInBounds_toArray, List.set_cons_zero, List.set_cons_succ]
  refine g_knows (.string (n8 V)) grow_end Up.refl rfl (wanted_none rfl) (by intro d hd w; cases hd; exact trivial) (fun w' hw' hk => ?_) ?_
  · have hb : BIn w' u41 (gfL (nat64 V) 8) := hk 41 (looks_at (by simp [Op.operands]))
    have hc := conv_bin hb
    go_simp
    rfl
  simp only [Act.put, List.setIfInBounds_toArray, List.set_cons_zero, List.set_cons_succ]
  refine g_runs (.string (n8 D)) grow_end Up.refl rfl (wanted_none rfl) (by intro d hd w; cases hd; exact trivial) (fun w' hw' => ?_) ?_
  · go_simp
  simp only [Act.put, List.setIfInBounds_toArray, List.set_cons_zero, List.set_cons_succ]
  refine g_runs (.string (n8 V)) grow_end Up.refl rfl (wanted_none rfl) (by intro d hd w; cases hd; exact trivial) (fun w' hw' => ?_) ?_
  · go_simp
  simp only [Act.put, List.setIfInBounds_toArray, List.set_cons_zero, List.set_cons_succ]
  refine g_nil ?_
  intro w9 hw9 hk9
  have HB4 := hidIn (HB3.out.trans (hw9.mono HB3.out.size))
  clear hw9 hk9
  generalize w9 = w4 at *
  have HZD : Hid ((n8 D).size = 8) := by unfold Hid n8; show (gfL (nat64 D) 8).length = 8; exact gfL_length _ _
  have HZV : Hid ((n8 V).size = 8) := by unfold Hid n8; show (gfL (nat64 V) 8).length = 8; exact gfL_length _ _
  have HZO : Hid ((n8 1).size = 8) := by unfold Hid n8; show (gfL (nat64 1) 8).length = 8; exact gfL_length _ _
  have HZL : Hid ((l2 s.size).size = 2) := rfl
  have HX1 : Hid (IntKind.u8.wrap ((s.size : Int) / 256) = ((UInt8.ofNat (s.size / 256)).toNat : Int)) := by
    unfold Hid
    have e : (UInt8.ofNat (s.size / 256)).toNat = s.size / 256 % 256 := by simp
    rw [e]
    simp [IntKind.wrap, IntKind.bits, IntKind.signed]
  have HX2 : Hid (IntKind.u8.wrap (s.size : Int) = ((UInt8.ofNat s.size).toNat : Int)) := by
    unfold Hid
    have e : (UInt8.ofNat s.size).toNat = s.size % 256 := by simp
    rw [e]
    simp [IntKind.wrap, IntKind.bits, IntKind.signed]
  have HL2 : Hid ((⟨#[UInt8.ofNat (s.size / 256), UInt8.ofNat s.size]⟩ : ByteArray) = l2 s.size) := rfl
  have HN1 : Hid ((⟨(gfL (nat64 1) 8).toArray⟩ : ByteArray) = n8 1) := rfl
  obtain ⟨x1, hx1⟩ : ∃ x, UInt8.ofNat (s.size / 256) = x := ⟨_, rfl⟩
  obtain ⟨x2, hx2⟩ : ∃ x, UInt8.ofNat s.size = x := ⟨_, rfl⟩
  rw [hx1] at HX1 HL2
  rw [hx2] at HX2 HL2
  clear hx1 hx2
  have hz1 := HZD.out
  have hz2 := HZV.out
  have hz3 := HZO.out
  have hz4 := HZL.out
  have hz5 := HSZ.out
  have hx1 := HX1.out
  have hx2 := HX2.out
  have o1 := hone.cells
  have o2 := hone.one
  have o4 := hone.cells
  simp only [Value.cells] at o4
  have hz6 : 6 + s.size ≤ 9223372036854775807 := by omega
  generalize n8 D = dS at *
  generalize n8 V = nS at *
  generalize n8 1 = oS at *
  generalize l2 s.size = pl at *
  go_upto_region 7 with fail
  refine wp_region_grow (fun w' => Below w4.heap.size w4 w') Up (modes [one (.agg #[.int .i64 1, .string ⟨#[]⟩, .string ⟨#[]⟩, .string ⟨#[]⟩, .string ⟨#[]⟩, .int .i64 0, .int .i64 0, .nilIface]), one (.agg #[.int .i64 1, .string ⟨#[]⟩, .string ⟨#[]⟩, .string ⟨#[]⟩, .string ⟨#[]⟩, .int .i64 0, .int .i64 0, .nilIface, .string ⟨#[1]⟩]), one (tv), one (.agg #[.int .i64 2, .string ⟨#[116, 114]⟩, .string ⟨#[]⟩, .string ⟨#[]⟩, .string ⟨#[]⟩, .int .i64 0, .int .i64 0, tv]), one (.string s), one (.int .i64 s.size), one (.int .i64 ((s.size : Int) / 256)), one (.int .u8 x1.toNat), one (.string s), one (.int .i64 s.size), one (.int .u8 x2.toNat), loose (binF [x1, x2]), one (.string pl), one (.string (⟨#[2, 2, 116, 114]⟩ ++ pl)), one (.string s), one (.string (⟨#[2, 2, 116, 114]⟩ ++ pl ++ s)), one (.agg #[.int .i64 2, .string ⟨#[116, 114]⟩, .string ⟨#[]⟩, .string ⟨#[]⟩, .string ⟨#[]⟩, .int .i64 0, .int .i64 0, tv, .string (⟨#[2, 2, 116, 114]⟩ ++ pl ++ s)]), one (.int .i64 D), one (.int .i64 V), one (.agg #[.int .i64 3, .string ⟨#[]⟩, .string ⟨#[195, 182, 108]⟩, .string ⟨#[]⟩, .string ⟨#[]⟩, .int .i64 D, .int .i64 V, .nilIface]), one (.string dS), one (.string (⟨#[3, 3, 195, 182, 108]⟩ ++ dS)), one (.string nS), one (.string (⟨#[3, 3, 195, 182, 108]⟩ ++ dS ++ nS)), one (.agg #[.int .i64 3, .string ⟨#[]⟩, .string ⟨#[195, 182, 108]⟩, .string ⟨#[]⟩, .string ⟨#[]⟩, .int .i64 D, .int .i64 V, .nilIface, .string (⟨#[3, 3, 195, 182, 108]⟩ ++ dS ++ nS)]), one (.agg #[.int .i64 4, .string ⟨#[97]⟩, .string ⟨#[]⟩, .string ⟨#[98, 99]⟩, .string ⟨#[]⟩, .int .i64 0, .int .i64 1, .nilIface]), loose (binF (gfL (nat64 1) 8)), one (.string oS), one (.string (⟨#[4, 1, 97, 2, 98, 99]⟩ ++ oS)), one (.agg #[.int .i64 4, .string ⟨#[97]⟩, .string ⟨#[]⟩, .string ⟨#[98, 99]⟩, .string ⟨#[]⟩, .int .i64 0, .int .i64 1, .nilIface, .string (⟨#[4, 1, 97, 2, 98, 99]⟩ ++ oS)]), one (.int .i64 D), one (.agg #[.int .i64 5, .string ⟨#[]⟩, .string ⟨#[]⟩, .string ⟨#[]⟩, .string ⟨#[]⟩, .int .i64 D, .int .i64 0, .nilIface]), one (.string dS), one (.string (⟨#[5]⟩ ++ dS)), one (.agg #[.int .i64 5, .string ⟨#[]⟩, .string ⟨#[]⟩, .string ⟨#[]⟩, .string ⟨#[]⟩, .int .i64 D, .int .i64 0, .nilIface, .string (⟨#[5]⟩ ++ dS)]), one (.int .i64 D), one (.int .i64 V), one (.agg #[.int .i64 6, .string ⟨#[]⟩, .string ⟨#[]⟩, .string ⟨#[]⟩, .string ⟨#[117, 115, 100]⟩, .int .i64 D, .int .i64 V, .nilIface]), one (.string dS), one (.string (⟨#[6, 3, 117, 115, 100]⟩ ++ dS)), one (.string nS), one (.string (⟨#[6, 3, 117, 115, 100]⟩ ++ dS ++ nS)), one (.agg #[.int .i64 6, .string ⟨#[]⟩, .string ⟨#[]⟩, .string ⟨#[]⟩, .string ⟨#[117, 115, 100]⟩, .int .i64 D, .int .i64 V, .nilIface, .string (⟨#[6, 3, 117, 115, 100]⟩ ++ dS ++ nS)]), loose (rowF (fmRow D V tv s pl dS nS oS) 57 6), one (.int .i64 6), one (.int .i64 0)]) (by kernel_rfl) (by kernel_rfl) (up_class _) (below_drew (Below.refl _ _)) ?_
  generalize hops : (#[_, _, _, _, _, _, _, _, _, _, _, _, _, _, _, _, _, _, _, _, _, _, _, _, _, _, _, _, _, _, _, _, _, _, _, _, _, _, _, _, _, _, _, _, _, _] : Array Oper) = ops
  clear hops
  refine g_runs (.agg #[.int .i64 1, .string ⟨#[]⟩, .string ⟨#[]⟩, .string ⟨#[]⟩, .string ⟨#[]⟩, .int .i64 0, .int .i64 0, .nilIface]) grow_end Up.refl rfl (wanted_none rfl) (by intro d hd w; cases hd; exact trivial) (fun w' hw' => ?_) ?_
  · go_simp
  simp only [Act.put, List.setIfInBounds_toArray, List.set_cons_zero, List.set_cons_succ]
  refine g_runs (.agg #[.int .i64 1, .string ⟨#[]⟩, .string ⟨#[]⟩, .string ⟨#[]⟩, .string ⟨#[]⟩, .int .i64 0, .int .i64 0, .nilIface, .string ⟨#[1]⟩]) grow_end Up.refl rfl (wanted_none rfl) (by intro d hd w; cases hd; exact trivial) (fun w' hw' => ?_) ?_
  · go_simp
  simp only [Act.put, List.setIfInBounds_toArray, List.set_cons_zero, List.set_cons_succ]
  refine g_runs (tv) grow_end Up.refl rfl (wanted_none rfl) (by intro d hd w; cases hd; exact trivial) (fun w' hw' => ?_) ?_
  · go_simp
  simp only [Act.put, List.setIfInBounds_toArray, List.set_cons_zero, List.set_cons_succ]
  refine g_runs (.agg #[.int .i64 2, .string ⟨#[116, 114]⟩, .string ⟨#[]⟩, .string ⟨#[]⟩, .string ⟨#[]⟩, .int .i64 0, .int .i64 0, tv]) grow_end Up.refl rfl (wanted_none rfl) (by intro d hd w; cases hd; exact trivial) (fun w' hw' => ?_) ?_
  · go_simp
  simp only [Act.put, List.setIfInBounds_toArray, List.set_cons_zero, List.set_cons_succ]
  refine g_runs (.string s) grow_end Up.refl rfl (wanted_none rfl) (by intro d hd w; cases hd; exact trivial) (fun w' hw' => ?_) ?_
  · go_simp
  simp only [Act.put, List.setIfInBounds_toArray, List.set_cons_zero, List.set_cons_succ]
  refine g_runs (.int .i64 s.size) grow_end Up.refl rfl (wanted_none rfl) (by intro d hd w; cases hd; exact trivial) (fun w' hw' => ?_) ?_
  · go_simp
  simp only [Act.put, List.setIfInBounds_toArray, List.set_cons_zero, List.set_cons_succ]
  refine g_runs (.int .i64 ((s.size : Int) / 256)) grow_end Up.refl rfl (wanted_none rfl) (by intro d hd w; cases hd; exact trivial) (fun w' hw' => ?_) ?_
  · go_simp
  simp only [Act.put, List.setIfInBounds_toArray, List.set_cons_zero, List.set_cons_succ]
  refine g_runs (.int .u8 x1.toNat) grow_end Up.refl rfl (wanted_none rfl) (by intro d hd w; cases hd; exact trivial) (fun w' hw' => ?_) ?_
  · go_simp
  simp only [Act.put, List.setIfInBounds_toArray, List.set_cons_zero, List.set_cons_succ]
  refine g_runs (.string s) grow_end Up.refl rfl (wanted_none rfl) (by intro d hd w; cases hd; exact trivial) (fun w' hw' => ?_) ?_
  · go_simp
  simp only [Act.put, List.setIfInBounds_toArray, List.set_cons_zero, List.set_cons_succ]
  refine g_runs (.int .i64 s.size) grow_end Up.refl rfl (wanted_none rfl) (by intro d hd w; cases hd; exact trivial) (fun w' hw' => ?_) ?_
  · go_simp
  simp only [Act.put, List.setIfInBounds_toArray, List.set_cons_zero, List.set_cons_succ]
  refine g_runs (.int .u8 x2.toNat) grow_end Up.refl rfl (wanted_none rfl) (by intro d hd w; cases hd; exact trivial) (fun w' hw' => ?_) ?_
  · go_simp
  simp only [Act.put, List.setIfInBounds_toArray, List.set_cons_zero, List.set_cons_succ]
  refine g_makes (binF [x1, x2]) rfl (binF_stays _) (wanted_none rfl) (fun w' hw' hk => ?_) (fun u54 => ?_)
  · refine ⟨.slice (some ⟨w'.heap.size, 0, none⟩) 2 2, w'.alloc (.cells #[.int .u8 x1.toNat, .int .u8 x2.toNat] 5), ?_, below_alloc (Below.refl _ _) _, own_bin (own_two rfl)⟩
    go_simp
  simp only [Act.put, List.setIfInBounds_toArray, List.set_cons_zero, List.set_cons_succ]
  refine g_knows (.string pl) grow_end Up.refl rfl (wanted_none rfl) (by intro d hd w; cases hd; exact trivial) (fun w' hw' hk => ?_) ?_
  · have hb : BIn w' u54 ([x1, x2]) := hk 54 (looks_at (by simp [Op.operands]))
    have hc := conv_bin hb
    go_simp
    exact HL2.out
  simp only [Act.put, List.setIfInBounds_toArray, List.set_cons_zero, List.set_cons_succ]
  refine g_runs (.string (⟨#[2, 2, 116, 114]⟩ ++ pl)) grow_end Up.refl rfl (wanted_none rfl) (by intro d hd w; cases hd; exact trivial) (fun w' hw' => ?_) ?_
  · go_simp
  simp only [Act.put, List.setIfInBounds_toArray, List.set_cons_zero, List.set_cons_succ]
  refine g_runs (.string s) grow_end Up.refl rfl (wanted_none rfl) (by intro d hd w; cases hd; exact trivial) (fun w' hw' => ?_) ?_
  · go_simp
  simp only [Act.put, List.setIfInBounds_toArray, List.set_cons_zero, List.set_cons_succ]
  refine g_runs (.string (⟨#[2, 2, 116, 114]⟩ ++ pl ++ s)) grow_end Up.refl rfl (wanted_none rfl) (by intro d hd w; cases hd; exact trivial) (fun w' hw' => ?_) ?_
  · go_simp
  simp only [Act.put, List.setIfInBounds_toArray, List.set_cons_zero, List.set_cons_succ]
  refine g_runs (.agg #[.int .i64 2, .string ⟨#[116, 114]⟩, .string ⟨#[]⟩, .string ⟨#[]⟩, .string ⟨#[]⟩, .int .i64 0, .int .i64 0, tv, .string (⟨#[2, 2, 116, 114]⟩ ++ pl ++ s)]) grow_end Up.refl rfl (wanted_none rfl) (by intro d hd w; cases hd; exact trivial) (fun w' hw' => ?_) ?_
  · go_simp
  simp only [Act.put, List.setIfInBounds_toArray, List.set_cons_zero, List.set_cons_succ]
  refine g_runs (.int .i64 D) grow_end Up.refl rfl (wanted_none rfl) (by intro d hd w; cases hd; exact trivial) (fun w' hw' => ?_) ?_
  · go_simp
  simp only [Act.put, List.setIfInBounds_toArray, List.set_cons_zero, List.set_cons_succ]
  refine g_runs (.int .i64 V) grow_end Up.refl rfl (wanted_none rfl) (by intro d hd w; cases hd; exact trivial) (fun w' hw' => ?_) ?_
  · go_simp
  simp only [Act.put, List.setIfInBounds_toArray, List.set_cons_zero, List.set_cons_succ]
  refine g_runs (.agg #[.int .i64 3, .string ⟨#[]⟩, .string ⟨#[195, 182, 108]⟩, .string ⟨#[]⟩, .string ⟨#[]⟩, .int .i64 D, .int .i64 V, .nilIface]) grow_end Up.refl rfl (wanted_none rfl) (by intro d hd w; cases hd; exact trivial) (fun w' hw' => ?_) ?_
  · go_simp
  simp only [Act.put, List.setIfInBounds_toArray, List.set_cons_zero, List.set_cons_succ]
  refine g_runs (.string dS) grow_end Up.refl rfl (wanted_none rfl) (by intro d hd w; cases hd; exact trivial) (fun w' hw' => ?_) ?_
  · go_simp
  simp only [Act.put, List.setIfInBounds_toArray, List.set_cons_zero, List.set_cons_succ]
  refine g_runs (.string (⟨#[3, 3, 195, 182, 108]⟩ ++ dS)) grow_end Up.refl rfl (wanted_none rfl) (by intro d hd w; cases hd; exact trivial) (fun w' hw' => ?_) ?_
  · go_simp
  simp only [Act.put, List.setIfInBounds_toArray, List.set_cons_zero, List.set_cons_succ]
  refine g_runs (.string nS) grow_end Up.refl rfl (wanted_none rfl) (by intro d hd w; cases hd; exact trivial) (fun w' hw' => ?_) ?_
  · go_simp
  simp only [Act.put, List.setIfInBounds_toArray, List.set_cons_zero, List.set_cons_succ]
  refine g_runs (.string (⟨#[3, 3, 195, 182, 108]⟩ ++ dS ++ nS)) grow_end Up.refl rfl (wanted_none rfl) (by intro d hd w; cases hd; exact trivial) (fun w' hw' => ?_) ?_
  · go_simp
  simp only [Act.put, List.setIfInBounds_toArray, List.set_cons_zero, List.set_cons_succ]
  refine g_runs (.agg #[.int .i64 3, .string ⟨#[]⟩, .string ⟨#[195, 182, 108]⟩, .string ⟨#[]⟩, .string ⟨#[]⟩, .int .i64 D, .int .i64 V, .nilIface, .string (⟨#[3, 3, 195, 182, 108]⟩ ++ dS ++ nS)]) grow_end Up.refl rfl (wanted_none rfl) (by intro d hd w; cases hd; exact trivial) (fun w' hw' => ?_) ?_
  · go_simp
  simp only [Act.put, List.setIfInBounds_toArray, List.set_cons_zero, List.set_cons_succ]
  refine g_runs (.agg #[.int .i64 4, .string ⟨#[97]⟩, .string ⟨#[]⟩, .string ⟨#[98, 99]⟩, .string ⟨#[]⟩, .int .i64 0, .int .i64 1, .nilIface]) grow_end Up.refl rfl (wanted_none rfl) (by intro d hd w; cases hd; exact trivial) (fun w' hw' => ?_) ?_
  · go_simp
  simp only [Act.put, List.setIfInBounds_toArray, List.set_cons_zero, List.set_cons_succ]
  refine g_loose 22 #[.int .i64 1] (binF (gfL (nat64 1) 8)) rfl (binF_stays _) (wanted_none rfl) (fun w' hw' => ?_) (fun w' hw' hk => ?_) (fun u69 => ?_)
  · go_simp
  · refine (number8_any 1 w').mono ?_
    rintro e w9 ⟨v, rfl, hv, hb⟩
    exact ⟨v, rfl, hb, own_bin hv⟩
  simp only [Act.put, List.setIfInBounds_toArray, List.set_cons_zero, List.set_cons_succ]
  refine g_knows (.string oS) grow_end Up.refl rfl (wanted_none rfl) (by intro d hd w; cases hd; exact trivial) (fun w' hw' hk => ?_) ?_
  · have hb : BIn w' u69 (gfL (nat64 1) 8) := hk 69 (looks_at (by simp [Op.operands]))
    have hc := conv_bin hb
    go_simp
    exact HN1.out
  simp only [Act.put, List.setIfInBounds_toArray, List.set_cons_zero, List.set_cons_succ]
  refine g_runs (.string (⟨#[4, 1, 97, 2, 98, 99]⟩ ++ oS)) grow_end Up.refl rfl (wanted_none rfl) (by intro d hd w; cases hd; exact trivial) (fun w' hw' => ?_) ?_
  · go_simp
  simp only [Act.put, List.setIfInBounds_toArray, List.set_cons_zero, List.set_cons_succ]
  refine g_runs (.agg #[.int .i64 4, .string ⟨#[97]⟩, .string ⟨#[]⟩, .string ⟨#[98, 99]⟩, .string ⟨#[]⟩, .int .i64 0, .int .i64 1, .nilIface, .string (⟨#[4, 1, 97, 2, 98, 99]⟩ ++ oS)]) grow_end Up.refl rfl (wanted_none rfl) (by intro d hd w; cases hd; exact trivial) (fun w' hw' => ?_) ?_
  · go_simp
  simp only [Act.put, List.setIfInBounds_toArray, List.set_cons_zero, List.set_cons_succ]
  refine g_runs (.int .i64 D) grow_end Up.refl rfl (wanted_none rfl) (by intro d hd w; cases hd; exact trivial) (fun w' hw' => ?_) ?_
  · go_simp
  simp only [Act.put, List.setIfInBounds_toArray, List.set_cons_zero, List.set_cons_succ]
  refine g_runs (.agg #[.int .i64 5, .string ⟨#[]⟩, .string ⟨#[]⟩, .string ⟨#[]⟩, .string ⟨#[]⟩, .int .i64 D, .int .i64 0, .nilIface]) grow_end Up.refl rfl (wanted_none rfl) (by intro d hd w; cases hd; exact trivial) (fun w' hw' => ?_) ?_
  · go_simp
  simp only [Act.put, List.setIfInBounds_toArray, List.set_cons_zero, List.set_cons_succ]
  refine g_runs (.string dS) grow_end Up.refl rfl (wanted_none rfl) (by intro d hd w; cases hd; exact trivial) (fun w' hw' => ?_) ?_
  · go_simp
  simp only [Act.put, List.setIfInBounds_toArray, List.set_cons_zero, List.set_cons_succ]
  refine g_runs (.string (⟨#[5]⟩ ++ dS)) grow_end Up.refl rfl (wanted_none rfl) (by intro d hd w; cases hd; exact trivial) (fun w' hw' => ?_) ?_
  · go_simp
  simp only [Act.put, List.setIfInBounds_toArray, List.set_cons_zero, List.set_cons_succ]
  refine g_runs (.agg #[.int .i64 5, .string ⟨#[]⟩, .string ⟨#[]⟩, .string ⟨#[]⟩, .string ⟨#[]⟩, .int .i64 D, .int .i64 0, .nilIface, .string (⟨#[5]⟩ ++ dS)]) grow_end Up.refl rfl (wanted_none rfl) (by intro d hd w; cases hd; exact trivial) (fun w' hw' => ?_) ?_
  · go_simp
  simp only [Act.put, List.setIfInBounds_toArray, List.set_cons_zero, List.set_cons_succ]
  refine g_runs (.int .i64 D) grow_end Up.refl rfl (wanted_none rfl) (by intro d hd w; cases hd; exact trivial) (fun w' hw' => ?_) ?_
  · go_simp
  simp only [Act.put, List.setIfInBounds_toArray, List.set_cons_zero, List.set_cons_succ]
  refine g_runs (.int .i64 V) grow_end Up.refl rfl (wanted_none rfl) (by intro d hd w; cases hd; exact trivial) (fun w' hw' => ?_) ?_
  · go_simp
  simp only [Act.put, List.setIfInBounds_toArray, List.set_cons_zero, List.set_cons_succ]
  refine g_runs (.agg #[.int .i64 6, .string ⟨#[]⟩, .string ⟨#[]⟩, .string ⟨#[]⟩, .string ⟨#[117, 115, 100]⟩, .int .i64 D, .int .i64 V, .nilIface]) grow_end Up.refl rfl (wanted_none rfl) (by intro d hd w; cases hd; exact trivial) (fun w' hw' => ?_) ?_
  · go_simp
  simp only [Act.put, List.setIfInBounds_toArray, List.set_cons_zero, List.set_cons_succ]
  refine g_runs (.string dS) grow_end Up.refl rfl (wanted_none rfl) (by intro d hd w; cases hd; exact trivial) (fun w' hw' => ?_) ?_
  · go_simp
  simp only [Act.put, List.setIfInBounds_toArray, List.set_cons_zero, List.set_cons_succ]
  refine g_runs (.string (⟨#[6, 3, 117, 115, 100]⟩ ++ dS)) grow_end Up.refl rfl (wanted_none rfl) (by intro d hd w; cases hd; exact trivial) (fun w' hw' => ?_) ?_
  · go_simp
  simp only [Act.put, List.setIfInBounds_toArray, List.set_cons_zero, List.set_cons_succ]
  refine g_runs (.string nS) grow_end Up.refl rfl (wanted_none rfl) (by intro d hd w; cases hd; exact trivial) (fun w' hw' => ?_) ?_
  · go_simp
  simp only [Act.put, List.setIfInBounds_toArray, List.set_cons_zero, List.set_cons_succ]
  refine g_runs (.string (⟨#[6, 3, 117, 115, 100]⟩ ++ dS ++ nS)) grow_end Up.refl rfl (wanted_none rfl) (by intro d hd w; cases hd; exact trivial) (fun w' hw' => ?_) ?_
  · go_simp
  simp only [Act.put, List.setIfInBounds_toArray, List.set_cons_zero, List.set_cons_succ]
  refine g_runs (.agg #[.int .i64 6, .string ⟨#[]⟩, .string ⟨#[]⟩, .string ⟨#[]⟩, .string ⟨#[117, 115, 100]⟩, .int .i64 D, .int .i64 V, .nilIface, .string (⟨#[6, 3, 117, 115, 100]⟩ ++ dS ++ nS)]) grow_end Up.refl rfl (wanted_none rfl) (by intro d hd w; cases hd; exact trivial) (fun w' hw' => ?_) ?_
  · go_simp
  simp only [Act.put, List.setIfInBounds_toArray, List.set_cons_zero, List.set_cons_succ]
  refine g_makes (rowF (fmRow D V tv s pl dS nS oS) 57 6) rfl (rowF_stays _ _ _) (wanted_none rfl) (fun w' hw' hk => ?_) (fun u86 => ?_)
  · refine ⟨.slice (some ⟨w'.heap.size, 0, none⟩) 6 6, w'.alloc (.cells (fmRow D V tv s pl dS nS oS) 57), ?_, below_alloc (Below.refl _ _) _, ⟨_, rfl, heap_alloc_new _ _⟩⟩
    unfold fmRow
    go_simp
  simp only [Act.put, List.setIfInBounds_toArray, List.set_cons_zero, List.set_cons_succ]
  refine g_knows (.int .i64 6) grow_end Up.refl rfl (wanted_none rfl) (by intro d hd w; cases hd; exact trivial) (fun w' hw' hk => ?_) ?_
  · obtain ⟨g, rfl, hg⟩ : rowF (fmRow D V tv s pl dS nS oS) 57 6 u86 w' := hk 86 (looks_at (by simp [Op.operands, Call.operands]))
    go_simp
  simp only [Act.put, List.setIfInBounds_toArray, List.set_cons_zero, List.set_cons_succ]
  refine g_runs (.int .i64 0) grow_end Up.refl rfl (wanted_none rfl) (by intro d hd w; cases hd; exact trivial) (fun w' hw' => ?_) ?_
  · go_simp
  simp only [Act.put, List.setIfInBounds_toArray, List.set_cons_zero, List.set_cons_succ]
  refine g_nil ?_
  intro w9 hw9 hk9
  obtain ⟨g, hu, hg⟩ : rowF (fmRow D V tv s pl dS nS oS) 57 6 u86 w9 := hk9 86
  subst hu
  have HB9 := hidIn (HB4.out.trans (hw9.mono HB4.out.size))
  have HG := hidIn hg
  clear hw9 hk9 hg hx1 hx2 hz1 hz2 hz3 hz4 hz5 hz6 HX1 HX2 HL2 HN1 HZD HZV HZO HZL
  have HCE : Hid (∀ q, q < 6 → ∀ w', Below w9.heap.size w9 w' → ∀ j v, ((fmE D V t q).cs.push (.string (fmB D V s q)))[j]? = some v → w'.cell? ⟨g, q * 9 + j, none⟩ = some v) := fun q hq w' hw' j v hj => by
    have h1 := (hw'.block _ (Array.getElem?_eq_some_iff.1 HG.out).1).trans HG.out
    exact (cell_of_row _ _ _ _ _ _ h1).trans (HFR.out q hq j v hj)
  have HPE := hidIn (fun q hq W hW => by
    have h := pevent_any (fmE D V t q) (HFO.out q).1 (HFO.out q).2 W hW
    rw [HFC2.out q hq, show pkR (fmE D V t q) = (fmB D V s q).data.toList by unfold pkR; rw [if_pos (HFC2.out q hq)]; exact HFB.out q hq] at h
    exact h)
  have HPX := hidIn (fun q hq W hW => by
    have h := pentry_any (fmE D V t q) refused (HFO.out q).1 (HFO.out q).2 W hW
    rw [HFC2.out q hq, show pkX (fmE D V t q) refused = (bif refused then 1 else 0) :: (fmB D V s q).data.toList by unfold pkX; rw [if_pos (HFC2.out q hq)]; congr 1; exact HFB.out q hq] at h
    exact h)
  have HBZ := hidIn (fun q => fmB_size D V s q HSZ.out)
  have HKO := hidIn (fun q => (fmE D V t q).t.one' (HFO.out q).1.t)
  clear HFB HFC2 HFO HFR HG hone o1 o2 o4
  generalize fmE D V t = E at *
  generalize fmB D V s = BB at *
  go_wp2_with fail
  go_loopw [88] (fun s88 wr => ∃ q : Nat, q ≤ 6 ∧ s88 = .int .i64 q ∧ Below w9.heap.size w9 wr) (fun s88 _ => 6 - (intOf s88).toNat)
  case atStart => exact ⟨0, by omega, rfl, Below.refl _ _⟩
  case round =>
    obtain ⟨q, hq, rfl, hbr⟩ := hrel
    have HBR := hidIn hbr
    clear hbr
    by_cases hlt : q < 6
    · have hlt' : (q : Int) < 6 := by omega
      have hc := fun j v => HCE.out q hlt wr HBR.out j v
      have z0 : wr.cell? ⟨g, q * 9, none⟩ = some (.int .i64 (E q).k) := hc 0 _ rfl
      have z1 : wr.cell? ⟨g, q * 9 + 1, none⟩ = some (.string (E q).i) := hc 1 _ rfl
      have z2 : wr.cell? ⟨g, q * 9 + 2, none⟩ = some (.string (E q).n) := hc 2 _ rfl
      have z3 : wr.cell? ⟨g, q * 9 + 3, none⟩ = some (.string (E q).l) := hc 3 _ rfl
      have z4 : wr.cell? ⟨g, q * 9 + 4, none⟩ = some (.string (E q).u) := hc 4 _ rfl
      have z5 : wr.cell? ⟨g, q * 9 + 5, none⟩ = some (.int .i64 (E q).d) := hc 5 _ rfl
      have z6 : wr.cell? ⟨g, q * 9 + 6, none⟩ = some (.int .i64 (E q).v) := hc 6 _ rfl
      have z7 : wr.cell? ⟨g, q * 9 + 7, none⟩ = some (E q).t.val := hc 7 _ rfl
      have z8 : wr.cell? ⟨g, q * 9 + 8, none⟩ = some (.string (BB q)) := hc 8 _ rfl
      have HPE1 := hidIn (HPE.out q hlt)
      have HPX1 := hidIn (HPX.out q hlt)
      have ho := HKO.out q
      have o1 := ho.cells
      have o2 := ho.one
      have o3 := ho.store
      unfold PkPost at HPE1 HPX1
      unfold Ev.val Ev.cs at HPE1
      unfold Ev.cs at HPX1
      simp only [List.push_toArray, List.cons_append, List.nil_append] at HPX1
      clear hc
      go_upto_region 10 with fail
      have HA9 : Hid ((wr.alloc (.cells #[.int .i64 (E q).k, .string (E q).i, .string (E q).n, .string (E q).l, .string (E q).u, .int .i64 (E q).d, .int .i64 (E q).v, (E q).t.val, .string (BB q)] 57)).heap[wr.heap.size]? = some (.cells #[.int .i64 (E q).k, .string (E q).i, .string (E q).n, .string (E q).l, .string (E q).u, .int .i64 (E q).d, .int .i64 (E q).v, (E q).t.val, .string (BB q)] 57)) := heap_alloc_new _ _
      have HB10 : Hid (Below w9.heap.size w9 (wr.alloc (.cells #[.int .i64 (E q).k, .string (E q).i, .string (E q).n, .string (E q).l, .string (E q).u, .int .i64 (E q).d, .int .i64 (E q).v, (E q).t.val, .string (BB q)] 57))) := below_alloc HBR.out _
      have HBW : Hid (∀ w', Below w9.heap.size w9 w' → Below w.heap.size w w') := fun w' hw' => HB9.out.trans (hw'.mono HB9.out.size)
      clear z0 z1 z2 z3 z4 z5 z6 z7 z8
      generalize wr.alloc (.cells #[.int .i64 (E q).k, .string (E q).i, .string (E q).n, .string (E q).l, .string (E q).u, .int .i64 (E q).d, .int .i64 (E q).v, (E q).t.val, .string (BB q)] 57) = W1 at *
      have HZB := hidIn (HBZ.out q)
      obtain ⟨z0, z1, z2, z3, z4, z5, z6, z7, z8⟩ := cells9e HA9.out
      go_wp2_with fail
      refine (HPE1.out W1 (tabW_below HT.out (HBW.out _ HB10.out))).mono ?_
      rintro e w11 ⟨v1, rfl, hv1, hb11⟩
      have HV1 := hidIn hv1
      have HA11 := hidIn ((hb11.block _ (Array.getElem?_eq_some_iff.1 HA9.out).1).trans HA9.out)
      have HB11 := hidIn (HB10.out.trans (hb11.mono HB10.out.size))
      clear hv1 hb11 z0 z1 z2 z3 z4 z5 z6 z7 z8 HA9 HB10
      obtain ⟨z0, z1, z2, z3, z4, z5, z6, z7, z8⟩ := cells9e HA11.out
      go_wp2_with fail
      refine (HPX1.out w11 (tabW_below HT.out (HBW.out _ HB11.out))).mono ?_
      rintro e w12 ⟨v2, rfl, hv2, hb12⟩
      have hc1 := conv_bin (own_bin (own_below HV1.out hb12))
      have hc2 := conv_bin (own_bin hv2)
      have HA12 := hidIn ((hb12.block _ (Array.getElem?_eq_some_iff.1 HA11.out).1).trans HA11.out)
      have HB12 := hidIn (HB11.out.trans (hb12.mono HB11.out.size))
      clear hv2 hb12 z0 z1 z2 z3 z4 z5 z6 z7 z8 HA11 HB11 HV1
      obtain ⟨z0, z1, z2, z3, z4, z5, z6, z7, z8⟩ := cells9e HA12.out
      rw [show (⟨(BB q).data.toList.toArray⟩ : ByteArray) = BB q by simp] at hc1
      have hz := HZB.out
      have q8 : ((BB q).toList == (BB q).toList) = true := beq_self_eq_true _
      generalize (E q).t.val = etv at *
      cases refused
      · rw [show (⟨((bif false then 1 else 0) :: (BB q).data.toList).toArray⟩ : ByteArray) = ⟨#[0]⟩ ++ BB q from Go.WideShapes.bytes_inj (by rw [app_data]; simp)] at hc2
        obtain ⟨zb, hzb⟩ : ∃ zb : ByteArray, (⟨#[0]⟩ ++ BB q : ByteArray) = zb := ⟨_, rfl⟩
        rw [hzb] at hc2
        have q9 : (zb.toList == zb.toList) = true := beq_self_eq_true _
        go_wp2_with fail
        go_roundw
        case rel => exact ⟨q + 1, by omega, by go_num, HB12.out⟩
        case measure => simp [intOf] <;> omega
      · rw [show (⟨((bif true then 1 else 0) :: (BB q).data.toList).toArray⟩ : ByteArray) = ⟨#[1]⟩ ++ BB q from Go.WideShapes.bytes_inj (by rw [app_data]; simp)] at hc2
        obtain ⟨zb, hzb⟩ : ∃ zb : ByteArray, (⟨#[1]⟩ ++ BB q : ByteArray) = zb := ⟨_, rfl⟩
        rw [hzb] at hc2
        have q9 : (zb.toList == zb.toList) = true := beq_self_eq_true _
        go_wp2_with fail
        go_roundw
        case rel => exact ⟨q + 1, by omega, by go_num, HB12.out⟩
        case measure => simp [intOf] <;> omega
    · have hq6 : q = 6 := by omega
      subst hq6
      have HEND := hidIn (HB9.out.trans (HBR.out.mono HB9.out.size))
      clear hlt hq
      go_wp2_with fail
      refine (wakes12_any wr (tabW_below HT.out HEND.out)).mono ?_
      rintro e w13 ⟨rfl, hb13⟩
      have HB13 := hidIn (HEND.out.trans (hb13.mono HEND.out.size))
      clear hb13
      go_wp2_with fail
      go_ret
      exact ⟨rfl, HB13.out⟩

end Go.Proofs.YtkioolbjmcpjpaaGreatDoor.Ev
