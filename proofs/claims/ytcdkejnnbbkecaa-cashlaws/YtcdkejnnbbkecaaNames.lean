/- The names that stand in a number, each once, in their order: what package obs answers. -/
import Derived.Test.YtcdkejnnbbkecaaSize
import Derived.Maps.OwnSet
import Derived.Maps.AppendAt
namespace Go.Proofs.Ytcdkejnnbbkecaa
open Go.RowKit Go.Maps
set_option linter.unusedVariables false

/-- The names of a number's Fixes, in order. -/
def O.all : O → List ByteArray
  | .fix s => [s]
  | .add l r => l.all ++ r.all
  | .neg o => o.all
  | .mul l r => l.all ++ r.all
  | .max l r => l.all ++ r.all
  | _ => []
def inN (acc : List ByteArray) (s : ByteArray) : Bool := acc.any fun t => decide (t = s)
theorem inN_iff (acc : List ByteArray) (s : ByteArray) : inN acc s = true ↔ s ∈ acc := by
  unfold inN
  rw [List.any_eq_true]
  constructor
  · rintro ⟨x, hx, he⟩
    have : x = s := of_decide_eq_true he
    exact this ▸ hx
  · intro h
    exact ⟨s, h, decide_eq_true rfl⟩
def addN (acc : List ByteArray) (s : ByteArray) : List ByteArray := if inN acc s = true then acc else acc ++ [s]
def addAll (acc l : List ByteArray) : List ByteArray := l.foldl addN acc
def strCells (l : List ByteArray) : List Value := l.map Value.string
def setN (acc : List ByteArray) : DataW Unit := setOf (.agg []) (acc.map fun s => Lit.string s.data.toList)
theorem addAll_append (acc l m : List ByteArray) : addAll acc (l ++ m) = addAll (addAll acc l) m := by simp [addAll]
theorem addN_length (acc : List ByteArray) (s : ByteArray) : (addN acc s).length ≤ acc.length + 1 := by
  unfold addN; split <;> simp
theorem addAll_length (l : List ByteArray) : ∀ acc, (addAll acc l).length ≤ acc.length + l.length := by
  induction l with
  | nil => intro acc; simp [addAll]
  | cons s l ih => intro acc; have := ih (addN acc s); have := addN_length acc s; simp [addAll] at *; omega
theorem all_nodes (o : O) : o.all.length ≤ o.nodes := by
  induction o <;> simp [O.all, O.nodes] <;> omega
def allL : List O → List ByteArray
  | [] => []
  | k :: l => k.all ++ allL l
theorem allL_snoc (l : List O) (k : O) : allL (l ++ [k]) = allL l ++ k.all := by
  induction l with
  | nil => simp [allL]
  | cons a l ih => simp [allL, ih]
theorem all_kids (o : O) (h : o.kind ≠ 2) : o.all = allL o.kids := by
  cases o <;> simp [O.all, O.kids, allL, O.kind] at h ⊢
theorem allL_length (l : List O) : (allL l).length ≤ sumN l := by
  induction l with
  | nil => simp [allL]
  | cons a l ih => have := all_nodes a; simp [allL, sumN]; omega
theorem has_setN (acc : List ByteArray) (s : ByteArray) : Maps.has (setN acc) (.string s.data.toList) = inN acc s := by
  unfold setN
  rw [has_setOf _ _ _ (fun y hy => by obtain ⟨_, _, rfl⟩ := List.mem_map.1 hy; trivial), List.any_map]
  rw [Bool.eq_iff_iff, inN_iff]
  simp only [List.any_eq_true, Function.comp, Lit.sameKey, beq_iff_eq]
  constructor
  · rintro ⟨x, hx, he⟩
    have : x = s := Go.WideShapes.bytes_inj he
    subst this
    exact hx
  · intro h
    exact ⟨s, h, rfl⟩
theorem setN_snoc (acc : List ByteArray) (s : ByteArray) : setN (acc ++ [s]) = (setN acc).put (.string s.data.toList) (.agg []) := by
  unfold setN
  rw [List.map_append, List.map_singleton, setOf_snoc]

/-- Nothing has turned but a map, a row, and what is new. -/
structure Grew (M : Nat) (row : Option Nat) (w w' : World) : Prop where
  os : w'.os = w.os
  tape : w'.tape = w.tape
  output : w'.output = w.output
  size : w.heap.size ≤ w'.heap.size
  block : ∀ k, k < w.heap.size → k ≠ M → row ≠ some k → w'.heap[k]? = w.heap[k]?
theorem Grew.refl (M : Nat) (row : Option Nat) (w : World) : Grew M row w w := ⟨rfl, rfl, rfl, Nat.le_refl _, fun _ _ _ _ => rfl⟩
theorem Grew.of_below {M : Nat} {row : Option Nat} {w w' : World} (h : Below w.heap.size w w') : Grew M row w w' := ⟨h.os, h.tape, h.output, h.size, fun k hk _ _ => h.block k hk⟩
theorem Grew.of_grown {M : Nat} {row : Option Nat} {w w' : World} (h : w.grownBy w' row) : Grew M row w w' := ⟨h.os, h.tape, h.output, h.size, fun k hk _ hr => h.block k hk (fun e => hr e.symm)⟩
theorem Grew.of_map {M : Nat} {row : Option Nat} {w w' : World} (h : w.grownBy w' (some M)) : Grew M row w w' := ⟨h.os, h.tape, h.output, h.size, fun k hk hM _ => h.block k hk (fun e => hM (by injection e))⟩
theorem Grew.trans {M : Nat} {r r1 : Option Nat} {u v w : World} (h : Grew M r u v) (g : Grew M r1 v w) (hr : r1 = r ∨ ∀ k, r1 = some k → u.heap.size ≤ k) : Grew M r u w :=
  ⟨g.os.trans h.os, g.tape.trans h.tape, g.output.trans h.output, Nat.le_trans h.size g.size, fun k hk hM hn => by
    refine (g.block k (Nat.lt_of_lt_of_le hk h.size) hM ?_).trans (h.block k hk hM hn)
    rcases hr with rfl | hr
    · exact hn
    · intro e; have := hr k e; omega⟩
theorem Grew.below {M : Nat} {row : Option Nat} {w w' : World} {B : Nat} (h : Grew M row w w') (hB : B ≤ w.heap.size) (hM : B ≤ M) (hr : ∀ k, row = some k → B ≤ k) : Below B w w' :=
  ⟨h.os, h.tape, h.output, h.size, fun k hk => h.block k (by omega) (by omega) (fun e => by have := hr k e; omega)⟩
theorem HasObs.grew {w w' : World} {a : Option Addr} {l : List O} {M : Nat} {row : Option Nat} (h : HasObs w a l) (hg : Grew M row w w') (hM : ∀ b o s, a = some ⟨b, o, s⟩ → b ≠ M ∧ row ≠ some b) : HasObs w' a l := by
  intro i o hi
  obtain ⟨b, e, hc⟩ := h i o hi
  obtain ⟨h1, h2⟩ := hM b 0 none e
  refine ⟨b, e, ?_⟩
  have hb := hg.block b (World.block_lt_of_cell? w _ hc) h1 h2
  simp only [World.cell?, hb] at hc ⊢
  exact hc
theorem grown_of_below {w w' : World} (h : Below w.heap.size w w') (row : Option Nat) : w.grownBy w' row := ⟨h.os, h.tape, h.output, h.size, fun k hk _ => h.block k hk⟩

/-- A list of names in memory of the call's own, and the set of them. -/
def NIn (w : World) (M : Nat) (v : Value) (acc : List ByteArray) : Prop :=
  w.ownsRow (M + 1) 9 1 v acc.length (strCells acc) ∧ w.ownsMap Try.prog 9 (unitElem (H := Unit)) M acc.length (setN acc) ∧ M + 1 ≤ w.heap.size
theorem NIn.below {w w' : World} {M : Nat} {v : Value} {acc : List ByteArray} (h : NIn w M v acc) (hb : Below w.heap.size w w') : NIn w' M v acc :=
  ⟨h.1.kept (grown_of_below hb none) (by cases hv : v.ownBlock <;> simp), h.2.1.kept (grown_of_below hb none) (by simp), Nat.le_trans h.2.2 hb.size⟩
theorem NIn.row {w : World} {M : Nat} {v : Value} {acc : List ByteArray} (h : NIn w M v acc) : ∀ k, v.ownBlock = some k → M + 1 ≤ k ∧ k < w.heap.size := fun k hk => h.1.lt k hk
def NPost (w : World) (M : Nat) (v : Value) (acc : List ByteArray) (e : Ending) (w' : World) : Prop :=
  ∃ v', e = .returned v' ∧ NIn w' M v' acc ∧ Grew M v.ownBlock w w' ∧ (v'.ownBlock = v.ownBlock ∨ ∀ k, v'.ownBlock = some k → w.heap.size ≤ k)

theorem lawS : Keyed Try.prog 9 := string_keyed Try.underlying9
theorem zeroUnit (w : World) : (zeroValue 63).run Try.prog w = .ok (.agg #[]) w := by kernel_rfl
theorem infoStr : (Try.prog.info? 9).map (fun i => (i.zero, i.size, i.bytes)) = some (some (.string ByteArray.empty), 1, 16) := by kernel_rfl
theorem cell_one_at (w : World) (x : Value) (t : TypeId) : ∀ j u, [x][j]? = some u → (w.alloc (.cells #[x] t)).cell? ((⟨w.heap.size, 0, none⟩ : Addr).add j) = some u := by
  intro j u hu
  match j, hu with
  | 0, hu =>
    simp at hu
    subst hu
    rw [Addr.add_lit, cell_of_row _ _ _ _ _ _ (heap_alloc_new _ _)]
    rfl

set_option maxHeartbeats 1000000 in
set_option maxRecDepth 100000 in
theorem addOnce_any (M : Nat) (v : Value) (acc : List ByteArray) (s : ByteArray) (w : World) (h : NIn w M v acc) (hs : s.size ≤ 2147483648) (hl : acc.length ≤ 1000000) :
    Calls Try.prog 89 #[v, .map (some M), .string s] w (NPost w M v (addN acc s)) := by
  obtain ⟨i0, gi, gz0, gz1, gz2⟩ := info_parts infoStr
  have hkey : keyOf Try.prog 9 (.string s) = some (.string s.data.toList) := Go.WideMaps.keyOf_string_mk Try.underlying9 (by unfold maxLen; omega)
  obtain ⟨hrow, hmap, hsz⟩ := h
  by_cases hm : inN acc s = true
  · have hhas : Maps.has (setN acc) (.string s.data.toList) = true := by rw [has_setN]; simpa using hm
    have HA : Hid (addN acc s = acc) := by unfold Hid addN; rw [if_pos hm]
    clear hm
    go_enter Try.func89, Try.ntmps89
    go_wp2_with (at_lookup; refine wpList_lookup_own_unit _ rfl _ _ 138 rfl 9 63 lawS Try.underlying138 (zeroUnit _) M acc.length _ rfl hmap _ _ rfl hkey ?_)
    go_ret
    rw [HA.out]
    exact ⟨v, rfl, NIn.below ⟨hrow, hmap, hsz⟩ (below_alloc (Below.refl _ _) _), Grew.of_below (below_alloc (Below.refl _ _) _), .inl rfl⟩
  · have hhas : Maps.has (setN acc) (.string s.data.toList) = false := by rw [has_setN]; simpa using hm
    have HA : Hid (addN acc s = acc ++ [s]) := by unfold Hid addN; rw [if_neg hm]
    have HNE : Hid (v.ownBlock = none ∨ v.ownBlock ≠ some M) := .inr (fun e => by have := hrow.lt M e; omega)
    clear hm
    go_enter Try.func89, Try.ntmps89
    go_wp2_with (first
      | (at_lookup; refine wpList_lookup_own_unit _ rfl _ _ 138 rfl 9 63 lawS Try.underlying138 (zeroUnit _) M acc.length _ rfl hmap _ _ rfl hkey ?_)
      | (at_mapUpdate; refine wpList_mapUpdate_own _ rfl _ _ _ 138 rfl 9 63 lawS Try.underlying138 (unitElem (H := Unit)) M acc.length _ rfl (hmap.alloc _) (by unfold maxLen; omega) _ _ _ rfl rfl hkey _ [] unitElem_mk ?_; intro w1 hmap1 hgrow1)
      | (at_builtin; refine wpList_append_own_at _ rfl _ _ 23 rfl (M + 1) 9 i0 (.string ByteArray.empty) 1 16 Try.underlying23 gi gz0 gz1 gz2 rfl (by decide) _ _ _ rfl (((hrow.alloc _).kept hgrow1 HNE.out).alloc _) ⟨w1.heap.size, 0, none⟩ 1 1 [.string s] rfl rfl (cell_one_at w1 _ _) (by intro u hu; simp at hu; subst hu; rfl) (by unfold maxLen; omega) (by omega) (by have := hgrow1.size; simp at this ⊢; omega) ?_; intro v2 w2 hown2 hgrow2 _ hloc)
      | go_in)
    go_ret
    rw [HA.out]
    have s1 := hgrow1.size
    have s2 := hgrow2.size
    simp at s1 s2
    refine ⟨v2, rfl, ⟨?_, ?_, by omega⟩, ?_, ?_⟩
    · simpa [strCells] using hown2
    · rw [setN_snoc]
      have := (hmap1.alloc (.cells #[.string s] 9)).kept hgrow2 (fun e => by have := hrow.lt M e.symm; omega)
      simpa using this
    · have a1 : Grew M v.ownBlock w (w.alloc (.cells #[] 63)) := Grew.of_below (below_alloc (Below.refl _ _) _)
      have a2 : Grew M v.ownBlock (w.alloc (.cells #[] 63)) w1 := Grew.of_map hgrow1
      have a3 : Grew M v.ownBlock w1 (w1.alloc (.cells #[.string s] 9)) := Grew.of_below (below_alloc (Below.refl _ _) _)
      exact ((a1.trans a2 (.inl rfl)).trans a3 (.inl rfl)).trans (Grew.of_grown hgrow2) (.inl rfl)
    · rcases hloc with h | h
      · exact .inl h
      · refine .inr (fun k hk => ?_)
        rw [h] at hk
        injection hk with hk
        simp at hk
        omega

set_option maxHeartbeats 1000000 in
set_option maxRecDepth 100000 in
theorem gather_fix (s : ByteArray) (hs : s.size ≤ 2147483648) (M : Nat) (v : Value) (acc : List ByteArray) (w : World) (hin : NIn w M v acc) (hl : acc.length ≤ 1000000) :
    Calls Try.prog 86 #[v, .map (some M), (O.fix s).val] w (NPost w M v (addN acc s)) := by
  have HIN : Hid (NIn w M v acc) := hin
  clear hin
  go_enter Try.func86, Try.ntmps86
  go_wp2_with fail
  refine (open_any (.fix s) w hs).mono ?_
  rintro e w1 ⟨a, rfl, hk, hn, hb1⟩
  have HB1 : Hid (Below w.heap.size w w1) := hb1
  clear hk hn hb1
  simp only [headV, O.kind, O.num, O.name, O.kids, List.length_nil]
  go_wp2_with fail
  refine (addOnce_any M v acc s _ (HIN.out.below (below_alloc HB1.out _)) hs hl).mono ?_
  rintro e w2 ⟨v2, rfl, hin2, hg2, hloc2⟩
  go_wp2_with fail
  refine wp_loop_rounds 1 ?_
  rw [rounds_succ]
  go_wp2_with fail
  go_ret
  have a1 : Grew M v.ownBlock w (w1.alloc (.cells #[.int .i64 2, .int .i64 0, .string s] 165)) := Grew.of_below (below_alloc HB1.out _)
  refine ⟨v2, rfl, hin2, a1.trans hg2 (.inl rfl), ?_⟩
  rcases hloc2 with h | h
  · exact .inl h
  · exact .inr (fun k hk => Nat.le_trans a1.size (h k hk))

set_option maxHeartbeats 2000000 in
set_option maxRecDepth 100000 in
theorem gather_any (o : O) : o.Ok → ∀ (M : Nat) (v : Value) (acc : List ByteArray) (w : World), NIn w M v acc → acc.length + o.nodes ≤ 1000000 →
    Calls Try.prog 86 #[v, .map (some M), o.val] w (NPost w M v (addAll acc o.all)) := by
  induction o using O.ind with
  | _ o ih =>
  intro hok M v acc w hin hsz
  by_cases hf : o.kind = 2
  · cases o <;> simp [O.kind] at hf
    exact gather_fix _ hok M v acc w hin (by omega)
  have HIH : Hid (∀ k ∈ o.kids, ∀ (M : Nat) (v : Value) (acc : List ByteArray) (w : World), NIn w M v acc → acc.length + k.nodes ≤ 1000000 → Calls Try.prog 86 #[v, .map (some M), k.val] w (NPost w M v (addAll acc k.all))) :=
    fun k hk => ih k hk (hok.kid hk)
  clear ih
  have h2 := kids_two o
  have HIN : Hid (NIn w M v acc) := hin
  have HSZ : Hid (acc.length + o.nodes ≤ 1000000) := hsz
  clear hin hsz
  have hf' : (o.kind == 2) = false := by simpa using hf
  have HA : Hid (o.all = allL o.kids) := all_kids o hf
  have HSN : Hid (sumN o.kids ≤ o.nodes) := by
    by_cases h0 : o.kind = 0
    · rw [(odd_kids o h0).1]; exact Nat.zero_le _
    · rw [nodes_kids o h0]; exact Nat.le_succ _
  have HR : Hid (∀ k, v.ownBlock = some k → M + 1 ≤ k ∧ k < w.heap.size) := HIN.out.row
  have HMW : Hid (M + 1 ≤ w.heap.size) := HIN.out.2.2
  go_enter Try.func86, Try.ntmps86
  go_wp2_with fail
  refine (open_any o w hok).mono ?_
  rintro e w1 ⟨a, rfl, hk, hn, hb1⟩
  have HK : Hid (HasObs w1 a o.kids) := hk
  have HN : Hid (∀ b x s, a = some ⟨b, x, s⟩ → w.heap.size ≤ b) := hn
  have HB1 : Hid (Below w.heap.size w w1) := hb1
  clear hn hk hok hb1
  unfold headV
  go_wp2_with fail
  obtain ⟨wa, hwa⟩ : ∃ wa, wa = w1.alloc (.cells #[.int .i64 o.kind, .int .i64 o.num, .string o.name] 165) := ⟨_, rfl⟩
  have HBA : Hid (Below w.heap.size w wa) := by rw [hwa]; exact below_alloc HB1.out _
  have HKA : Hid (HasObs wa a o.kids) := by rw [hwa]; exact HK.out.below (below_alloc (Below.refl _ _) _)
  rw [← hwa]
  clear hwa HB1 HK
  have hin1 := HIN.out.below HBA.out
  clear HIN
  go_loopw [26, 0] (fun s26 s0 wr => ∃ i : Nat, i ≤ o.kids.length ∧ s26 = .int .i64 i ∧ NIn wr M s0 (addAll acc (allL (o.kids.take i))) ∧ Grew M v.ownBlock wa wr ∧ HasObs wr a o.kids ∧ (s0.ownBlock = v.ownBlock ∨ ∀ k, s0.ownBlock = some k → wa.heap.size ≤ k)) (fun s26 _ _ => o.kids.length - (intOf s26).toNat)
  case atStart => exact ⟨0, by omega, rfl, hin1, Grew.refl _ _ _, HKA.out, .inl rfl⟩
  case round =>
    clear hin1
    obtain ⟨i, hi, rfl, hinr, hgr, hkr, hlocr⟩ := hrel
    have HINR := hinr
    have HGR : Hid (Grew M v.ownBlock wa wr) := hgr
    have HKR : Hid (HasObs wr a o.kids) := hkr
    by_cases hlt : i < o.kids.length
    · have hlt' : (i : Int) < (o.kids.length : Int) := by omega
      obtain ⟨k, hki⟩ : ∃ k, o.kids[i]? = some k := ⟨_, List.getElem?_eq_getElem hlt⟩
      obtain ⟨b, ha, hc⟩ := hkr i k hki
      obtain ⟨b', ha', hca⟩ := HKA.out i k hki
      have hbb : b < wa.heap.size := by
        rw [ha] at ha'
        injection ha' with ha'
        injection ha' with e1
        subst e1
        exact World.block_lt_of_cell? wa _ hca
      have hbw := HN.out b 0 none ha
      subst ha
      have HM : Hid (k ∈ o.kids) := List.mem_of_getElem? hki
      have ht := take_more _ _ _ hki
      have HT : Hid (addAll acc (allL (o.kids.take (i + 1))) = addAll (addAll acc (allL (o.kids.take i))) k.all) := by unfold Hid; rw [ht, allL_snoc, addAll_append]
      have HLEN : Hid ((addAll acc (allL (o.kids.take i))).length + k.nodes ≤ 1000000) := by
        have h1 := addAll_length (allL (o.kids.take i)) acc
        have h3 := allL_length (o.kids.take i)
        have h4 := sumN_take o.kids (i + 1)
        rw [ht, sumN_snoc] at h4
        have := HSN.out
        have := HSZ.out
        show _ ≤ _
        omega
      have HLOC : Hid (u0.ownBlock = v.ownBlock ∨ ∀ k, u0.ownBlock = some k → wa.heap.size ≤ k) := hlocr
      have HNB : Hid (b ≠ M ∧ u0.ownBlock ≠ some b) := by
        refine ⟨by have := HMW.out; omega, fun e => ?_⟩
        rcases HLOC.out with h | h
        · rw [h] at e; have := HR.out b e; omega
        · have := h b e; omega
      clear hki ht ha' hca hgr hkr hlocr hinr
      generalize addAll acc (allL (o.kids.take i)) = ac at *
      go_wp2_with fail
      refine (HIH.out k HM.out M u0 ac wr HINR HLEN.out).mono ?_
      rintro e w2 ⟨v2, rfl, hin2, hg2, hloc2⟩
      have HG2 : Hid (Grew M v.ownBlock wa w2) := HGR.out.trans hg2 HLOC.out
      have HK2 : Hid (HasObs w2 (some ⟨b, 0, none⟩) o.kids) := HKR.out.grew hg2 (fun b' x s e => by cases e; exact HNB.out)
      have HL2 : Hid (v2.ownBlock = v.ownBlock ∨ ∀ k, v2.ownBlock = some k → wa.heap.size ≤ k) := by
        rcases hloc2 with h | h
        · rw [h]; exact HLOC.out
        · exact .inr (fun k hk => Nat.le_trans HGR.out.size (h k hk))
      clear hg2 hloc2 hc
      go_wp2_with fail
      go_roundw
      case rel => exact ⟨i + 1, by omega, by go_num, by rw [HT.out]; exact hin2, HG2.out, HK2.out, HL2.out⟩
      case measure => simp [intOf]; omega
    · have hle : i = o.kids.length := by omega
      subst hle
      have HT : Hid (addAll acc (allL (o.kids.take o.kids.length)) = addAll acc o.all) := by unfold Hid; rw [List.take_length, HA.out]
      have HLOC : Hid (u0.ownBlock = v.ownBlock ∨ ∀ k, u0.ownBlock = some k → wa.heap.size ≤ k) := hlocr
      clear hgr hkr hlocr hinr
      rw [HT.out] at HINR
      go_wp2_with fail
      go_ret
      refine ⟨_, rfl, HINR, (Grew.of_below HBA.out).trans HGR.out (.inl rfl), ?_⟩
      rcases HLOC.out with h | h
      · exact .inl h
      · exact .inr (fun k hk => Nat.le_trans HBA.out.size (h k hk))

/-- The names of a number, each once. -/
def O.names (o : O) : List ByteArray := addAll [] o.all

set_option maxHeartbeats 1000000 in
set_option maxRecDepth 100000 in
theorem names_any (o : O) (hok : o.Ok) (hsz : o.nodes ≤ 1000000) (w : World) :
    Calls Try.prog 78 #[o.val] w fun e w' => ∃ v, e = .returned v ∧ w'.ownsRow w.heap.size 9 1 v o.names.length (strCells o.names) ∧ Below w.heap.size w w' := by
  have hmm := @run_makeMap Try.prog
  go_enter Try.func78, Try.ntmps78
  go_wp2_with fail
  refine (gather_any o hok w.heap.size (.slice none 0 0) [] _ ⟨World.ownsRow_nil _ _ _ _, World.ownsMap_made _ _ _ _, by simp⟩ (by simpa using hsz)).mono ?_
  rintro e w2 ⟨v2, rfl, hin2, hg2, hloc2⟩
  go_wp2_with fail
  go_ret
  refine ⟨v2, rfl, ?_, ?_⟩
  · have h := hin2.1
    refine ⟨h.1, ?_⟩
    rcases h.2 with h | ⟨g, cap, cur, h1, h2, h3⟩
    · exact .inl h
    · exact .inr ⟨g, cap, cur, h1, by omega, h3⟩
  · have h1 : Below w.heap.size w (w.alloc (.map #[] 0)) := below_alloc (Below.refl _ _) _
    exact h1.trans (hg2.below (by simp) (Nat.le_refl _) (fun k hk => by cases hk))

end Go.Proofs.Ytcdkejnnbbkecaa
