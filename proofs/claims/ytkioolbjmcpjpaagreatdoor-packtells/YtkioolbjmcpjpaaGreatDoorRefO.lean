/- The document's own answers on a number's tree: its size, its labels. -/
import Derived.Test.YtkioolbjmcpjpaaGreatDoorRefT
import Derived.Test.YtkioolbjmcpjpaaGreatDoorMakerObs
namespace Go.Proofs.YtkioolbjmcpjpaaGreatDoor
open Go.RowKit
set_option linter.unusedVariables false

theorem plain_k (o : O) : (plain o).k = o.kids.map plain := by cases o <;> rfl
theorem plain_nodes (o : O) : (plain o).nodes = o.nodes := by
  induction o <;> simp [plain, T.nodes, nodesL, O.nodes] <;> omega
theorem plain_depth (o : O) : (plain o).depth = o.depth := by
  induction o <;> simp [plain, T.depth, depthL, O.depth] <;> omega
def plainKind : O → Int
  | .const _ => 11
  | .fix _ => 12
  | .add _ _ => 13
  | .neg _ => 14
  | .mul _ _ => 15
  | .max _ _ => 16
  | .odd _ => 0
theorem plain_kind (o : O) : (plain o).kind = plainKind o := by cases o <;> rfl
theorem map_get (o k : O) (i : Nat) (h : o.kids[i]? = some k) : (o.kids.map plain)[i]? = some (plain k) := by simp [h]

set_option maxHeartbeats 2000000 in
set_option maxRecDepth 100000 in
theorem labels_any (o : O) : ∀ (w : World) (v : Value), TIn w 0 (plain o) v → Calls Tryz.prog 86 #[v] w fun e w' => e = .returned (.slice none 0 0) ∧ Below w.heap.size w w' := by
  induction o using O.ind with
  | _ o ih =>
  intro w v hv
  have h2 := kids_two o
  obtain ⟨a, cap, rfl, hc1, hc2, hK⟩ := hv
  rw [plain_k] at hc1 hK
  rw [plain_k, plain_kind]
  rw [List.length_map] at hc1 ⊢
  have hk5 : (plainKind o == 5) = false := by cases o <;> rfl
  obtain ⟨i0, gi, gz0, gz1, gz2⟩ := info_parts infoStr
  have HIH : Hid (∀ k ∈ o.kids, ∀ (w : World) (v : Value), TIn w 0 (plain k) v → Calls Tryz.prog 86 #[v] w fun e w' => e = .returned (.slice none 0 0) ∧ Below w.heap.size w w') := ih
  have HK : Hid (KAt w 0 (o.kids.map plain) a 0) := hK
  clear ih hK
  generalize plainKind o = kind at *
  generalize (plain o).s = s at *
  generalize (plain o).n = n at *
  go_enter Tryz.func86, Tryz.ntmps86
  go_wp2_with fail
  obtain ⟨W, hW⟩ : ∃ W, W = w.alloc (.cells #[.int .i64 kind, .string s, .int .i64 n, .slice a o.kids.length cap] 33) := ⟨_, rfl⟩
  have HB : Hid (Below w.heap.size w W) := by rw [hW]; exact below_alloc (Below.refl _ _) _
  have HG : Hid (W.cell? ⟨w.heap.size, 3, none⟩ = some (.slice a o.kids.length cap)) := by rw [hW]; exact (cell_of_row _ _ _ _ _ _ (heap_alloc_new _ _)).trans rfl
  rw [← hW]
  clear hW
  have HKW : Hid (KAt W 0 (o.kids.map plain) a 0) := HK.out.below HB.out
  clear HK
  go_loopw [16, 3] (fun s16 s3 wr => ∃ i : Nat, i ≤ o.kids.length ∧ s16 = .int .i64 i ∧ s3 = .slice none 0 0 ∧ Below W.heap.size W wr) (fun s16 _ _ => o.kids.length - (intOf s16).toNat)
  case atStart => exact ⟨0, by omega, rfl, rfl, Below.refl _ _⟩
  case round =>
    obtain ⟨i, hi, rfl, rfl, hbr⟩ := hrel
    by_cases hlt : i < o.kids.length
    · have hlt' : (i : Int) < (o.kids.length : Int) := by omega
      obtain ⟨k, hki⟩ : ∃ k, o.kids[i]? = some k := ⟨_, List.getElem?_eq_getElem hlt⟩
      obtain ⟨b, p, ka, ca, rfl, c0, c1, c2, c3, ht⟩ := (HKW.out.below hbr).cells (map_get o k i hki)
      have g3 : wr.cell? ⟨w.heap.size, 3, none⟩ = some (.slice (some ⟨b, p, none⟩) o.kids.length cap) := (hbr.cell (p := ⟨w.heap.size, 3, none⟩) (World.block_lt_of_cell? _ _ HG.out)).trans HG.out
      have HM : Hid (k ∈ o.kids) := List.mem_of_getElem? hki
      have HTI : Hid (TIn wr 0 (plain k) (.agg #[.int .i64 (plain k).kind, .string (plain k).s, .int .i64 (plain k).n, .slice ka (plain k).k.length ca])) := ht
      clear hki ht
      go_wp2_with fail
      refine (HIH.out k HM.out wr _ HTI.out).mono ?_
      rintro e w2 ⟨rfl, hb2⟩
      have HB2 : Hid (Below W.heap.size W w2) := hbr.trans (hb2.mono hbr.size)
      clear hb2 hbr c0 c1 c2 c3 g3 HTI
      go_wp2_with (at_builtin; refine wpList_append_own_none rfl (.tmp 19) (.tmp 25) 23 rfl w2.heap.size 9 i0 1 Tryz.underlying23 gi _ _ _ rfl (World.ownsRow_nil _ _ _ _) rfl ?_)
      go_roundw
      case rel => exact ⟨i + 1, by omega, by go_num, rfl, HB2.out⟩
      case measure => simp [intOf]; omega
    · have hle : i = o.kids.length := by omega
      subst hle
      go_wp2_with fail
      go_ret
      exact ⟨rfl, HB.out.trans (hbr.mono HB.out.size)⟩

end Go.Proofs.YtkioolbjmcpjpaaGreatDoor
