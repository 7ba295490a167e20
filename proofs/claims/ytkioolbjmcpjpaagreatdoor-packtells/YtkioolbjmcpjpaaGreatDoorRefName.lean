/- The document's own answer on names. -/
import Derived.Test.YtkioolbjmcpjpaaGreatDoorNames
import Derived.Lib.OthersKept
namespace Go.Proofs.YtkioolbjmcpjpaaGreatDoor
open Go.RowKit
set_option linter.unusedVariables false

theorem infoRune : (Tryz.prog.info? 21).map (fun i => (i.zero, i.size, i.bytes)) = some (some (.int .i32 0), 1, 4) := by kernel_rfl
def runCells (run : List Int) : List Value := run.map (Value.int .i32)
theorem iter_kept {K : Nat} {s : ByteArray} {pos : Nat} {wr w1 : World} {B : Nat} {e : TypeId} {size : Nat} {v : Value} {n : Nat} {xs : List Value}
    (h1 : wr.heap[K]? = some (.stringIter s pos)) (hv : wr.ownsRow B e size v n xs) (hB : K < B) (hg : wr.grownBy w1 v.ownBlock) : w1.heap[K]? = some (.stringIter s pos) := by
  rw [hg.block K (Array.getElem?_eq_some_iff.1 h1).1 (by
    intro h
    have := (hv.lt K h.symm).1
    omega)]
  exact h1

theorem below_kept {K : Nat} {w wr w1 : World} {B : Nat} {e : TypeId} {size : Nat} {v : Value} {n : Nat} {xs : List Value}
    (h4 : Below K w wr) (h5 : K + 1 ≤ wr.heap.size) (hv : wr.ownsRow B e size v n xs) (hB : K < B) (hg : wr.grownBy w1 v.ownBlock) : Below K w w1 :=
  h4.grown hg (by omega) (fun k hk => by have := (hv.lt k hk).1; omega)

/-! ### runes -/
def RInv (K : Nat) (w : World) (s : ByteArray) (pos : Nat) (run : List Int) (u : Value) (wr : World) : Prop :=
  wr.heap[K]? = some (.stringIter s pos) ∧ wr.ownsRow (K + 1) 21 1 u run.length (runCells run) ∧ Below K w wr ∧ K + 1 ≤ wr.heap.size

theorem RInv.iter {K : Nat} {w : World} {s : ByteArray} {pos : Nat} {run : List Int} {u : Value} {wr : World} (h : RInv K w s pos run u wr) (pos' : Nat) : RInv K w s pos' run u (wr.iterAt K s pos') := by
  obtain ⟨h1, h3, h4, h5⟩ := h
  exact ⟨Lib.iterAt_heap wr K s pos pos' h1, ownsRow_iterAt h3 (by omega) s pos', Lib.below_iterAt h4 (Nat.le_refl _) s pos', by rw [Lib.iterAt_size]; exact h5⟩
theorem RInv.alloc {K : Nat} {w : World} {s : ByteArray} {pos : Nat} {run : List Int} {u : Value} {wr : World} (h : RInv K w s pos run u wr) (o : Obj) : RInv K w s pos run u (wr.alloc o) := by
  obtain ⟨h1, h3, h4, h5⟩ := h
  exact ⟨(heap_alloc_old wr o (by omega)).trans h1, h3.alloc o, h4.alloc (by omega) o, by simp; omega⟩
theorem RInv.run {K : Nat} {w : World} {s : ByteArray} {pos : Nat} {run run' : List Int} {u u' : Value} {wr w1 : World} (h : RInv K w s pos run u wr)
    (hu' : w1.ownsRow (K + 1) 21 1 u' run'.length (runCells run')) (hg : wr.grownBy w1 u.ownBlock) : RInv K w s pos run' u' w1 := by
  obtain ⟨h1, h3, h4, h5⟩ := h
  exact ⟨iter_kept h1 h3 (by omega) hg, hu', below_kept h4 h5 h3 (by omega) hg, by have := hg.size; omega⟩

theorem ownsRow_lower {w : World} {B B' : Nat} {e : TypeId} {size : Nat} {v : Value} {n : Nat} {xs : List Value} (h : w.ownsRow B e size v n xs) (hB : B' ≤ B) : w.ownsRow B' e size v n xs := by
  refine ⟨h.1, ?_⟩
  rcases h.2 with h | ⟨g, cap, cur, h1, h2, h3⟩
  · exact .inl h
  · exact .inr ⟨g, cap, cur, h1, by omega, h3⟩

set_option maxHeartbeats 1000000 in
set_option maxRecDepth 100000 in
theorem refRunes_any (s : ByteArray) (w : World) (hs : s.size ≤ 2147483648) :
    Calls Tryz.prog 116 #[.string s] w fun e w' => ∃ v, e = .returned v ∧ w'.ownsRow w.heap.size 21 1 v (runesOf s).length (runCells (runesOf s)) ∧ Below w.heap.size w w' := by
  obtain ⟨i1, gi, gz0, gz1, gz2⟩ := info_parts infoRune
  go_enter Tryz.func116, Tryz.ntmps116
  go_wp2
  go_loopw [3] (fun u wr => ∃ (pos : Nat) (run : List Int), RInv w.heap.size w s pos run u wr ∧ run.length + (rest s pos).length ≤ s.size ∧ run ++ rest s pos = runesOf s) (fun _ w' => s.size - w'.iterPos w.heap.size)
  case atStart =>
    refine ⟨0, [], ⟨?_, World.ownsRow_nil _ _ _ _, below_iter _ _ _, ?_⟩, by have := rest_length s 0; simpa using this, rfl⟩
    · exact World.iter_heap w s 0
    · simp [World.iter]
  case round =>
    obtain ⟨pos, run, hinv, hps, hc⟩ := hrel
    by_cases hp : pos < s.size
    · have hwd := width_pos s pos hp
      have hst := rest_step s pos hp
      rw [hst] at hps hc
      simp only [List.length_cons] at hps
      have HC : Hid (run ++ (((Utf8.decode s pos).1 : Int) :: rest s (pos + (Utf8.decode s pos).2)) = runesOf s) := hc
      have HS : Hid (run.length + ((rest s (pos + (Utf8.decode s pos).2)).length + 1) ≤ s.size) := hps
      have hp1 : run.length + 1 ≤ s.size := by omega
      obtain ⟨wr2, hw2⟩ : ∃ x, x = wr.iterAt w.heap.size s (pos + (Utf8.decode s pos).2) := ⟨_, rfl⟩
      have hnx : ∀ ty, (Instr.next (.pointer (some ⟨w.heap.size, 0, none⟩)) true ty).run Tryz.prog wr = .ok (.tuple #[.bool true, .int .i64 pos, .int .i32 (Utf8.decode s pos).1]) wr2 := fun ty => by rw [hw2]; exact Lib.run_next_any_at wr w.heap.size s pos ty hinv.1 hp
      have hinv2 := hinv.iter (pos + (Utf8.decode s pos).2)
      rw [← hw2] at hinv2
      have hpos : Hid (wr.iterPos w.heap.size = pos) := iterPos_of hinv.1
      clear hc hst hps hw2 hinv
      generalize hr : ((Utf8.decode s pos).1 : Int) = r at *
      generalize hwi : (Utf8.decode s pos).2 = wi at *
      clear hr hwi
      go_wp2_with (at_builtin; refine wpList_append_own _ rfl _ _ 217 rfl (w.heap.size + 1) 21 i1 (.int .i32 0) 1 4 Tryz.underlying217 gi gz0 gz1 gz2 rfl (by decide) _ _ _ rfl (hinv2.2.1.alloc _) ⟨wr2.heap.size, 0, none⟩ 1 1 [.int .i32 r] rfl rfl (cell_one_at wr2 _ _) (by intro u hu; simp at hu; subst hu; rfl) (by unfold maxLen; omega) (by omega) (by have := hinv2.2.2.2; simp; omega) ?_; intro u' w1 hown' hgrow _)
      have hown2 : w1.ownsRow (w.heap.size + 1) 21 1 u' (run ++ [r]).length (runCells (run ++ [r])) := by simpa [runCells] using hown'
      have hinv3 := (hinv2.alloc _).run hown2 hgrow
      go_roundw
      case rel => exact ⟨pos + wi, run ++ [r], hinv3, by have := HS.out; simp; omega, by rw [← HC.out]; simp⟩
      case measure => have := iterPos_of hinv3.1; have := hpos.out; omega
    · have hnx : ∀ ty, (Instr.next (.pointer (some ⟨w.heap.size, 0, none⟩)) true ty).run Tryz.prog wr = _ := fun ty => Lib.run_next_end_at wr w.heap.size s pos ty hinv.1 hp
      rw [rest_end s pos hp, List.append_nil] at hc
      subst hc
      go_wp2
      go_ret
      exact ⟨_, rfl, ownsRow_lower hinv.2.1 (by omega), hinv.2.2.1⟩

/-! ### names -/
def fname (rs : List Int) : Bool := rs.all letB && !(rs.headD 0 |> digB) && decide (1 ≤ rs.length) && decide (rs.length ≤ 12)

theorem nameGo_tail (rs : List Int) : ∀ c : Nat, 1 ≤ c → c ≤ 12 → nameGo c rs = (rs.all letB && decide (c + rs.length ≤ 12)) := by
  induction rs with
  | nil => intro c h1 h2; simp [nameGo]; omega
  | cons r rs ih =>
    intro c h1 h2
    cases hl : letB r
    · rw [nameGo_no _ _ _ (by simp [hl])]; simp [hl]
    · by_cases h12 : c = 12
      · subst h12
        rw [nameGo_no _ _ _ (by simp)]
        simp
      · rw [nameGo_yes c r rs hl (by simp; omega) (by simpa using h12), ih (c + 1) (by omega) (by omega)]
        simp only [List.all_cons, hl, Bool.true_and, List.length_cons]
        congr 1
        rw [Bool.eq_iff_iff]; simp; omega

theorem nameGo_fname (rs : List Int) : nameGo 0 rs = fname rs := by
  cases rs with
  | nil => simp [nameGo, fname]
  | cons r rs =>
    cases hl : letB r
    · rw [nameGo_no _ _ _ (by simp [hl])]; simp [fname, hl]
    · cases hd : digB r
      · rw [nameGo_yes 0 r rs hl (by simp [hd]) (by rfl), nameGo_tail rs 1 (by omega) (by omega)]
        simp only [fname, List.all_cons, hl, Bool.true_and, List.headD_cons, hd, Bool.not_false, Bool.and_true, List.length_cons]
        simp
        congr 1
        rw [Bool.eq_iff_iff]; simp; omega
      · rw [nameGo_no _ _ _ (by simp [hd])]; simp [fname, hd]

/-- A row of runes, cell by cell. -/
theorem row_at {w : World} {B : Nat} {v : Value} {rs : List Int} (h : w.ownsRow B 21 1 v rs.length (runCells rs)) : ∀ k (hk : k < rs.length), ∃ g cap, v = .slice (some ⟨g, 0, none⟩) rs.length cap ∧ w.cell? ⟨g, k, none⟩ = some (.int .i32 rs[k]) := by
  intro k hk
  rcases h.2 with ⟨rfl, h0⟩ | ⟨g, cap, cur, rfl, _⟩
  · omega
  · refine ⟨g, cap, rfl, ?_⟩
    rw [h.cellAt k (by omega)]
    simp [runCells, hk]
theorem row_shape {w : World} {B : Nat} {e : TypeId} {size n : Nat} {v : Value} {xs : List Value} (h : w.ownsRow B e size v n xs) : ∃ ao cap, v = .slice ao n cap := by
  rcases h.2 with ⟨rfl, rfl⟩ | ⟨g, cap, cur, rfl, _⟩
  · exact ⟨_, _, rfl⟩
  · exact ⟨_, _, rfl⟩

theorem fname_no (rs : List Int) (k : Nat) (hk : k < rs.length) (h : letB rs[k] = false) : fname rs = false := by
  have : rs.all letB = false := by
    rw [List.all_eq_false]
    exact ⟨rs[k], List.getElem_mem hk, by rw [h]; simp⟩
  simp [fname, this]
theorem fname_dig (rs : List Int) (hk : 0 < rs.length) (h : digB rs[0] = true) : fname rs = false := by
  cases rs with
  | nil => simp at hk
  | cons r rs => simp at h; simp [fname, h]
theorem fname_all (rs : List Int) (h : ∀ j (hj : j < rs.length), letB rs[j] = true) (h0 : ∀ hk : 0 < rs.length, digB rs[0] = false) : fname rs = (decide (1 ≤ rs.length) && decide (rs.length ≤ 12)) := by
  have ha : rs.all letB = true := by
    rw [List.all_eq_true]
    intro x hx
    obtain ⟨j, hj, rfl⟩ := List.getElem_of_mem hx
    exact h j hj
  cases rs with
  | nil => simp [fname]
  | cons r rs =>
    have := h0 (by simp)
    simp at this
    unfold fname
    rw [ha, List.headD_cons, this]
    rfl

set_option maxHeartbeats 1000000 in
set_option maxRecDepth 100000 in
theorem refName_any (s : ByteArray) (w : World) (hs : s.size ≤ 2147483648) :
    Calls Tryz.prog 81 #[.string s] w fun e w' => e = .returned (.bool (nameGo 0 (runesOf s))) ∧ Below w.heap.size w w' := by
  rw [nameGo_fname]
  have hlen := rest_length s 0
  change (runesOf s).length ≤ s.size - 0 at hlen
  go_enter Tryz.func81, Tryz.ntmps81
  go_wp2_with fail
  refine (refRunes_any s w hs).mono ?_
  rintro e w1 ⟨v, rfl, hown, hb⟩
  obtain ⟨rs, hrs⟩ : ∃ rs, runesOf s = rs := ⟨_, rfl⟩
  rw [hrs] at hown hlen
  have HRS : Hid (runesOf s = rs) := hrs
  clear hrs
  have hl : rs.length ≤ 2147483648 := by omega
  clear hlen
  obtain ⟨ao, cap, hv⟩ := row_shape hown
  have hcells := row_at hown
  subst hv
  have HC : Hid (∀ k (hk : k < rs.length), w1.cell? ⟨(ao.getD ⟨0, 0, none⟩).block, k, none⟩ = some (.int .i32 rs[k]) ∧ ao = some ⟨(ao.getD ⟨0, 0, none⟩).block, 0, none⟩) := by
    intro k hk
    obtain ⟨g, cap', h1, h2⟩ := hcells k hk
    injection h1 with h3 h4 h5
    subst h3
    exact ⟨h2, rfl⟩
  clear hcells hown
  go_wp2_with fail
  go_loop [9] (fun i => ∃ k : Nat, k ≤ rs.length ∧ i = .int .i64 k ∧ Hid (∀ j (hj : j < rs.length), j < k → letB rs[j] = true) ∧ Hid (0 < k → ∀ hk : 0 < rs.length, digB rs[0] = false)) (fun i => rs.length - (intOf i).toNat)
  case atStart => exact ⟨0, by omega, rfl, fun j hj h => absurd h (by omega), fun h => absurd h (by omega)⟩
  case round =>
    obtain ⟨k, hk, rfl, HL, HD⟩ := hrel
    by_cases hlt : k < rs.length
    · obtain ⟨hc, hao⟩ := HC.out k hlt
      generalize (ao.getD ⟨0, 0, none⟩).block = g at *
      subst hao
      have hlt' : (k : Int) < (rs.length : Int) := by omega
      have HX : Hid (∀ (h : letB rs[k] = false), fname rs = false) := fun h => fname_no rs k hlt h
      obtain ⟨r, hr⟩ : ∃ r, r = rs[k] := ⟨_, rfl⟩
      rw [← hr] at hc
      have HR : Hid (r = rs[k]) := hr
      clear hr
      cases hlb : letB r
      · go_wp2_with (go_at_call 117; refine calls_same (refLet_any _ _) ?_)
        go_ret
        have h1 := HR.out
        rw [h1] at hlb
        rw [HRS.out, fname_no rs k hlt hlb]
        exact ⟨rfl, hb⟩
      · by_cases hk0 : k = 0
        · subst hk0
          by_cases hd1 : (48 : Int) ≤ r <;> by_cases hd2 : r ≤ (57 : Int)
          rotate_right
          · exfalso; omega
          · go_wp2_with (go_at_call 117; refine calls_same (refLet_any _ _) ?_)
            go_ret
            have h1 := HR.out
            rw [HRS.out, fname_dig rs hlt (by rw [← h1]; simp [digB, hd1, hd2])]
            exact ⟨rfl, hb⟩
          all_goals
            go_wp2_with (go_at_call 117; refine calls_same (refLet_any _ _) ?_)
            go_round
            case rel =>
              refine ⟨1, by omega, by go_num, ?_, ?_⟩
              · intro j hj h
                have hj0 : j = 0 := by omega
                subst hj0
                rw [← HR.out]; exact hlb
              · intro _ _
                rw [← HR.out]
                simp [digB]; omega
            case measure => simp [intOf]; omega
        · have e0 : ((k : Int) == 0) = false := by rw [beq_eq_false_iff_ne]; omega
          go_wp2_with (go_at_call 117; refine calls_same (refLet_any _ _) ?_)
          go_round
          case rel =>
            refine ⟨k + 1, by omega, by go_num, ?_, ?_⟩
            · intro j hj h
              by_cases hjk : j = k
              · subst hjk; rw [← HR.out]; exact hlb
              · exact HL.out j hj (by omega)
            · intro _ h
              exact HD.out (by omega) h
          case measure => simp [intOf]; omega
    · have hkl : k = rs.length := by omega
      have HF : Hid (fname rs = (decide (1 ≤ rs.length) && decide (rs.length ≤ 12))) := fname_all rs (fun j hj => HL.out j hj (by omega)) (fun h => HD.out (by omega) h)
      subst hkl
      by_cases h1 : 1 ≤ rs.length
      · have h1' : (1 : Int) ≤ (rs.length : Int) := by omega
        go_wp2_with fail
        go_ret
        rw [HRS.out, HF.out]
        refine ⟨ret_bool ?_, hb⟩
        rw [Bool.eq_iff_iff]; simp; omega
      · have h1' : ¬ (1 : Int) ≤ (rs.length : Int) := by omega
        have h1d : decide ((1 : Int) ≤ (rs.length : Int)) = false := by simpa using h1'
        go_wp2_with fail
        go_ret
        rw [HRS.out, HF.out]
        refine ⟨ret_bool ?_, hb⟩
        rw [Bool.eq_iff_iff]; simp; omega

end Go.Proofs.YtkioolbjmcpjpaaGreatDoor
