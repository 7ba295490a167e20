/- The document's own answers: names and numbers, walked. -/
import Derived.Test.YtpopboanflnphaaRefA
namespace Go.Proofs.Ytpopboanflnphaa
open Go.RowKit
set_option linter.unusedVariables false

/-- A row of runes, cell by cell. -/
theorem row_at {w : World} {B : Nat} {v : Value} {rs : List Int} (h : w.ownsRow B 21 1 v rs.length (runCells rs)) : ∀ k (hk : k < rs.length), ∃ g cap, v = .slice (some ⟨g, 0, none⟩) rs.length cap ∧ w.cell? ⟨g, k, none⟩ = some (.int .i32 rs[k]) := by
  intro k hk
  rcases h.2 with ⟨rfl, h0⟩ | ⟨g, cap, cur, rfl, _⟩
  · omega
  · refine ⟨g, cap, rfl, ?_⟩
    rw [h.cellAt k (by omega)]
    simp [runCells, hk]
theorem row_shape {w : World} {B : Nat} {e : TypeId} {size n : Nat} {v : Value} {xs : List Value} (h : w.ownsRow B e size v n xs) : ∃ ao cap, v = .slice ao n cap := by
  rcases h.2 with ⟨rfl, rfl⟩ | ⟨g, cap, cur, rfl, _⟩
  · exact ⟨_, _, rfl⟩
  · exact ⟨_, _, rfl⟩

theorem fname_no (rs : List Int) (k : Nat) (hk : k < rs.length) (h : letB rs[k] = false) : fname rs = false := by
  have : rs.all letB = false := by
    rw [List.all_eq_false]
    exact ⟨rs[k], List.getElem_mem hk, by rw [h]; simp⟩
  simp [fname, this]
theorem fname_dig (rs : List Int) (hk : 0 < rs.length) (h : digB rs[0] = true) : fname rs = false := by
  cases rs with
  | nil => simp at hk
  | cons r rs => simp at h; simp [fname, h]
theorem fname_all (rs : List Int) (h : ∀ j (hj : j < rs.length), letB rs[j] = true) (h0 : ∀ hk : 0 < rs.length, digB rs[0] = false) : fname rs = (decide (1 ≤ rs.length) && decide (rs.length ≤ 12)) := by
  have ha : rs.all letB = true := by
    rw [List.all_eq_true]
    intro x hx
    obtain ⟨j, hj, rfl⟩ := List.getElem_of_mem hx
    exact h j hj
  cases rs with
  | nil => simp [fname]
  | cons r rs =>
    have := h0 (by simp)
    simp at this
    unfold fname
    rw [ha, List.headD_cons, this]
    rfl

set_option maxHeartbeats 1000000 in
set_option maxRecDepth 100000 in
theorem refName_any (s : ByteArray) (w : World) (hs : s.size ≤ 2147483648) :
    Calls Try.prog 20 #[.string s] w fun e w' => e = .returned (.bool (nameGo 0 (runesOf s))) ∧ Below w.heap.size w w' := by
  rw [nameGo_fname]
  have hlen := rest_length s 0
  change (runesOf s).length ≤ s.size - 0 at hlen
  go_enter Try.func20, Try.ntmps20
  go_wp2_with fail
  refine (refRunes_any s w hs).mono ?_
  rintro e w1 ⟨v, rfl, hown, hb⟩
  obtain ⟨rs, hrs⟩ : ∃ rs, runesOf s = rs := ⟨_, rfl⟩
  rw [hrs] at hown hlen
  have HRS : Hid (runesOf s = rs) := hrs
  clear hrs
  have hl : rs.length ≤ 2147483648 := by omega
  clear hlen
  obtain ⟨ao, cap, hv⟩ := row_shape hown
  have hcells := row_at hown
  subst hv
  have HC : Hid (∀ k (hk : k < rs.length), w1.cell? ⟨(ao.getD ⟨0, 0, none⟩).block, k, none⟩ = some (.int .i32 rs[k]) ∧ ao = some ⟨(ao.getD ⟨0, 0, none⟩).block, 0, none⟩) := by
    intro k hk
    obtain ⟨g, cap', h1, h2⟩ := hcells k hk
    injection h1 with h3 h4 h5
    subst h3
    exact ⟨h2, rfl⟩
  clear hcells hown
  go_wp2_with fail
  go_loop [9] (fun i => ∃ k : Nat, k ≤ rs.length ∧ i = .int .i64 k ∧ Hid (∀ j (hj : j < rs.length), j < k → letB rs[j] = true) ∧ Hid (0 < k → ∀ hk : 0 < rs.length, digB rs[0] = false)) (fun i => rs.length - (intOf i).toNat)
  case atStart => exact ⟨0, by omega, rfl, fun j hj h => absurd h (by omega), fun h => absurd h (by omega)⟩
  case round =>
    obtain ⟨k, hk, rfl, HL, HD⟩ := hrel
    by_cases hlt : k < rs.length
    · obtain ⟨hc, hao⟩ := HC.out k hlt
      generalize (ao.getD ⟨0, 0, none⟩).block = g at *
      subst hao
      have hlt' : (k : Int) < (rs.length : Int) := by omega
      have HX : Hid (∀ (h : letB rs[k] = false), fname rs = false) := fun h => fname_no rs k hlt h
      obtain ⟨r, hr⟩ : ∃ r, r = rs[k] := ⟨_, rfl⟩
      rw [← hr] at hc
      have HR : Hid (r = rs[k]) := hr
      clear hr
      cases hlb : letB r
      · go_wp2_with (go_at_call 18; refine calls_same (refLet_any _ _) ?_)
        go_ret
        have h1 := HR.out
        rw [h1] at hlb
        rw [HRS.out, fname_no rs k hlt hlb]
        exact ⟨rfl, hb⟩
      · by_cases hk0 : k = 0
        · subst hk0
          by_cases hd1 : (48 : Int) ≤ r <;> by_cases hd2 : r ≤ (57 : Int)
          rotate_right
          · exfalso; omega
          · go_wp2_with (go_at_call 18; refine calls_same (refLet_any _ _) ?_)
            go_ret
            have h1 := HR.out
            rw [HRS.out, fname_dig rs hlt (by rw [← h1]; simp [digB, hd1, hd2])]
            exact ⟨rfl, hb⟩
          all_goals
            go_wp2_with (go_at_call 18; refine calls_same (refLet_any _ _) ?_)
            go_round
            case rel =>
              refine ⟨1, by omega, by go_num, ?_, ?_⟩
              · intro j hj h
                have hj0 : j = 0 := by omega
                subst hj0
                rw [← HR.out]; exact hlb
              · intro _ _
                rw [← HR.out]
                simp [digB]; omega
            case measure => simp [intOf]; omega
        · have e0 : ((k : Int) == 0) = false := by rw [beq_eq_false_iff_ne]; omega
          go_wp2_with (go_at_call 18; refine calls_same (refLet_any _ _) ?_)
          go_round
          case rel =>
            refine ⟨k + 1, by omega, by go_num, ?_, ?_⟩
            · intro j hj h
              by_cases hjk : j = k
              · subst hjk; rw [← HR.out]; exact hlb
              · exact HL.out j hj (by omega)
            · intro _ h
              exact HD.out (by omega) h
          case measure => simp [intOf]; omega
    · have hkl : k = rs.length := by omega
      have HF : Hid (fname rs = (decide (1 ≤ rs.length) && decide (rs.length ≤ 12))) := fname_all rs (fun j hj => HL.out j hj (by omega)) (fun h => HD.out (by omega) h)
      subst hkl
      by_cases h1 : 1 ≤ rs.length
      · have h1' : (1 : Int) ≤ (rs.length : Int) := by omega
        go_wp2_with fail
        go_ret
        rw [HRS.out, HF.out]
        refine ⟨ret_bool ?_, hb⟩
        rw [Bool.eq_iff_iff]; simp; omega
      · have h1' : ¬ (1 : Int) ≤ (rs.length : Int) := by omega
        have h1d : decide ((1 : Int) ≤ (rs.length : Int)) = false := by simpa using h1'
        go_wp2_with fail
        go_ret
        rw [HRS.out, HF.out]
        refine ⟨ret_bool ?_, hb⟩
        rw [Bool.eq_iff_iff]; simp; omega

end Go.Proofs.Ytpopboanflnphaa
