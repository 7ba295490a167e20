/- The walk of the statement RunesNames. -/
import Derived.Test.YtpopboanflnphaaWakes
import Derived.Test.YtpopboanflnphaaUtf
namespace Go.Proofs.Ytpopboanflnphaa
open Go.RowKit
set_option linter.unusedVariables false

def pat (k : Nat) : Int := [97, 95, 233, 27700, 128167, 122].getD (k % 6) 0
def cur (m k : Nat) : List Int := (List.range m).map fun j => if j < k then pat j else 0
def pats (m : Nat) : List Int := (List.range m).map pat
def badRunes : List Int := [65, 45, 32, 40, 65533, 127, 46]

theorem cur_full (m : Nat) : cur m m = pats m := by
  unfold cur pats
  apply List.map_congr_left
  intro j hj
  rw [if_pos (List.mem_range.1 hj)]
theorem cur_step (m k : Nat) (h : k < m) : (cur m k).set k (pat k) = cur m (k + 1) := by
  apply List.ext_getElem
  · simp [cur]
  · intro i h1 h2
    simp only [cur, List.length_set, List.length_map, List.length_range] at h1
    rw [List.getElem_set]
    simp only [cur, List.getElem_map, List.getElem_range]
    by_cases hk : k = i
    · subst hk; simp
    · rw [if_neg hk]
      by_cases hi : i < k
      · rw [if_pos hi, if_pos (by omega)]
      · rw [if_neg hi, if_neg (by omega)]
theorem cur_length (m k : Nat) : (cur m k).length = m := by simp [cur]
theorem pats_length (m : Nat) : (pats m).length = m := by simp [pats]

theorem names_yes : ∀ m, m < 15 → nameGo 0 (pats m) = (decide (0 < m) && decide (m ≤ 12)) := by decide +kernel
theorem names_bad : ∀ m, m < 15 → ∀ k, k < m → ∀ c ∈ badRunes, nameGo 0 ((pats m).set k c) = false := by decide +kernel
theorem names_dig : ∀ m, m < 15 → ∀ k, k < m → nameGo 0 ((pats m).set k 55) = (decide (0 < k) && decide (m ≤ 12)) := by decide +kernel
theorem names_val : ∀ m, m < 15 → ∀ k, k < m → ∀ c ∈ 55 :: badRunes, ((pats m).set k c).all Utf8.valid = true := by decide +kernel
theorem pats_val : ∀ m, m < 15 → (pats m).all Utf8.valid = true := by decide +kernel
theorem name_none : nameGo 0 (runesOf ⟨#[]⟩) = false := by kernel_rfl
theorem name_junk : nameGo 0 (runesOf ⟨#[97, 255]⟩) = false := by kernel_rfl

theorem nameOf_bytes (rs : List Int) (h : rs.all Utf8.valid = true) : nameGo 0 (runesOf (runesBytes rs)) = nameGo 0 rs := by
  rw [runesOf_all rs (fun r hr => List.all_eq_true.1 h r hr)]

theorem conv_row {w : World} {B g m : Nat} {zs : List Int} (h : w.ownsRow B 21 1 (.slice (some ⟨g, 0, none⟩) m m) m (runCells zs)) :
    (convert 48 9 (.slice (some ⟨g, 0, none⟩) m m)).run Try.prog w = .ok (.string (runesBytes zs)) w := by
  have hl : zs.length = m := by have := h.1; simpa [runCells] using this
  have := run_convert_runes (P := Try.prog) w 48 9 21 ⟨g, 0, none⟩ m m zs (by omega) Try.underlying48 Try.underlying21 Try.underlying9 (by
    intro j hj
    exact h.cells (g := g) rfl j (.int .i32 (zs.getD j 0)) (by simp [runCells, hj]))
  rw [List.take_of_length_le (by omega)] at this
  exact this

theorem row_cell {w : World} {B g m : Nat} {zs : List Int} (h : w.ownsRow B 21 1 (.slice (some ⟨g, 0, none⟩) m m) m (runCells zs)) (j : Nat) (hj : j < m) : ∃ x, w.cell? ⟨g, j, none⟩ = some (.int .i32 x) := by
  have hl : zs.length = m := by have := h.1; simpa [runCells] using this
  refine ⟨zs.getD j 0, ?_⟩
  rw [h.cellAt j (by omega)]
  simp [runCells, List.getD, List.getElem?_eq_getElem (show j < zs.length by omega)]

theorem stored_row {w : World} {B g m : Nat} {zs : List Int} (h : w.ownsRow B 21 1 (.slice (some ⟨g, 0, none⟩) m m) m (runCells zs)) (j : Nat) (x : Int) :
    (w.setCell ⟨g, j, none⟩ (.int .i32 x)).ownsRow B 21 1 (.slice (some ⟨g, 0, none⟩) m m) m (runCells (zs.set j x)) := by
  have := (h.stored j (.int .i32 x)).1
  rw [show (runCells zs).set j (.int .i32 x) = runCells (zs.set j x) from by simp [runCells, List.map_set]] at this
  exact this

theorem pat_cases (k : Nat) : ((k : Int) % 6 = 0 ∧ Hid (97 = pat k)) ∨ ((k : Int) % 6 = 1 ∧ Hid (95 = pat k)) ∨ ((k : Int) % 6 = 2 ∧ Hid (233 = pat k)) ∨ ((k : Int) % 6 = 3 ∧ Hid (27700 = pat k)) ∨ ((k : Int) % 6 = 4 ∧ Hid (128167 = pat k)) ∨ ((k : Int) % 6 = 5 ∧ Hid (122 = pat k)) := by
  have h : k % 6 = 0 ∨ k % 6 = 1 ∨ k % 6 = 2 ∨ k % 6 = 3 ∨ k % 6 = 4 ∨ k % 6 = 5 := by omega
  unfold Hid pat
  rcases h with h | h | h | h | h | h
  · exact .inl ⟨by omega, by rw [h]; rfl⟩
  · exact .inr (.inl ⟨by omega, by rw [h]; rfl⟩)
  · exact .inr (.inr (.inl ⟨by omega, by rw [h]; rfl⟩))
  · exact .inr (.inr (.inr (.inl ⟨by omega, by rw [h]; rfl⟩)))
  · exact .inr (.inr (.inr (.inr (.inl ⟨by omega, by rw [h]; rfl⟩))))
  · exact .inr (.inr (.inr (.inr (.inr ⟨by omega, by rw [h]; rfl⟩))))

theorem size_setCell (w : World) (p : Addr) (v : Value) : (w.setCell p v).heap.size = w.heap.size := by simp

theorem names_step {w wr : World} {m k : Nat} (hlt : k < m) (hown : wr.ownsRow w.heap.size 21 1 (.slice (some ⟨w.heap.size, 0, none⟩) m m) m (runCells (cur m k))) (hbr : Below w.heap.size w wr) (hsr : w.heap.size < wr.heap.size) (o : Obj) (x : Int) (hx : x = pat k) :
    ((wr.setCell ⟨w.heap.size, k, none⟩ (.int .i32 x)).alloc o).ownsRow w.heap.size 21 1 (.slice (some ⟨w.heap.size, 0, none⟩) m m) m (runCells (cur m (k + 1))) ∧ Below w.heap.size w ((wr.setCell ⟨w.heap.size, k, none⟩ (.int .i32 x)).alloc o) ∧ w.heap.size < ((wr.setCell ⟨w.heap.size, k, none⟩ (.int .i32 x)).alloc o).heap.size := by
  have hs := size_setCell wr ⟨w.heap.size, k, none⟩ (.int .i32 x)
  refine ⟨?_, (hbr.setCell (Nat.le_refl _) _).alloc (by omega) o, by simp; omega⟩
  have := (stored_row hown k x).alloc o
  rw [hx, cur_step m k hlt] at this
  rw [hx]
  exact this

theorem names_end {w w5 w8 : World} {o5 o6 o7 : Obj} (hb5 : Below w.heap.size w w5) (hs5 : w.heap.size < w5.heap.size) (hb8 : Below (((w5.alloc o5).alloc o6).alloc o7).heap.size (((w5.alloc o5).alloc o6).alloc o7) w8) : Below w.heap.size w w8 := by
  have e : (((w5.alloc o5).alloc o6).alloc o7).heap.size = w5.heap.size + 3 := by simp
  exact (((hb5.alloc (by omega) o5).alloc (by simp; omega) o6).alloc (by simp; omega) o7).trans (hb8.mono (by omega))

theorem name_below (s : ByteArray) (w : World) (r : Bool) (h : nameGo 0 (runesOf s) = r) :
    Calls Try.prog 19 #[.string s] w fun e w' => e = .returned (.bool r) ∧ ∃ o, w' = w.alloc o := by
  subst h
  refine (name_any s w).mono ?_
  rintro e w' ⟨rfl, pos, rfl⟩
  exact ⟨rfl, _, rfl⟩

theorem names_yes' (m : Nat) (h1 : 1 ≤ m) (h2 : m ≤ 14) : nameGo 0 (runesOf (runesBytes (pats m))) = decide ((m : Int) ≤ 12) := by
  rw [nameOf_bytes _ (pats_val m (by omega)), names_yes m (by omega), Bool.eq_iff_iff]
  simp
  omega
theorem names_bad' (m k : Nat) (c : Int) (h2 : m ≤ 14) (hk : k < m) (hc : c ∈ badRunes) : nameGo 0 (runesOf (runesBytes ((pats m).set k c))) = false := by
  rw [nameOf_bytes _ (names_val m (by omega) k hk c (List.mem_cons_of_mem _ hc)), names_bad m (by omega) k hk c hc]
theorem names_dig' (m k : Nat) (h2 : m ≤ 14) (hk : k < m) : nameGo 0 (runesOf (runesBytes ((pats m).set k 55))) = (decide (0 < k) && decide ((m : Int) ≤ 12)) := by
  rw [nameOf_bytes _ (names_val m (by omega) k hk 55 (List.mem_cons_self ..)), names_dig m (by omega) k hk]
  congr 1
  rw [Bool.eq_iff_iff]
  simp
  omega

set_option maxHeartbeats 1000000 in
set_option maxRecDepth 100000 in
theorem names_walk (a b c : Int) (w : World) (h1 : -9223372036854775808 ≤ a) (h2 : a ≤ 9223372036854775807) (h3 : -9223372036854775808 ≤ b) (h4 : b ≤ 9223372036854775807) (h5 : -9223372036854775808 ≤ c) (h6 : c ≤ 9223372036854775807) :
    Calls Try.prog 8 #[.int .i64 a, .int .i64 b, .int .i64 c] w fun e w' => e = .returned (.bool true) ∧ Below w.heap.size w w' := by
  obtain ⟨i1, gi, gz0, gz1, gz2⟩ := info_parts Try.info21
  obtain ⟨m, hm⟩ : ∃ m : Nat, 1 + a % 14 = m := ⟨(1 + a % 14).toNat, by omega⟩
  have hm1 : 1 ≤ m := by omega
  have hm2 : m ≤ 14 := by omega
  go_enter Try.func8, Try.ntmps8
  go_wp2_with fail
  refine calls_same (within_any a 14 _ (by omega) (by omega) h1 h2) ?_
  have hm' : a % 14 = (m : Int) - 1 := by omega
  rw [hm']
  clear hm hm' h1 h2
  go_wp2_with (at_make; refine wpList_make_full _ rfl _ _ 48 rfl w.heap.size 21 i1 (.int .i32 0) 1 Try.underlying48 gi gz0 gz1 .i64 .i64 _ _ m rfl rfl (by omega) (by omega) (by rw [gz2]; omega) (by unfold maxLen; omega) (Nat.le_refl _) ?_; intro w1 hown hgrow)
  rw [show (1 + ((m : Int) - 1)) = (m : Int) from by omega]
  have hown0 : w1.ownsRow w.heap.size 21 1 (.slice (some ⟨w.heap.size, 0, none⟩) m m) m (runCells (cur m 0)) := by
    have e : (madeCells (Value.int .i32 0).cells (m * 1)).toList = runCells (cur m 0) := by
      rw [show (Value.int .i32 0).cells = #[Value.int .i32 0] from rfl, toList_madeCells_one, Nat.mul_one]
      apply List.ext_getElem
      · simp [runCells, cur]
      · intro i h1 h2
        simp [runCells, cur]
    rw [← e]; exact hown
  have hb0 : Below w.heap.size w w1 := (Below.refl _ _).grown hgrow (Nat.le_refl _) (fun k hk => by cases hk)
  have hs0 : w.heap.size < w1.heap.size := (hown.lt w.heap.size rfl).2
  clear hown hgrow
  go_loopw [16] (fun i wr => ∃ k : Nat, k ≤ m ∧ i = .int .i64 k ∧ wr.ownsRow w.heap.size 21 1 (.slice (some ⟨w.heap.size, 0, none⟩) m m) m (runCells (cur m k)) ∧ Below w.heap.size w wr ∧ w.heap.size < wr.heap.size) (fun i _ => m - (intOf i).toNat)
  case atStart => exact ⟨0, by omega, rfl, hown0, hb0, hs0⟩
  case round =>
    obtain ⟨k, hk, rfl, hown, hbr, hsr⟩ := hrel
    clear hown0 hb0 hs0
    by_cases hlt : k < m
    · have hlt' : (k : Int) < (m : Int) := by omega
      have hz := hown.frozenAt k
      obtain ⟨x0, hx0⟩ := row_cell hown k hlt
      rcases pat_cases k with ⟨hk6, HP⟩ | ⟨hk6, HP⟩ | ⟨hk6, HP⟩ | ⟨hk6, HP⟩ | ⟨hk6, HP⟩ | ⟨hk6, HP⟩
      all_goals
        go_wp2_with fail
        have hst := names_step hlt hown hbr hsr (.cells #[.int .i32 97, .int .i32 95, .int .i32 233, .int .i32 27700, .int .i32 128167, .int .i32 122] 21) _ HP.out
        go_roundw
        case rel => exact ⟨k + 1, by omega, by go_num, hst.1, hst.2.1, hst.2.2⟩
        case measure => simp [intOf]; omega
    · have hkm : k = m := by omega
      subst hkm
      rw [cur_full] at hown
      have hcv := conv_row hown
      go_wp2_with fail
      refine (name_below _ _ _ (names_yes' k hm1 hm2)).mono ?_
      rintro e w2 ⟨rfl, o2, rfl⟩
      have hown2 := hown.alloc o2
      have hb2 := hbr.alloc (by omega) o2
      have hs2 : w.heap.size < (wr.alloc o2).heap.size := by simp; omega
      clear hcv hown hbr
      generalize wr.alloc o2 = w2 at *
      obtain ⟨j, hj⟩ : ∃ j : Nat, b % (k : Int) = j := ⟨(b % (k : Int)).toNat, by have := Int.emod_nonneg b (show (k : Int) ≠ 0 by omega); omega⟩
      have hjk : j < k := by have := Int.emod_lt_of_pos b (show (0 : Int) < (k : Int) by omega); omega
      have hjk' : (j : Int) < (k : Int) := by omega
      go_wp2_with fail
      refine calls_same (within_any b k _ (by omega) (by omega) h3 h4) ?_
      rw [hj]
      have HJ : Hid (b % (k : Int) = j) := hj
      clear hj
      obtain ⟨q, hq⟩ : ∃ q : Nat, c % 7 = q := ⟨(c % 7).toNat, by omega⟩
      have hq7 : q < 7 := by omega
      have hq7' : (q : Int) < 7 := by omega
      obtain ⟨bd, hbd⟩ : ∃ bd, bd = badRunes.getD q 0 := ⟨_, rfl⟩
      have HB : Hid (bd ∈ badRunes) := by
        unfold Hid
        rw [hbd, List.getD, List.getElem?_eq_getElem (show q < badRunes.length from hq7)]
        exact List.getElem_mem _
      have hcell : (w2.alloc (.cells #[.int .i32 65, .int .i32 45, .int .i32 32, .int .i32 40, .int .i32 65533, .int .i32 127, .int .i32 46] 21)).cell? ⟨w2.heap.size, q, none⟩ = some (.int .i32 bd) := by
        rw [World.cell?_alloc_mark, show (#[.int .i32 65, .int .i32 45, .int .i32 32, .int .i32 40, .int .i32 65533, .int .i32 127, .int .i32 46] : Array Value) = (badRunes.map (Value.int .i32)).toArray from rfl, hbd]
        simp [List.getD, List.getElem?_eq_getElem (show q < badRunes.length from hq7)]
      clear hbd
      have hfz := hown2.frozenAt j
      obtain ⟨x1, hx1⟩ := row_cell hown2 j hjk
      go_wp2_with fail
      refine calls_same (within_any c 7 _ (by omega) (by omega) h5 h6) ?_
      rw [hq]
      clear hq
      have hcv3 := conv_row ((stored_row hown2 j bd).alloc (.cells #[.int .i32 65, .int .i32 45, .int .i32 32, .int .i32 40, .int .i32 65533, .int .i32 127, .int .i32 46] 21))
      go_wp2_with fail
      refine (name_below _ _ _ (names_bad' k j bd hm2 hjk HB.out)).mono ?_
      rintro e w4 ⟨rfl, o4, rfl⟩
      have hown4 := ((stored_row hown2 j bd).alloc (.cells #[.int .i32 65, .int .i32 45, .int .i32 32, .int .i32 40, .int .i32 65533, .int .i32 127, .int .i32 46] 21)).alloc o4
      have hb4 : Below w.heap.size w (((w2.setCell ⟨w.heap.size, j, none⟩ (.int .i32 bd)).alloc (.cells #[.int .i32 65, .int .i32 45, .int .i32 32, .int .i32 40, .int .i32 65533, .int .i32 127, .int .i32 46] 21)).alloc o4) :=
        ((hb2.setCell (Nat.le_refl _) _).alloc (by rw [size_setCell]; omega) _).alloc (by simp; omega) _
      have hs4 : w.heap.size < (((w2.setCell ⟨w.heap.size, j, none⟩ (.int .i32 bd)).alloc (.cells #[.int .i32 65, .int .i32 45, .int .i32 32, .int .i32 40, .int .i32 65533, .int .i32 127, .int .i32 46] 21)).alloc o4).heap.size := by simp; omega
      clear hcv3 hown2 hb2 hfz hx1 hcell
      generalize ((w2.setCell ⟨w.heap.size, j, none⟩ (.int .i32 bd)).alloc (.cells #[.int .i32 65, .int .i32 45, .int .i32 32, .int .i32 40, .int .i32 65533, .int .i32 127, .int .i32 46] 21)).alloc o4 = w4 at *
      have hfz := hown4.frozenAt j
      obtain ⟨x1, hx1⟩ := row_cell hown4 j hjk
      have hcv5 := conv_row (stored_row hown4 j 55)
      rw [List.set_set] at hcv5
      have hb5 : Below w.heap.size w (w4.setCell ⟨w.heap.size, j, none⟩ (.int .i32 55)) := hb4.setCell (Nat.le_refl _) _
      have hs5 : w.heap.size < (w4.setCell ⟨w.heap.size, j, none⟩ (.int .i32 55)).heap.size := by rw [size_setCell]; exact hs4
      clear hown4 hb4 hs4
      by_cases hj0 : 0 < j
      · have hj0' : (0 : Int) < (j : Int) := by omega
        have hdig := names_dig' k j hm2 hjk
        rw [decide_eq_true hj0, Bool.true_and] at hdig
        go_wp2_with fail
        refine (name_below _ _ _ hdig).mono ?_
        rintro e w5 ⟨rfl, o5, rfl⟩
        clear hdig
        go_wp2_with fail
        refine (name_below _ _ _ name_none).mono ?_
        rintro e w6 ⟨rfl, o6, rfl⟩
        go_wp2_with fail
        refine (name_below _ _ _ name_junk).mono ?_
        rintro e w7 ⟨rfl, o7, rfl⟩
        go_wp2_with fail
        refine (wakes_any _).mono ?_
        rintro e w8 ⟨rfl, hb8⟩
        go_wp2_with fail
        go_ret
        exact ⟨rfl, names_end hb5 hs5 hb8⟩
      · have hj0' : ¬ (0 : Int) < (j : Int) := by omega
        have hj0d : decide ((0 : Int) < (j : Int)) = false := by simpa using hj0'
        have hdig := names_dig' k j hm2 hjk
        rw [decide_eq_false hj0, Bool.false_and] at hdig
        go_wp2_with fail
        refine (name_below _ _ _ hdig).mono ?_
        rintro e w5 ⟨rfl, o5, rfl⟩
        clear hdig
        go_wp2_with fail
        refine (name_below _ _ _ name_none).mono ?_
        rintro e w6 ⟨rfl, o6, rfl⟩
        go_wp2_with fail
        refine (name_below _ _ _ name_junk).mono ?_
        rintro e w7 ⟨rfl, o7, rfl⟩
        go_wp2_with fail
        refine (wakes_any _).mono ?_
        rintro e w8 ⟨rfl, hb8⟩
        go_wp2_with fail
        go_ret
        exact ⟨rfl, names_end hb5 hs5 hb8⟩

end Go.Proofs.Ytpopboanflnphaa
