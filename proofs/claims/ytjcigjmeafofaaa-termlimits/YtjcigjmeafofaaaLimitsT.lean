/- The walk of the statement TermLimits. -/
import Derived.Test.YtjcigjmeafofaaaTermCheck
import Derived.Test.YtjcigjmeafofaaaObsT
namespace Go.Proofs.Ytjcigjmeafofaaa
open Go.RowKit
set_option linter.unusedVariables false

/-- So many Gives round a One. -/
def gives : Nat → C
  | 0 => .one ⟨#[117, 115, 100]⟩
  | n + 1 => .give (gives n)
theorem gives_ok : ∀ n, (gives n).Ok
  | 0 => by show (⟨#[117, 115, 100]⟩ : ByteArray).size ≤ _; decide
  | n + 1 => gives_ok n
theorem gives_nodes : ∀ n, (gives n).nodes = n + 1
  | 0 => rfl
  | n + 1 => by show (gives n).nodes + 1 = _; rw [gives_nodes n]
theorem gives_depth : ∀ n, (gives n).depth = n + 1
  | 0 => rfl
  | n + 1 => by show (gives n).depth + 1 = _; rw [gives_depth n]
theorem gives_weight : ∀ n, (gives n).weight = n + 1
  | 0 => rfl
  | n + 1 => by show (gives n).weight + 1 = _; rw [gives_weight n]
theorem gives_labels : ∀ n, (gives n).labels = []
  | 0 => rfl
  | n + 1 => gives_labels n
theorem form_usd : nameGo 0 (runesOf ⟨#[117, 115, 100]⟩) = true := by decide +kernel
theorem gives_form : ∀ n, formC (gives n) = true
  | 0 => form_usd
  | n + 1 => gives_form n
theorem chk_gives (n : Nat) (h : n ≤ 20) : chkC (gives n) = if 11 < n then 5 else 0 := by
  unfold chkC
  rw [if_pos (gives_form n), gives_nodes, gives_depth, gives_labels]
  by_cases h : 11 < n
  · rw [if_pos h, if_pos (by omega)]
  · rw [if_neg h, if_neg (by omega), if_neg (by decide)]
/-- The contracts that the statement asks for. -/
def limC (q z : Nat) (i : Nat) : C :=
  if i = 0 then gives (9 + q) else if i = 1 then .one ⟨#[]⟩ else if i = 2 then .one ⟨#[85, 83, 68]⟩ else if i = 3 then .or ⟨#[]⟩ .zero .zero
  else if i = 4 then .or ⟨#[97]⟩ .zero (.or ⟨#[97]⟩ .zero .zero) else if i = 5 then .or ⟨#[97]⟩ .zero (.or ⟨#[98]⟩ .zero .zero)
  else if i = 6 then .when (-1) .zero else if i = 7 then .when 10001 .zero else if i = 8 then .scale (.odd (.iface 34 (.agg #[]))) .zero
  else if i = 9 then .scale (.const 1) (.odd (.iface 48 (.agg #[.int .i64 1]))) else if i = 10 then .iff (.const 1) .zero (.odd .nilIface)
  else if i = 11 then .give (.odd .nilIface) else .odd (.iface 82 (.pointer (some ⟨z, 0, none⟩)))
def limE (q : Nat) (i : Nat) : Int := if i = 0 then (if 12 < 10 + q then 5 else 0) else if i = 4 then 4 else if i = 5 then 0 else 2
theorem lim13 (i : Nat) (h : i < 13) : i = 0 ∨ i = 1 ∨ i = 2 ∨ i = 3 ∨ i = 4 ∨ i = 5 ∨ i = 6 ∨ i = 7 ∨ i = 8 ∨ i = 9 ∨ i = 10 ∨ i = 11 ∨ i = 12 := by omega
theorem strangeC_of (t : TypeId) (x : Value) (h0 : t ≠ 34) (h1 : t ≠ 42) (h2 : t ≠ 37) (h3 : t ≠ 46) (h4 : t ≠ 44) (h5 : t ≠ 51) (h6 : t ≠ 39) (h7 : t ≠ 53) : (C.odd (.iface t x)).Ok := .inr ⟨t, x, rfl, h0, h1, h2, h3, h4, h5, h6, h7⟩
theorem lim_ok (q z i : Nat) (h : i < 13) : (limC q z i).Ok := by
  have hs : ∀ s : ByteArray, s.size ≤ 10 → s.size ≤ 2147483648 := fun s h => by omega
  rcases lim13 i h with rfl | rfl | rfl | rfl | rfl | rfl | rfl | rfl | rfl | rfl | rfl | rfl | rfl
  · exact gives_ok _
  · exact hs _ (by decide)
  · exact hs _ (by decide)
  · exact ⟨hs _ (by decide), trivial, trivial⟩
  · exact ⟨hs _ (by decide), trivial, hs _ (by decide), trivial, trivial⟩
  · exact ⟨hs _ (by decide), trivial, hs _ (by decide), trivial, trivial⟩
  · exact ⟨by decide, trivial⟩
  · exact ⟨by decide, trivial⟩
  · exact ⟨.inr ⟨_, _, rfl, by decide, by decide, by decide, by decide, by decide, by decide⟩, trivial⟩
  · exact ⟨by show _ ∧ _; decide, strangeC_of _ _ (by decide) (by decide) (by decide) (by decide) (by decide) (by decide) (by decide) (by decide)⟩
  · exact ⟨by show _ ∧ _; decide, trivial, .inl rfl⟩
  · exact .inl rfl
  · exact strangeC_of _ _ (by decide) (by decide) (by decide) (by decide) (by decide) (by decide) (by decide) (by decide)
theorem lim_weight (q z i : Nat) (h : i < 13) (hq : q < 4) : (limC q z i).weight ≤ 1000000 := by
  rcases lim13 i h with rfl | rfl | rfl | rfl | rfl | rfl | rfl | rfl | rfl | rfl | rfl | rfl | rfl
  · show (gives (9 + q)).weight ≤ _; rw [gives_weight]; omega
  all_goals simp [limC, C.weight, O.nodes]
theorem lim_chk (q z i : Nat) (h : i < 13) (hq : q < 4) : chkC (limC q z i) = limE q i := by
  rcases lim13 i h with rfl | rfl | rfl | rfl | rfl | rfl | rfl | rfl | rfl | rfl | rfl | rfl | rfl
  · show chkC (gives (9 + q)) = if 12 < 10 + q then 5 else 0
    rw [chk_gives _ (by omega)]
    by_cases h : 11 < 9 + q
    · rw [if_pos h, if_pos (by omega)]
    · rw [if_neg h, if_neg (by omega)]
  · show chkC (.one ⟨#[]⟩) = 2; decide +kernel
  · show chkC (.one ⟨#[85, 83, 68]⟩) = 2; decide +kernel
  · show chkC (.or ⟨#[]⟩ .zero .zero) = 2; decide +kernel
  · show chkC (.or ⟨#[97]⟩ .zero (.or ⟨#[97]⟩ .zero .zero)) = 4; decide +kernel
  · show chkC (.or ⟨#[97]⟩ .zero (.or ⟨#[98]⟩ .zero .zero)) = 0; decide +kernel
  · show chkC (.when (-1) .zero) = 2; decide +kernel
  · show chkC (.when 10001 .zero) = 2; decide +kernel
  · rfl
  · rfl
  · rfl
  · rfl
  · rfl
/-- The cells of the list. -/
def limL (v : Value) (E : Int) (z : Nat) : Array Value := #[v, .int .i64 E, .iface 42 (.agg #[.string ⟨#[]⟩]), .int .i64 2, .iface 42 (.agg #[.string ⟨#[85, 83, 68]⟩]), .int .i64 2,
  .iface 44 (.agg #[.string ⟨#[]⟩, .iface 34 (.agg #[]), .iface 34 (.agg #[])]), .int .i64 2,
  .iface 44 (.agg #[.string ⟨#[97]⟩, .iface 34 (.agg #[]), .iface 44 (.agg #[.string ⟨#[97]⟩, .iface 34 (.agg #[]), .iface 34 (.agg #[])])]), .int .i64 4,
  .iface 44 (.agg #[.string ⟨#[97]⟩, .iface 34 (.agg #[]), .iface 44 (.agg #[.string ⟨#[98]⟩, .iface 34 (.agg #[]), .iface 34 (.agg #[])])]), .int .i64 0,
  .iface 39 (.agg #[.int .i64 (-1), .iface 34 (.agg #[])]), .int .i64 2, .iface 39 (.agg #[.int .i64 10001, .iface 34 (.agg #[])]), .int .i64 2,
  .iface 51 (.agg #[.iface 34 (.agg #[]), .iface 34 (.agg #[])]), .int .i64 2,
  .iface 51 (.agg #[.iface 48 (.agg #[.int .i64 1]), .iface 48 (.agg #[.int .i64 1])]), .int .i64 2,
  .iface 53 (.agg #[.iface 48 (.agg #[.int .i64 1]), .iface 34 (.agg #[]), .nilIface]), .int .i64 2,
  .iface 37 (.agg #[.nilIface]), .int .i64 2, .iface 82 (.pointer (some ⟨z, 0, none⟩)), .int .i64 2]
theorem limL_get (q z i : Nat) (v : Value) (E : Int) (hv : (limC q z 0).val = v) (hE : limE q 0 = E) (h : i < 13) : (limL v E z)[i * 2]? = some (limC q z i).val ∧ (limL v E z)[i * 2 + 1]? = some (.int .i64 (limE q i)) := by
  rcases lim13 i h with rfl | rfl | rfl | rfl | rfl | rfl | rfl | rfl | rfl | rfl | rfl | rfl | rfl
  · rw [hv, hE]; exact ⟨rfl, rfl⟩
  all_goals exact ⟨rfl, rfl⟩

set_option maxHeartbeats 4000000 in
set_option maxRecDepth 100000 in
theorem limitsT_walk (n day : Int) (w : World) (h1 : -9223372036854775808 ≤ n) (h2 : n ≤ 9223372036854775807) (hd1 : -9223372036854775808 ≤ day) (hd2 : day ≤ 9223372036854775807) :
    Calls Try.prog 7 #[.int .i64 n, .int .i64 day] w fun e w' => e = .returned (.bool true) ∧ Below w.heap.size w w' := by
  obtain ⟨q, hq⟩ : ∃ q : Nat, n % 4 = q := ⟨(n % 4).toNat, by omega⟩
  have hq4 : q < 4 := by omega
  obtain ⟨b, hb, hcase⟩ : ∃ b, dayB day = b ∧ ((0 ≤ day ∧ day ≤ 10000 ∧ b = true) ∨ (0 ≤ day ∧ ¬ day ≤ 10000 ∧ b = false) ∨ (¬ 0 ≤ day ∧ b = false)) := by
    refine ⟨_, rfl, ?_⟩
    unfold dayB
    by_cases h1 : 0 ≤ day <;> by_cases h2 : day ≤ 10000 <;> simp [h1, h2]
  have HCD : Hid (chkC (.when day .zero) = if b = true then 0 else 2) := by
    unfold Hid chkC
    rw [← hb]
    show (if (dayB day && true) = true then _ else _) = _
    rw [Bool.and_true]
    rfl
  go_enter Try.func7, Try.ntmps7
  go_wp2_with fail
  refine calls_same (within_any _ 4 _ (by omega) (by omega) h1 h2) ?_
  rw [hq]
  clear h1 h2 hq hb
  go_wp2_with fail
  go_loop [6, 5] (fun s6 s5 => ∃ i : Nat, i + 1 ≤ 10 + q ∧ s6 = .int .i64 ((i : Int) + 1) ∧ s5 = (gives i).val) (fun s6 _ => 10 + q - (intOf s6).toNat)
  case atStart => exact ⟨0, by omega, rfl, rfl⟩
  case round =>
    obtain ⟨i, hi, rfl, rfl⟩ := hrel
    have qv := (gives i).one' (gives_ok i)
    obtain ⟨v, hv⟩ : ∃ v, (gives i).val = v := ⟨_, rfl⟩
    have HX := hidIn hv
    rw [hv] at qv
    rw [hv]
    have sv := qv.store
    have cv := qv.cells
    have mv := qv.cells
    unfold Value.cells at mv
    clear hv qv
    by_cases hlt : i + 1 < 10 + q
    · have hlt' : (i : Int) + 1 < 10 + (q : Int) := by omega
      go_wp2_with fail
      go_round
      case rel => exact ⟨i + 1, by omega, by go_num, by show _ = Value.iface _ (.agg #[(gives i).val]); rw [HX.out]⟩
      case measure => simp [intOf]; omega
    · have hlt' : ¬ (i : Int) + 1 < 10 + (q : Int) := by omega
      have hi9 : i = 9 + q := by omega
      subst hi9
      have HE : Hid (limE q 0 = if 12 < 10 + q then 5 else 0) := rfl
      have HX0 : Hid ((limC q w.heap.size 0).val = v) := HX.out
      go_upto_if 26 with fail
      go_cut [7] (fun s7 wx => s7 = .int .i64 (limE q 0) ∧ w = wx)
      case first =>
        by_cases h12 : 12 < 10 + q
        · have h12' : (12 : Int) < 10 + (q : Int) := by omega
          go_wp2_with fail
          go_meet
          case rel => exact ⟨by rw [HE.out, if_pos h12], rfl⟩
        · have h12' : ¬ (12 : Int) < 10 + (q : Int) := by omega
          go_wp2_with fail
          go_meet
          case rel => exact ⟨by rw [HE.out, if_neg h12], rfl⟩
      case rest =>
        obtain ⟨rfl, rfl⟩ := hcut
        go_upto_region 10 with fail
        go_cut [8] (fun s8 wx => s8 = .bool b ∧ w = wx)
        case first =>
          rcases hcase with ⟨k1, k2, rfl⟩ | ⟨k1, k2, rfl⟩ | ⟨k1, rfl⟩
          · have kd : decide ((0 : Int) ≤ day) = true := decide_eq_true k1
            go_wp2_with fail
            go_meet
            case rel => exact ⟨rfl, rfl⟩
          · have kd : decide ((0 : Int) ≤ day) = true := decide_eq_true k1
            go_wp2_with fail
            go_meet
            case rel => exact ⟨by first | rfl | exact congrArg Value.bool (decide_eq_false (by omega)), rfl⟩
          · have kd : decide ((0 : Int) ≤ day) = false := decide_eq_false (by omega)
            go_wp2_with fail
            go_meet
            case rel => exact ⟨rfl, rfl⟩
        case rest =>
          obtain ⟨rfl, rfl⟩ := hcut
          generalize hE0 : limE q 0 = E at *
          have HE0 := hidIn hE0
          clear hE0 HE hcase hlt hi
          go_wp2_with fail
          obtain ⟨W, hW⟩ : ∃ W, W = (w.alloc (.cells #[] 34)).alloc (.cells (limL v E w.heap.size) 81) := ⟨_, rfl⟩
          have HB : Hid (Below w.heap.size w W) := by rw [hW]; exact below_alloc (below_alloc (Below.refl _ _) _) _
          have HL : Hid (W.heap[w.heap.size + 1]? = some (.cells (limL v E w.heap.size) 81 (0, 0))) := by rw [hW]; exact heap_alloc2_new _ _ _
          have HZ : Hid (W.heap[w.heap.size]? = some (.cells #[] 34 (0, 0))) := by rw [hW]; exact heap_keeps (heap_alloc_new _ _) _
          have HG : Hid (∀ i, i < 13 → (limL v E w.heap.size)[i * 2]? = some (limC q w.heap.size i).val ∧ (limL v E w.heap.size)[i * 2 + 1]? = some (.int .i64 (limE q i))) := fun i hi => limL_get q w.heap.size i v E HX0.out HE0.out hi
          unfold limL at hW
          rw [← hW]
          clear hW HX HX0 HE0 sv cv mv
          have hWs : w.heap.size + 1 < W.heap.size := (Array.getElem?_eq_some_iff.1 HL.out).1
          go_loopw [110] (fun s110 wr => ∃ i : Nat, i ≤ 13 ∧ s110 = .int .i64 i ∧ Below W.heap.size W wr) (fun s110 _ => 13 - (intOf s110).toNat)
          case atStart => exact ⟨0, by omega, rfl, Below.refl _ _⟩
          case round =>
            obtain ⟨i, hi, rfl, hbr⟩ := hrel
            have HBR := hidIn hbr
            by_cases hlt : i < 13
            · have hlt' : (i : Int) < 13 := by omega
              have hblk := (hbr.block (w.heap.size + 1) (by omega)).trans HL.out
              have hx0 := (cell_of_row _ _ (i * 2) _ _ _ hblk).trans (HG.out i hlt).1
              have hx1 := (cell_of_row _ _ (i * 2 + 1) _ _ _ hblk).trans (HG.out i hlt).2
              have qv := (limC q w.heap.size i).one' (lim_ok _ _ _ hlt)
              have HCK : Hid (∀ w', Calls Try.prog 21 #[(limC q w.heap.size i).val] w' fun e w'' => e = .returned (.int .i64 (limE q i)) ∧ Below w'.heap.size w' w'') := fun w' => by
                have h := checkT_any (limC q w.heap.size i) (lim_ok _ _ _ hlt) (lim_weight _ _ _ hlt hq4) w'
                rw [lim_chk _ _ _ hlt hq4] at h
                exact h
              generalize limE q i = E1 at *
              generalize (limC q w.heap.size i).val = v1 at *
              have sv := qv.store
              have cv := qv.cells
              have mv := qv.cells
              unfold Value.cells at mv
              clear hbr hblk qv
              go_wp2_with fail
              obtain ⟨W2, hW2⟩ : ∃ W2, W2 = wr.alloc (.cells #[v1, .int .i64 E1] 81) := ⟨_, rfl⟩
              have HB2 : Hid (Below W.heap.size W W2) := by rw [hW2]; exact HBR.out.alloc HBR.out.size _
              have HK2 : Hid (W2.heap[wr.heap.size]? = some (.cells #[v1, .int .i64 E1] 81 (0, 0))) := by rw [hW2]; exact heap_alloc_new _ _
              have HF : Hid (∀ w', Below W2.heap.size W2 w' → w'.cell? ⟨wr.heap.size, 0, none⟩ = some v1 ∧ w'.cell? ⟨wr.heap.size, 1, none⟩ = some (.int .i64 E1)) := fun w' hw' => by
                have h := (hw'.block _ (Array.getElem?_eq_some_iff.1 HK2.out).1).trans HK2.out
                exact ⟨(cell_of_row _ _ _ _ _ _ h).trans rfl, (cell_of_row _ _ _ _ _ _ h).trans rfl⟩
              rw [← hW2]
              clear hW2 hx0 hx1
              obtain ⟨d0, d1⟩ := HF.out W2 (Below.refl _ _)
              go_region_with (go_at_call 21; refine (HCK.out _).mono ?_; rintro e wA ⟨rfl, hA⟩; have hxA : Below W2.heap.size W2 wA := (below_drew (Below.refl _ _)).trans hA; have HXA := hidIn hxA; obtain ⟨cA0, cA1⟩ := HF.out wA hxA; clear hA hxA)
              all_goals
                go_wp2_with fail
                go_roundw
                case rel => exact ⟨i + 1, by omega, by go_num, HB2.out.trans (HXA.out.mono HB2.out.size)⟩
                case measure => simp [intOf]; omega
            · have hi13 : i = 13 := by omega
              subst hi13
              have HOKW : Hid ((C.when day .zero).Ok) := ⟨⟨hd1, hd2⟩, trivial⟩
              go_wp2_with fail
              refine (checkT_any (.when day .zero) HOKW.out (by simp [C.weight]) _).mono ?_
              rintro e w3 ⟨rfl, hb3⟩
              rw [HCD.out]
              have HB3 : Hid (Below W.heap.size W w3) := HBR.out.trans (hb3.mono HBR.out.size)
              clear hb3 hbr
              cases b
              all_goals
                simp only [if_true, if_false, Bool.false_eq_true]
                go_wp2_with fail
                refine (wakesT_any _).mono ?_
                rintro e w4 ⟨rfl, hb4⟩
                go_wp2_with fail
                go_ret
                have h3 := HB.out.trans (HB3.out.mono HB.out.size)
                exact ⟨rfl, h3.trans (hb4.mono h3.size)⟩

end Go.Proofs.Ytjcigjmeafofaaa
