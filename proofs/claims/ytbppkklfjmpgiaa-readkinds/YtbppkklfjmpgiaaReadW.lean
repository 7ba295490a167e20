/- How great what is read can be; what read.Term and read.Obs answer. -/
import Derived.Test.YtbppkklfjmpgiaaReadO
namespace Go.Proofs.Ytbppkklfjmpgiaa
open Go.RowKit
set_option linter.unusedVariables false

theorem refuseR_left (r : RS) (p e : Int) : (refuseR r p e).left = r.left := by unfold refuseR; split <;> rfl
theorem fitR_left (r : RS) (s : Rn.Sg) (ok : Bool) : (fitR r s ok).left = r.left := by unfold fitR; split; rfl; exact refuseR_left _ _ _
theorem takeR_left (r : RS) : (takeR r).left.length ≤ r.left.length := by
  unfold takeR; split
  · simp
  · exact Nat.le_refl _
theorem fit_z {r : RS} {s : Rn.Sg} {ok : Bool} (h : (fitR r s ok).e = 0) : r.e = 0 := by
  by_cases h0 : r.e = 0
  · exact h0
  · exact absurd h (fitR_e r s ok h0)
theorem fit_zok {r : RS} {s : Rn.Sg} {ok : Bool} (h : (fitR r s ok).e = 0) : ok = true := by
  cases ok with
  | true => rfl
  | false =>
    exfalso
    have h0 := fit_z h
    unfold fitR refuseR at h
    rw [if_neg (by decide), if_pos h0] at h
    exact absurd h (by show ¬ (2 : Int) = 0; decide)
theorem mark_z {r : RS} {t : ByteArray} (h : (markR r t).e = 0) : r.e = 0 ∧ (markR r t).left.length ≤ r.left.length := by
  have h1 := fit_z h
  rw [takeR_e] at h1
  exact ⟨h1, by unfold markR; rw [fitR_left]; exact takeR_left r⟩
theorem name_z {r : RS} (h : (nameR r).e = 0) : r.e = 0 ∧ (nameR r).left.length ≤ r.left.length := by
  have h1 := fit_z h
  rw [takeR_e] at h1
  exact ⟨h1, by unfold nameR; rw [fitR_left]; exact takeR_left r⟩
theorem day_z {r : RS} (h : (dayR r).e = 0) : r.e = 0 ∧ (dayR r).left.length ≤ r.left.length := by
  have h1 := fit_z h
  rw [takeR_e] at h1
  exact ⟨h1, by unfold dayR; rw [fitR_left]; exact takeR_left r⟩
theorem end_z {r : RS} (h : (endRd r).e = 0) : r.e = 0 := by
  have h1 := fit_z h
  rwa [takeR_e] at h1
theorem first_z {r : RS} {d : Nat} (h : (firstR r d).e = 0) : r.e = 0 ∧ d ≤ 12 ∧ firstR r d = takeR r := by
  have hd : ¬ 12 < d := fun hd => firstR_deep r d hd h
  have h1 : firstR r d = takeR r := by unfold firstR; rw [if_neg hd]
  rw [h1, takeR_e] at h
  exact ⟨h, by omega, h1⟩
theorem take_some {r : RS} (h : r.e = 0) (hs : (takeS r).1 ≠ ⟨#[]⟩) : (takeR r).left.length + 1 = r.left.length := by
  unfold takeS noS at hs
  unfold takeR
  rw [if_pos h] at hs ⊢
  cases hl : r.left with
  | nil => rw [hl] at hs; exact absurd rfl hs
  | cons a l => simp
theorem twoF_sz (rec : RS → O × RS) (hr : ∀ q, (rec q).2.e = 0 → q.e = 0 ∧ (rec q).1.nodes + (rec q).2.left.length ≤ q.left.length) (r : RS) (h : (twoF rec r).2.2.e = 0) :
    r.e = 0 ∧ (twoF rec r).1.nodes + (twoF rec r).2.1.nodes + (twoF rec r).2.2.left.length ≤ r.left.length := by
  unfold twoF at h ⊢
  have h1 := mark_z h
  have h2 := hr _ h1.1
  have h3 := mark_z h2.1
  have h4 := hr _ h3.1
  have h5 := mark_z h4.1
  exact ⟨h5.1, by simp only; omega⟩
theorem obsR_sz (f : Nat) : ∀ r d, d + f = 15 → (14 ≤ d → r.e ≠ 0) → (obsR f r d).2.e = 0 → r.e = 0 ∧ (obsR f r d).1.nodes + (obsR f r d).2.left.length ≤ r.left.length := by
  induction f with
  | zero => intro r d hd he h; exact absurd h (he (by omega))
  | succ f ih =>
    intro r d hd he h
    have hfirst : ∀ x : RS, x.e = 0 → (∀ q : RS, q.e ≠ 0 → True) → True := fun _ _ _ => trivial
    have hfe : (firstR r d).e = 0 := by
      by_cases h0 : (firstR r d).e = 0
      · exact h0
      · exfalso
        have ih' : ∀ q, q.e ≠ 0 → ((fun q => obsR f q (d + 1)) q).2.e ≠ 0 := fun q hq => obsR_e f q (d + 1) hq
        unfold obsR at h
        revert h
        repeat' split
        · exact markR_e _ _ (nameR_e _ (markR_e _ _ h0))
        · exact twoF_e _ ih' _ h0
        · exact markR_e _ _ (obsR_e _ _ _ (markR_e _ _ h0))
        · exact twoF_e _ ih' _ h0
        · exact twoF_e _ ih' _ h0
        · exact fitR_e _ _ _ h0
    obtain ⟨he0, hd12, hft⟩ := first_z hfe
    have hrec : ∀ q, ((fun q => obsR f q (d + 1)) q).2.e = 0 → q.e = 0 ∧ ((fun q => obsR f q (d + 1)) q).1.nodes + ((fun q => obsR f q (d + 1)) q).2.left.length ≤ q.left.length := fun q hq => ih q (d + 1) (by omega) (fun hx => absurd hx (by omega)) hq
    have hts : (takeS r).1 ≠ ⟨#[]⟩ → (firstR r d).left.length + 1 = r.left.length := fun hs => by rw [hft]; exact take_some he0 hs
    refine ⟨he0, ?_⟩
    unfold obsR at h ⊢
    by_cases k0 : (takeS r).1 = wFix
    · rw [if_pos k0] at h ⊢
      have h1 := mark_z h
      have h2 := name_z h1.1
      have h3 := mark_z h2.1
      have h4 := hts (by rw [k0]; decide)
      simp only [O.nodes]; omega
    rw [if_neg k0] at h ⊢
    by_cases k1 : (takeS r).1 = wAdd
    · rw [if_pos k1] at h ⊢
      have h1 := twoF_sz _ hrec _ h
      have h4 := hts (by rw [k1]; decide)
      simp only [O.nodes]; omega
    rw [if_neg k1] at h ⊢
    by_cases k2 : (takeS r).1 = wNeg
    · rw [if_pos k2] at h ⊢
      have h1 := mark_z h
      have h2 := hrec _ h1.1
      have h3 := mark_z h2.1
      have h4 := hts (by rw [k2]; decide)
      simp only [O.nodes] at h2 ⊢; omega
    rw [if_neg k2] at h ⊢
    by_cases k3 : (takeS r).1 = wMul
    · rw [if_pos k3] at h ⊢
      have h1 := twoF_sz _ hrec _ h
      have h4 := hts (by rw [k3]; decide)
      simp only [O.nodes]; omega
    rw [if_neg k3] at h ⊢
    by_cases k4 : (takeS r).1 = wMax
    · rw [if_pos k4] at h ⊢
      have h1 := twoF_sz _ hrec _ h
      have h4 := hts (by rw [k4]; decide)
      simp only [O.nodes]; omega
    rw [if_neg k4] at h ⊢
    have h1 := fit_zok h
    have h4 := hts (fun e => by rw [e] at h1; exact absurd h1 (by decide))
    simp only [O.nodes]
    rw [fitR_left]
    omega
theorem lastF_sz (rec : RS → C × RS) (hr : ∀ q, (rec q).2.e = 0 → q.e = 0 ∧ (rec q).1.weight + (rec q).2.left.length ≤ q.left.length) (r : RS) (h : (lastF rec r).2.e = 0) :
    r.e = 0 ∧ (lastF rec r).1.weight + (lastF rec r).2.left.length ≤ r.left.length := by
  unfold lastF at h ⊢
  have h1 := mark_z h
  have h2 := hr _ h1.1
  exact ⟨h2.1, by simp only; omega⟩
theorem lastsF_sz (rec : RS → C × RS) (hr : ∀ q, (rec q).2.e = 0 → q.e = 0 ∧ (rec q).1.weight + (rec q).2.left.length ≤ q.left.length) (r : RS) (h : (lastsF rec r).2.2.e = 0) :
    r.e = 0 ∧ (lastsF rec r).1.weight + (lastsF rec r).2.1.weight + (lastsF rec r).2.2.left.length ≤ r.left.length := by
  unfold lastsF at h ⊢
  have h1 := lastF_sz rec hr _ h
  have h2 := mark_z h1.1
  have h3 := hr _ h2.1
  exact ⟨h3.1, by simp only; omega⟩
theorem termR_sz (f : Nat) : ∀ r d, d + f = 15 → (14 ≤ d → r.e ≠ 0) → (termR f r d).2.e = 0 → r.e = 0 ∧ (termR f r d).1.weight + (termR f r d).2.left.length ≤ r.left.length := by
  induction f with
  | zero => intro r d hd he h; exact absurd h (he (by omega))
  | succ f ih =>
    intro r d hd he h
    have hfe : (firstR r d).e = 0 := by
      by_cases h0 : (firstR r d).e = 0
      · exact h0
      · exfalso
        have h1 := h0
        have ih' : ∀ q, q.e ≠ 0 → ((fun q => termR f q (d + 1)) q).2.e ≠ 0 := fun q hq => termR_e f q (d + 1) hq
        unfold termR at h
        revert h
        repeat' split
        · exact h1
        · exact markR_e _ _ (nameR_e _ (markR_e _ _ h1))
        · exact lastF_e _ ih' _ (markR_e _ _ h1)
        · exact lastsF_e _ ih' _ (markR_e _ _ h1)
        · exact lastsF_e _ ih' _ (markR_e _ _ (nameR_e _ (markR_e _ _ h1)))
        · exact lastF_e _ ih' _ (markR_e _ _ (obsR_e _ _ _ (markR_e _ _ h1)))
        · exact lastF_e _ ih' _ (markR_e _ _ (dayR_e _ (markR_e _ _ h1)))
        · exact lastsF_e _ ih' _ (markR_e _ _ (obsR_e _ _ _ (markR_e _ _ h1)))
        · exact fitR_e _ _ _ h1
    obtain ⟨he0, hd12, hft⟩ := first_z hfe
    have hrec : ∀ q, ((fun q => termR f q (d + 1)) q).2.e = 0 → q.e = 0 ∧ ((fun q => termR f q (d + 1)) q).1.weight + ((fun q => termR f q (d + 1)) q).2.left.length ≤ q.left.length := fun q hq => ih q (d + 1) (by omega) (fun hx => absurd hx (by omega)) hq
    have hobs : ∀ q, (obsR f q (d + 1)).2.e = 0 → q.e = 0 ∧ (obsR f q (d + 1)).1.nodes + (obsR f q (d + 1)).2.left.length ≤ q.left.length := fun q hq => obsR_sz f q (d + 1) (by omega) (fun hx => absurd hx (by omega)) hq
    have hts : (takeS r).1 ≠ ⟨#[]⟩ → (firstR r d).left.length + 1 = r.left.length := fun hs => by rw [hft]; exact take_some he0 hs
    refine ⟨he0, ?_⟩
    unfold termR at h ⊢
    by_cases k0 : (takeS r).1 = wZero
    · rw [if_pos k0] at h ⊢
      have h4 := hts (by rw [k0]; decide)
      simp only [C.weight]; omega
    rw [if_neg k0] at h ⊢
    by_cases k1 : (takeS r).1 = wOne
    · rw [if_pos k1] at h ⊢
      have h1 := mark_z h
      have h2 := name_z h1.1
      have h3 := mark_z h2.1
      have h4 := hts (by rw [k1]; decide)
      simp only [C.weight]; omega
    rw [if_neg k1] at h ⊢
    by_cases k2 : (takeS r).1 = wGive
    · rw [if_pos k2] at h ⊢
      have h1 := lastF_sz _ hrec _ h
      have h2 := mark_z h1.1
      have h4 := hts (by rw [k2]; decide)
      simp only [C.weight]; omega
    rw [if_neg k2] at h ⊢
    by_cases k3 : (takeS r).1 = wAnd
    · rw [if_pos k3] at h ⊢
      have h1 := lastsF_sz _ hrec _ h
      have h2 := mark_z h1.1
      have h4 := hts (by rw [k3]; decide)
      simp only [C.weight]; omega
    rw [if_neg k3] at h ⊢
    by_cases k4 : (takeS r).1 = wOr
    · rw [if_pos k4] at h ⊢
      have h1 := lastsF_sz _ hrec _ h
      have h2 := mark_z h1.1
      have h3 := name_z h2.1
      have h5 := mark_z h3.1
      have h4 := hts (by rw [k4]; decide)
      simp only [C.weight]; omega
    rw [if_neg k4] at h ⊢
    by_cases k5 : (takeS r).1 = wScale
    · rw [if_pos k5] at h ⊢
      have h1 := lastF_sz _ hrec _ h
      have h2 := mark_z h1.1
      have h3 := hobs _ h2.1
      have h5 := mark_z h3.1
      have h4 := hts (by rw [k5]; decide)
      simp only [C.weight]; omega
    rw [if_neg k5] at h ⊢
    by_cases k6 : (takeS r).1 = wWhen
    · rw [if_pos k6] at h ⊢
      have h1 := lastF_sz _ hrec _ h
      have h2 := mark_z h1.1
      have h3 := day_z h2.1
      have h5 := mark_z h3.1
      have h4 := hts (by rw [k6]; decide)
      simp only [C.weight]; omega
    rw [if_neg k6] at h ⊢
    by_cases k7 : (takeS r).1 = wIf
    · rw [if_pos k7] at h ⊢
      have h1 := lastsF_sz _ hrec _ h
      have h2 := mark_z h1.1
      have h3 := hobs _ h2.1
      have h5 := mark_z h3.1
      have h4 := hts (by rw [k7]; decide)
      simp only [C.weight]; omega
    rw [if_neg k7] at h ⊢
    have h1 := fit_zok h
    cases h1
theorem cut_len (rs : List Int) : ∀ (l : List Rn.Sg) (run : List Int) (p : Nat), (Rn.cutGo l run p rs).length ≤ l.length + 1 + 2 * rs.length := by
  induction rs with
  | nil => intro l run p; have := Rn.endR_len l run (p + 1 : Nat); show (Rn.endR l run (p + 1 : Nat)).length ≤ _; simp only [List.length_nil]; omega
  | cons r rs ih =>
    intro l run p
    have he := Rn.endR_len l run (p + 1 : Nat)
    unfold Rn.cutGo
    simp only [List.length_cons]
    split
    · have := ih l (run ++ [r]) (p + 1); omega
    · split
      · have := ih (Rn.endR l run (p + 1 : Nat) ++ [(Utf8.encode r, ((p + 1 : Nat) : Int))]) [] (p + 1)
        rw [List.length_append] at this
        simp only [List.length_cons, List.length_nil] at this
        omega
      · have := ih (Rn.endR l run (p + 1 : Nat)) [] (p + 1); omega
theorem open_len (s : ByteArray) : (openR s).left.length ≤ 2001 := by
  unfold openR
  split
  · simp
  · split
    · simp
    · rename_i h1 _
      have h := cut_len (runesOf s) [] [] 0
      have h2 := rest_length s 0
      have h3 : (runesOf s).length ≤ s.size := by unfold runesOf; omega
      show (Rn.cutGo [] [] 0 (runesOf s)).length ≤ _
      simp at h
      omega
/-- What read.Term answers: the contract, the place, the error. -/
def rdT (s : ByteArray) : C × Int × Int :=
  if (endRd (termR 14 (openR s) 1).2).e = 0 then
    (if chkC (termR 14 (openR s) 1).1 = 0 then ((termR 14 (openR s) 1).1, 0, 0) else (.odd .nilIface, (endRd (termR 14 (openR s) 1).2).pl, chkC (termR 14 (openR s) 1).1))
  else (.odd .nilIface, (endRd (termR 14 (openR s) 1).2).pl, (endRd (termR 14 (openR s) 1).2).e)
def rdO (s : ByteArray) : O × Int × Int :=
  if (endRd (obsR 14 (openR s) 1).2).e = 0 then
    (if chk (obsR 14 (openR s) 1).1 = 0 then ((obsR 14 (openR s) 1).1, 0, 0) else (.odd .nilIface, (endRd (obsR 14 (openR s) 1).2).pl, chk (obsR 14 (openR s) 1).1))
  else (.odd .nilIface, (endRd (obsR 14 (openR s) 1).2).pl, (endRd (obsR 14 (openR s) 1).2).e)
theorem RIn.cells {w : World} {R : Nat} {r : RS} (h : RIn w R r) : w.cell? ⟨R, 2, none⟩ = some (.int .i64 r.pl) ∧ w.cell? ⟨R, 3, none⟩ = some (.int .i64 r.e) ∧ w.frozen? ⟨R, 3, none⟩ = false := by
  obtain ⟨a, c, hb, _⟩ := h.has
  exact ⟨hb.cell 2, hb.cell 3, hb.frozen 3⟩
theorem bel_drewN {B : Nat} {w w' : World} (h : Below B w w') (n : Nat) : Below B w (w'.drewN n) := ⟨h.os, h.tape, h.output, h.size, h.block⟩
theorem bel_set {B : Nat} {w w' : World} (h : Below B w w') {R : Nat} (hR : B ≤ R) (i : Nat) (x : Value) (n : Nat) : Below B w ((w'.setCell ⟨R, i, none⟩ x).drewN n) := bel_drewN (h.setCell hR x) n
theorem Grew.low {M : Nat} {u w w' : World} (h : Grew M none w w') (hb : Below u.heap.size u w) (hM : u.heap.size ≤ M) : Below u.heap.size u w' :=
  hb.trans (h.below hb.size hM (fun k hk => by cases hk))

set_option maxHeartbeats 4000000 in
set_option maxRecDepth 100000 in
theorem readT_any (s : ByteArray) (w : World) (hs : s.size ≤ 140737488351232) :
    Calls Try.prog 7 #[.string s] w fun e w' => e = .returned (.tuple #[(rdT s).1.val, .int .i64 (rdT s).2.1, .int .i64 (rdT s).2.2]) ∧ (rdT s).1.Ok ∧ Below w.heap.size w w' := by
  have HRD : Hid (rdT s = if (endRd (termR 14 (openR s) 1).2).e = 0 then (if chkC (termR 14 (openR s) 1).1 = 0 then ((termR 14 (openR s) 1).1, 0, 0) else (.odd .nilIface, (endRd (termR 14 (openR s) 1).2).pl, chkC (termR 14 (openR s) 1).1)) else (.odd .nilIface, (endRd (termR 14 (openR s) 1).2).pl, (endRd (termR 14 (openR s) 1).2).e)) := rfl
  have HSZ : Hid ((endRd (termR 14 (openR s) 1).2).e = 0 → (termR 14 (openR s) 1).1.weight ≤ 2001) := fun h => by
    have h1 := (termR_sz 14 (openR s) 1 rfl (fun hx => absurd hx (by omega)) (end_z h)).2
    have h2 := open_len s
    omega
  go_enter Try.func7, Try.ntmps7
  go_wp2_with fail
  refine (ropen_any s w hs).mono ?_
  rintro e w1 ⟨R, rfl, hR, h1, hb1⟩
  have HR := hidIn hR
  have HB1 := hidIn hb1
  have H1 := hidIn h1
  clear hR h1 hb1
  go_wp2_with fail
  refine (term_all 14 1 rfl (openR s) w1 R (fun hx => absurd hx (by omega)) H1.out).mono ?_
  rintro e w2 ⟨rfl, hok, h2, hg2⟩
  have HOK := hidIn hok
  have H2 := hidIn h2
  have HB2 := hidIn (hg2.low HB1.out HR.out)
  clear hok h2 hg2
  go_wp2_with fail
  refine (end_any w2 R _ H2.out).mono ?_
  rintro e w3 ⟨rfl, h3, hg3⟩
  have H3 := hidIn h3
  have HB3 := hidIn (hg3.low HB2.out HR.out)
  obtain ⟨q2, q3, qf⟩ := h3.cells
  clear h3 hg3
  generalize (termR 14 (openR s) 1).1 = c at *
  generalize endRd (termR 14 (openR s) 1).2 = r9 at *
  obtain ⟨en, hen⟩ : ∃ en, r9.e = en := ⟨_, rfl⟩
  obtain ⟨pl, hpl⟩ : ∃ pl, r9.pl = pl := ⟨_, rfl⟩
  rw [hen, hpl] at HRD
  rw [hen] at HSZ q3
  rw [hpl] at q2
  obtain ⟨ra, rc, hblk, _, _, _⟩ := H3.out.has
  have HBLK := hidIn hblk
  have HEN := hidIn hen
  have HPL := hidIn hpl
  clear hblk hen hpl
  by_cases h0 : en = 0
  · rw [if_pos h0] at HRD
    have HW := hidIn (HSZ.out h0)
    subst h0
    go_wp2_with fail
    refine (checkT_any c HOK.out (by have := HW.out; omega) w3).mono ?_
    rintro e w4 ⟨rfl, hb4⟩
    have hk4 := HBLK.out.below hb4 HBLK.out.lt
    have z2 : w4.cell? ⟨R, 2, none⟩ = some (.int .i64 pl) := by rw [← HPL.out]; exact hk4.cell 2
    have z3 : w4.cell? ⟨R, 3, none⟩ = some (.int .i64 0) := by rw [← HEN.out]; exact hk4.cell 3
    have f3 : w4.frozen? ⟨R, 3, none⟩ = false := hk4.frozen 3
    have HB4 := hidIn (HB3.out.trans (hb4.mono HB3.out.size))
    clear hb4 hk4 q2 q3 qf
    by_cases hc : chkC c = 0
    · rw [if_pos hc] at HRD
      rw [hc]
      go_wp2_with fail
      go_ret3
      rw [HRD.out]
      exact ⟨rfl, HOK.out, HB4.out.setCell HR.out _⟩
    · rw [if_neg hc] at HRD
      obtain ⟨k, hk⟩ : ∃ k, chkC c = k := ⟨_, rfl⟩
      rw [hk] at hc HRD
      rw [hk]
      have hcn : (k == 0) = false := beq_eq_false_iff_ne.2 hc
      go_wp2_with fail
      go_quiet (fail)
      go_wp2_with fail
      go_ret3
      rw [HRD.out]
      exact ⟨rfl, .inl rfl, bel_set HB4.out HR.out 3 _ _⟩
  · rw [if_neg h0] at HRD
    have hcn : (en == 0) = false := beq_eq_false_iff_ne.2 h0
    go_wp2_with fail
    go_quiet (fail)
    go_wp2_with fail
    go_ret3
    rw [HRD.out]
    exact ⟨rfl, .inl rfl, bel_drewN HB3.out _⟩

set_option maxHeartbeats 4000000 in
set_option maxRecDepth 100000 in
theorem readO_any (s : ByteArray) (w : World) (hs : s.size ≤ 140737488351232) :
    Calls Try.prog 9 #[.string s] w fun e w' => e = .returned (.tuple #[(rdO s).1.val, .int .i64 (rdO s).2.1, .int .i64 (rdO s).2.2]) ∧ (rdO s).1.Ok ∧ Below w.heap.size w w' := by
  have HRD : Hid (rdO s = if (endRd (obsR 14 (openR s) 1).2).e = 0 then (if chk (obsR 14 (openR s) 1).1 = 0 then ((obsR 14 (openR s) 1).1, 0, 0) else (.odd .nilIface, (endRd (obsR 14 (openR s) 1).2).pl, chk (obsR 14 (openR s) 1).1)) else (.odd .nilIface, (endRd (obsR 14 (openR s) 1).2).pl, (endRd (obsR 14 (openR s) 1).2).e)) := rfl
  have HSZ : Hid ((endRd (obsR 14 (openR s) 1).2).e = 0 → (obsR 14 (openR s) 1).1.nodes ≤ 2001) := fun h => by
    have h1 := (obsR_sz 14 (openR s) 1 rfl (fun hx => absurd hx (by omega)) (end_z h)).2
    have h2 := open_len s
    omega
  go_enter Try.func9, Try.ntmps9
  go_wp2_with fail
  refine (ropen_any s w hs).mono ?_
  rintro e w1 ⟨R, rfl, hR, h1, hb1⟩
  have HR := hidIn hR
  have HB1 := hidIn hb1
  have H1 := hidIn h1
  clear hR h1 hb1
  go_wp2_with fail
  refine (obs_all 14 1 rfl (openR s) w1 R (fun hx => absurd hx (by omega)) H1.out).mono ?_
  rintro e w2 ⟨rfl, hok, h2, hg2⟩
  have HOK := hidIn hok
  have H2 := hidIn h2
  have HB2 := hidIn (hg2.low HB1.out HR.out)
  clear hok h2 hg2
  go_wp2_with fail
  refine (end_any w2 R _ H2.out).mono ?_
  rintro e w3 ⟨rfl, h3, hg3⟩
  have H3 := hidIn h3
  have HB3 := hidIn (hg3.low HB2.out HR.out)
  obtain ⟨q2, q3, qf⟩ := h3.cells
  clear h3 hg3
  generalize (obsR 14 (openR s) 1).1 = c at *
  generalize endRd (obsR 14 (openR s) 1).2 = r9 at *
  obtain ⟨en, hen⟩ : ∃ en, r9.e = en := ⟨_, rfl⟩
  obtain ⟨pl, hpl⟩ : ∃ pl, r9.pl = pl := ⟨_, rfl⟩
  rw [hen, hpl] at HRD
  rw [hen] at HSZ q3
  rw [hpl] at q2
  obtain ⟨ra, rc, hblk, _, _, _⟩ := H3.out.has
  have HBLK := hidIn hblk
  have HEN := hidIn hen
  have HPL := hidIn hpl
  clear hblk hen hpl
  by_cases h0 : en = 0
  · rw [if_pos h0] at HRD
    have HW := hidIn (HSZ.out h0)
    subst h0
    go_wp2_with fail
    refine (check_any c HOK.out (by have := HW.out; omega) w3).mono ?_
    rintro e w4 ⟨rfl, hb4⟩
    have hk4 := HBLK.out.below hb4 HBLK.out.lt
    have z2 : w4.cell? ⟨R, 2, none⟩ = some (.int .i64 pl) := by rw [← HPL.out]; exact hk4.cell 2
    have z3 : w4.cell? ⟨R, 3, none⟩ = some (.int .i64 0) := by rw [← HEN.out]; exact hk4.cell 3
    have f3 : w4.frozen? ⟨R, 3, none⟩ = false := hk4.frozen 3
    have HB4 := hidIn (HB3.out.trans (hb4.mono HB3.out.size))
    clear hb4 hk4 q2 q3 qf
    by_cases hc : chk c = 0
    · rw [if_pos hc] at HRD
      rw [hc]
      go_wp2_with fail
      go_ret3
      rw [HRD.out]
      exact ⟨rfl, HOK.out, HB4.out.setCell HR.out _⟩
    · rw [if_neg hc] at HRD
      obtain ⟨k, hk⟩ : ∃ k, chk c = k := ⟨_, rfl⟩
      rw [hk] at hc HRD
      rw [hk]
      have hcn : (k == 0) = false := beq_eq_false_iff_ne.2 hc
      go_wp2_with fail
      go_quiet (fail)
      go_wp2_with fail
      go_ret3
      rw [HRD.out]
      exact ⟨rfl, .inl rfl, bel_set HB4.out HR.out 3 _ _⟩
  · rw [if_neg h0] at HRD
    have hcn : (en == 0) = false := beq_eq_false_iff_ne.2 h0
    go_wp2_with fail
    go_quiet (fail)
    go_wp2_with fail
    go_ret3
    rw [HRD.out]
    exact ⟨rfl, .inl rfl, bel_drewN HB3.out _⟩

end Go.Proofs.Ytbppkklfjmpgiaa
