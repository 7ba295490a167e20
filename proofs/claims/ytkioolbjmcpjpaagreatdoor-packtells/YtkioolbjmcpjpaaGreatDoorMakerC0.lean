/- The contract that a plan makes: what is needed for all kinds. -/
import Derived.Test.YtkioolbjmcpjpaaGreatDoorMakerBin
import Derived.Test.YtkioolbjmcpjpaaGreatDoorTermWalk
namespace Go.Proofs.YtkioolbjmcpjpaaGreatDoor
open Go.RowKit
set_option linter.unusedVariables false

/-- A contract as a tree. -/
def plainC : C → T
  | .zero => .mk 1 ⟨#[]⟩ 0 []
  | .one s => .mk 2 s 0 []
  | .give c => .mk 3 ⟨#[]⟩ 0 [plainC c]
  | .and l r => .mk 4 ⟨#[]⟩ 0 [plainC l, plainC r]
  | .or s l r => .mk 5 s 0 [plainC l, plainC r]
  | .scale o c => .mk 6 ⟨#[]⟩ 0 [plain o, plainC c]
  | .when d c => .mk 7 ⟨#[]⟩ d [plainC c]
  | .iff o l r => .mk 8 ⟨#[]⟩ 0 [plain o, plainC l, plainC r]
  | .odd _ => .mk 0 ⟨#[]⟩ 0 []

/-! ### words -/
def wordC (k : Nat) : ByteArray := if k = 0 then ⟨#[117, 115, 100]⟩ else if k = 1 then ⟨#[101, 117, 114]⟩ else ⟨#[103, 98, 112]⟩
def cur3 : Array Value := #[.string ⟨#[117, 115, 100]⟩, .string ⟨#[101, 117, 114]⟩, .string ⟨#[103, 98, 112]⟩]
/-- The currency that a plan has at a place. -/
def curOf (p : Pl) (i : Nat) : ByteArray := if nth p i % 9 = 7 ∧ 0 < p.wl then cutTo (p.wf (7 % p.wl)) 14 else wordC ((nth p i % 9).toNat % 3)
theorem wordC_size (k : Nat) : (wordC k).size ≤ 14 := by
  unfold wordC
  split
  · decide
  · split <;> decide
theorem curOf_size (p : Pl) (i : Nat) : (curOf p i).size ≤ 14 := by
  unfold curOf
  split
  · exact cutTo_size _ _
  · exact wordC_size _
theorem wordC_cell (k : Nat) (h : k < 3) : cur3[k]? = some (.string (wordC k)) := by
  have : k = 0 ∨ k = 1 ∨ k = 2 := by omega
  rcases this with rfl | rfl | rfl <;> rfl

set_option maxHeartbeats 1000000 in
set_option maxRecDepth 100000 in
theorem mcur_any (w0 w : World) (M L : Nat) (p : Pl) (i : Nat) (left label : Int) (h : MIn w0 w M p i left label) (hi : i ≤ 1000000) (hL : Blk w L 9 cur3) (hLM : L ≠ M) :
    Calls Tryz.prog 120 #[.pointer (some ⟨M, 0, none⟩), .slice (some ⟨L, 0, none⟩) 3 3] w fun e w' => e = .returned (.string (curOf p i)) ∧ MIn w0 w' M p (i + 1) left label ∧ Grew M none w w' := by
  obtain ⟨q, hq⟩ : ∃ q : Nat, nth p i % 9 = q := ⟨(nth p i % 9).toNat, by omega⟩
  have hq9 : q < 9 := by omega
  have HQ : Hid (nth p i % (9 : Nat) = q) := hq
  have HW : Hid (curOf p i = if q = 7 ∧ 0 < p.wl then cutTo (p.wf (7 % p.wl)) 14 else wordC (q % 3)) := by
    unfold Hid curOf
    rw [hq]
    by_cases h7 : q = 7 ∧ 0 < p.wl
    · rw [if_pos h7, if_pos ⟨by omega, h7.2⟩]
    · rw [if_neg h7, if_neg (fun e => h7 ⟨by omega, e.2⟩)]; simp
  have hwl := h.plan.wl
  have HM0 : Hid (MIn w0 w M p i left label) := h
  have HL : Hid (Blk w L 9 cur3) := hL
  clear hq h hL
  go_enter Tryz.func120, Tryz.ntmps120
  go_wp2_with fail
  refine (mn_any w0 w M p i left label 9 HM0.out hi (by omega) (by omega)).mono ?_
  rintro e w1 ⟨rfl, hm1, hg1⟩
  rw [HQ.out]
  have hl1 := HL.out.grew hg1 hLM
  have hcl : w1.cell? ⟨L, q % 3, none⟩ = some (.string (wordC (q % 3))) := (hl1.cell (q % 3)).trans (wordC_cell _ (by omega))
  obtain ⟨g0, g1, g2, g3, gf⟩ := hm1.cells
  have HM1 : Hid (MIn w0 w1 M p (i + 1) left label) := hm1
  have HG1 : Hid (Grew M none w w1) := hg1
  clear hl1 hm1 hg1 gf g0 g2 g3
  have hmod : (q : Int) % 3 = ((q % 3 : Nat) : Int) := by omega
  by_cases h7 : q = 7 ∧ 0 < p.wl
  · obtain ⟨rfl, h0⟩ := h7
    have h0' : (0 : Int) < (p.wl : Int) := by omega
    obtain ⟨j, hj⟩ : ∃ j, j = 7 % p.wl := ⟨_, rfl⟩
    have hjl : j < p.wl := by rw [hj]; exact Nat.mod_lt _ h0
    have hjl' : (j : Int) < (p.wl : Int) := by omega
    have hjm : Int.tmod 7 (p.wl : Int) = (j : Int) := by rw [hj]; rfl
    obtain ⟨sb, so, hsa, hsb, hsc, hss⟩ := HM1.out.plan.strs j hjl
    have hc : w1.cell? ⟨sb, so + j, none⟩ = some (.string (p.wf j)) := (HM1.out.below.cell (p := ⟨sb, so + j, none⟩) hsb).trans hsc
    have HW3 : Hid (curOf p i = cutTo (p.wf j) 14) := by unfold Hid; rw [HW.out, if_pos ⟨rfl, h0⟩, hj]
    have HSS : Hid ((p.wf j).size ≤ maxLen) := hss
    rw [hsa] at g1
    clear hsc hj hss
    have hne : ¬ (p.wl : Int) = 0 := by omega
    go_wp2_with fail
    go_quiet ((go_at_call 39; refine Calls.quiet_of_same (text_any _ 14 _ HSS.out (by omega))))
    go_wp2_with fail
    go_ret
    exact ⟨by rw [HW3.out]; rfl, HM1.out.next (Grew.drewN (Grew.refl _ _ _) _) HM1.out.blk, HG1.out.drewN _⟩
  · have HW2 : Hid (curOf p i = wordC (q % 3)) := by unfold Hid; rw [HW.out, if_neg h7]
    clear HW HQ
    by_cases h0 : 0 < p.wl
    · have h0' : (0 : Int) < (p.wl : Int) := by omega
      have hq : q = 0 ∨ q = 1 ∨ q = 2 ∨ q = 3 ∨ q = 4 ∨ q = 5 ∨ q = 6 ∨ q = 8 := by omega
      clear h7
      rcases hq with rfl | rfl | rfl | rfl | rfl | rfl | rfl | rfl
      all_goals
        go_wp2_with fail
        go_ret
        exact ⟨by rw [HW2.out]; rfl, HM1.out, HG1.out⟩
    · have h0' : ¬ (0 : Int) < (p.wl : Int) := by omega
      have hq : q = 0 ∨ q = 1 ∨ q = 2 ∨ q = 3 ∨ q = 4 ∨ q = 5 ∨ q = 6 ∨ q = 7 ∨ q = 8 := by omega
      clear h7
      rcases hq with rfl | rfl | rfl | rfl | rfl | rfl | rfl | rfl | rfl
      all_goals
        go_wp2_with fail
        go_ret
        exact ⟨by rw [HW2.out]; rfl, HM1.out, HG1.out⟩

/-! ### digits of small numbers -/
def digN : Nat → Nat → List UInt8
  | 0, n => [UInt8.ofNat (48 + n % 10)]
  | f + 1, n => if n < 10 then [UInt8.ofNat (48 + n)] else digN f (n / 10) ++ [UInt8.ofNat (48 + n % 10)]
theorem digN_len (f : Nat) : ∀ n, (digN f n).length ≤ f + 1 := by
  induction f with
  | zero => intro n; simp [digN]
  | succ f ih =>
    intro n
    unfold digN
    split
    · simp
    · simp; exact ih _
theorem conv1 (W : World) (g : Nat) (x : Int) (h0 : 0 ≤ x) (h1 : x < 256) (hc : W.cell? ⟨g, 0, none⟩ = some (.int .u8 x)) :
    (convert 55 9 (.slice (some ⟨g, 0, none⟩) 1 1)).run Tryz.prog W = .ok (.string ⟨#[UInt8.ofNat x.toNat]⟩) W := by
  have := run_convert_bytes_back (P := Tryz.prog) W 55 9 5 ⟨g, 0, none⟩ 1 [UInt8.ofNat x.toNat] Tryz.underlying55 Tryz.underlying5 Tryz.underlying9 (by
    intro j hj
    simp at hj
    subst hj
    rw [show (⟨g, 0, none⟩ : Addr).add 0 = ⟨g, 0, none⟩ from by simp [Addr.add], hc]
    simp
    omega)
  simpa using this
theorem bcell {W w1 : World} (hb : Below W.heap.size W w1) : (∀ b o, b < W.heap.size → w1.cell? ⟨b, o, none⟩ = W.cell? ⟨b, o, none⟩) :=
  fun b o h => hb.cell (p := ⟨b, o, none⟩) h
theorem dg1 {w w' : World} {o : Obj} (h : Below w.drew.heap.size w.drew w') : Below w.heap.size w (w'.alloc o) :=
  ((Below.refl w.heap.size w).drew.trans h).alloc h.size o
theorem dg2 {w w' : World} {o : Obj} (h : Below (w.drew.alloc o).heap.size (w.drew.alloc o) w') : Below w.heap.size w w' :=
  ((Below.refl w.heap.size w).drew.alloc (Nat.le_refl _) o).trans (h.mono (by simp))
theorem wrap_small (x : Int) (h1 : -9223372036854775808 ≤ x) (h2 : x ≤ 9223372036854775807) : IntKind.i64.wrap x = x := by
  rw [IntKind.wrap_i64]; omega

set_option maxHeartbeats 1000000 in
set_option maxRecDepth 100000 in
theorem digits_small (n : Nat) (w : World) (hn' : (n : Int) < 10) :
    Calls Tryz.prog 68 #[.int .i64 n] w fun e w' => e = .returned (.string ⟨#[UInt8.ofNat (48 + n)]⟩) ∧ Below w.heap.size w w' := by
  have hn0 : (0 : Int) ≤ (n : Int) := by omega
  have hcv := conv1 (w.alloc (.cells #[.int .u8 (48 + (n : Int))] 5)) w.heap.size (48 + (n : Int)) (by omega) (by omega) (by simp)
  rw [show (48 + (n : Int)).toNat = 48 + n from by omega] at hcv
  generalize UInt8.ofNat (48 + n) = c at *
  go_enter Tryz.func68, Tryz.ntmps68
  go_wp2_with fail
  go_ret
  exact ⟨rfl, (Below.refl _ _).alloc (Nat.le_refl _) _⟩

set_option maxHeartbeats 1000000 in
set_option maxRecDepth 100000 in
theorem digits_any (f : Nat) : ∀ (n : Nat) (w : World), n < 10 ^ (f + 1) → f ≤ 20 → n ≤ 9223372036854775807 →
    Calls Tryz.prog 68 #[.int .i64 n] w fun e w' => e = .returned (.string ⟨(digN f n).toArray⟩) ∧ Below w.heap.size w w' := by
  induction f with
  | zero =>
    intro n w hn hf hb
    have hn' : n < 10 := by simpa using hn
    refine (digits_small n w (by omega)).mono ?_
    rintro e w' ⟨rfl, hb⟩
    refine ⟨?_, hb⟩
    simp only [digN]
    rw [Nat.mod_eq_of_lt hn']
  | succ f ih =>
    intro n w hn hf hb
    by_cases h10 : n < 10
    · refine (digits_small n w (by omega)).mono ?_
      rintro e w' ⟨rfl, hb⟩
      refine ⟨?_, hb⟩
      simp only [digN, h10, if_true]
    · have ihq := ih (n / 10)
      have HI : Hid (∀ (w : World), Calls Tryz.prog 68 #[.int .i64 ((n : Int) / 10)] w fun e w' => e = .returned (.string ⟨(digN f (n / 10)).toArray⟩) ∧ Below w.heap.size w w') :=
        fun w => by
          have h := ihq w (by rw [Nat.pow_succ] at hn; omega) (by omega) (by omega)
          rw [Int.natCast_ediv] at h; exact h
      clear ih ihq
      have hlen := digN_len f (n / 10)
      have HD : Hid (digN (f + 1) n = digN f (n / 10) ++ [UInt8.ofNat (48 + n % 10)]) := by unfold Hid; simp only [digN, h10, if_false]
      have h10' : (10 : Int) ≤ (n : Int) := by omega
      generalize digN f (n / 10) = D at *
      have hDs : ¬ (9223372036854775807 < D.length + 1) := by omega
      have hDl : D.length ≤ 21 := by omega
      clear hlen
      have hcv : ∀ W g, W.cell? ⟨g, 0, none⟩ = some (.int .u8 (48 + (n : Int) % 10)) → (convert 55 9 (.slice (some ⟨g, 0, none⟩) 1 1)).run Tryz.prog W = .ok (.string ⟨#[UInt8.ofNat (48 + n % 10)]⟩) W := by
        intro W g hc
        have := conv1 W g _ (by omega) (by omega) hc
        rw [show (48 + (n : Int) % 10).toNat = 48 + n % 10 from by omega] at this
        exact this
      generalize UInt8.ofNat (48 + n % 10) = c at *
      clear hn hf h10
      have e1 : IntKind.i64.wrap ((n : Int) / 10) = (n : Int) / 10 := wrap_small _ (by omega) (by omega)
      have e2 : (n : Int).tmod 10 = (n : Int) % 10 := Int.tmod_eq_emod_of_nonneg (by omega)
      have e3 : IntKind.i64.wrap (48 + (n : Int) % 10) = 48 + (n : Int) % 10 := wrap_small _ (by omega) (by omega)
      have e4 : IntKind.u8.wrap (48 + (n : Int) % 10) = 48 + (n : Int) % 10 := by
        unfold IntKind.wrap
        simp [IntKind.bits, IntKind.signed]
        omega
      go_enter Tryz.func68, Tryz.ntmps68
      go_wp2_with fail
      go_region_with (go_at_call 68; refine (HI.out _).mono ?_; rintro e w' ⟨rfl, hbl⟩; have hc := bcell hbl)
      all_goals go_wp2_with fail
      all_goals go_ret
      all_goals refine ⟨?_, ?_⟩
      all_goals first
        | exact dg1 hbl
        | exact dg2 hbl
        | (rw [HD.out, ← ByteArray.mk_append_mk]; rfl)
/-- The digits of a number below a million. -/
def digT (n : Nat) : ByteArray := ⟨(digN 6 n).toArray⟩
theorem digT_size (n : Nat) : (digT n).size ≤ 7 := by
  have := digN_len 6 n
  show (digN 6 n).toArray.size ≤ 7
  simpa using this
theorem digT_any (n : Nat) (h : n ≤ 900000) (w : World) : Calls Tryz.prog 68 #[.int .i64 n] w fun e w' => e = .returned (.string (digT n)) ∧ Below w.heap.size w w' :=
  digits_any 6 n w (by have : (10 : Nat) ^ (6 + 1) = 10000000 := rfl; omega) (by omega) (by omega)
/-- The label of the n-th Or. -/
def chT (n : Nat) : ByteArray := ⟨#[99, 104]⟩ ++ digT n
def ch1 : ByteArray := ⟨#[99, 104, 49]⟩
theorem chT_size (n : Nat) : (chT n).size ≤ 9 := by
  have := digT_size n
  unfold chT
  rw [ByteArray.size_append]
  have : (⟨#[99, 104]⟩ : ByteArray).size = 2 := rfl
  omega

/-! ### the contract -/
/-- What the plan says at a place, so deep and so many left. -/
def kT (p : Pl) (d i : Nat) (left : Int) : Nat := if d = 0 ∨ left - 1 ≤ 0 then (nth p i % 13).toNat % 3 else (nth p i % 13).toNat
theorem kT_lt (p : Pl) (d i : Nat) (left : Int) : kT p d i left < 13 := by
  unfold kT
  split <;> omega
theorem kT_zero (p : Pl) (i : Nat) (left : Int) : kT p 0 i left ≤ 2 := by
  unfold kT
  rw [if_pos (.inl rfl)]
  omega
theorem kT_deep (p : Pl) (d i : Nat) (left : Int) (h : 3 ≤ kT p d i left) : 1 ≤ d ∧ 0 < left - 1 ∧ nth p i % 13 = kT p d i left := by
  unfold kT at h ⊢
  split at h
  · omega
  · rename_i hn
    rw [if_neg hn]
    omega
/-- A contract, the place behind it, what is left, how many labels there are. -/
abbrev CR := C × Nat × Int × Nat
/-- The contract that a plan makes, so deep at most. -/
def conO (p : Pl) : Nat → Nat → Int → Nat → CR
  | 0, i, left, label => if kT p 0 i left ≤ 1 then (.one (curOf p (i + 1)), i + 2, left - 1, label) else (.zero, i + 1, left - 1, label)
  | d + 1, i, left, label =>
    if kT p (d + 1) i left ≤ 1 then (.one (curOf p (i + 1)), i + 2, left - 1, label)
    else if kT p (d + 1) i left = 2 then (.zero, i + 1, left - 1, label)
    else if kT p (d + 1) i left ≤ 4 then
      let a := conO p d (i + 1) (left - 1) label
      (.give a.1, a.2)
    else if kT p (d + 1) i left ≤ 6 then
      let a := conO p d (i + 1) (left - 1) label
      let b := conO p d a.2.1 a.2.2.1 a.2.2.2
      (.and a.1 b.1, b.2)
    else if kT p (d + 1) i left ≤ 8 then
      let a := conO p d (i + 2) (left - 1) (label + 1)
      let b := conO p d a.2.1 a.2.2.1 a.2.2.2
      (.or (if nth p (i + 1) % 30 = 29 then ch1 else chT (label + 1)) a.1 b.1, b.2)
    else if kT p (d + 1) i left ≤ 10 then
      let o := numO p (min d 2) (i + 1) (left - 1)
      let a := conO p d o.2.1 o.2.2 label
      (.scale o.1 a.1, a.2)
    else if kT p (d + 1) i left = 11 then
      let a := conO p d (i + 2) (left - 1) label
      (.when (nth p (i + 1) % 8) a.1, a.2)
    else
      let o := numO p (min d 2) (i + 1) (left - 1)
      let a := conO p d o.2.1 o.2.2 label
      let b := conO p d a.2.1 a.2.2.1 a.2.2.2
      (.iff o.1 a.1 b.1, b.2)
def MPostC (w0 w : World) (M : Nat) (p : Pl) (r : CR) (e : Ending) (w' : World) : Prop :=
  ∃ v, e = .returned v ∧ TIn w' w.heap.size (plainC r.1) v ∧ MIn w0 w' M p r.2.1 r.2.2.1 r.2.2.2 ∧ Grew M none w w'
/-- What is known of the calls that go one less deep. -/
def LessC (w0 : World) (M : Nat) (p : Pl) (d N : Nat) : Prop :=
  ∀ (w : World) (i : Nat) (left : Int) (label : Nat), MIn w0 w M p i left label → i ≤ 800000 - N → -800000 + (N : Int) ≤ left → left ≤ 800000 → label ≤ 800000 - N → Calls Tryz.prog 83 #[.pointer (some ⟨M, 0, none⟩), .int .i64 d] w (MPostC w0 w M p (conO p d i left label))

/-- As things stand once a contract is begun: its result's cell, its own cell. -/
structure Pre (w0 w w3 : World) (M : Nat) (p : Pl) (i : Nat) (left : Int) (label : Nat) (Tc : Nat) : Prop where
  min : MIn w0 w3 M p i left label
  grew : Grew M none w w3
  res : Blk w3 w.heap.size 33 zeroT
  tmp : Blk w3 Tc 33 zeroT
  lo : w.heap.size < Tc
  old : M < w.heap.size
  base : w0.heap.size ≤ w.heap.size
theorem Pre.next {w0 w w3 w4 : World} {M : Nat} {p : Pl} {i j : Nat} {left l2 : Int} {label lb2 : Nat} {Tc : Nat} (h : Pre w0 w w3 M p i left label Tc) (hg : Grew M none w3 w4) (hm : MIn w0 w4 M p j l2 lb2) : Pre w0 w w4 M p j l2 lb2 Tc :=
  ⟨hm, h.grew.trans hg (.inl rfl), h.res.grew hg (by have := h.old; omega), h.tmp.grew hg (by have := h.old; have := h.lo; omega), h.lo, h.old, h.base⟩
/-- Nothing has turned but two blocks, and what is new. -/
structure Near (R Tc : Nat) (w w' : World) : Prop where
  os : w'.os = w.os
  tape : w'.tape = w.tape
  output : w'.output = w.output
  size : w.heap.size ≤ w'.heap.size
  block : ∀ k, k < w.heap.size → k ≠ R → k ≠ Tc → w'.heap[k]? = w.heap[k]?
theorem Near.refl (R Tc : Nat) (w : World) : Near R Tc w w := ⟨rfl, rfl, rfl, Nat.le_refl _, fun _ _ _ _ => rfl⟩
theorem Near.setR {R Tc : Nat} {w w' : World} (h : Near R Tc w w') (i : Nat) (x : Value) : Near R Tc w (w'.setCell ⟨R, i, none⟩ x) :=
  ⟨h.os, h.tape, h.output, by rw [World.size_setCell]; exact h.size, fun k hk h1 h2 => (heap_setCell_other w' ⟨R, i, none⟩ k x h1).trans (h.block k hk h1 h2)⟩
theorem Near.setT {R Tc : Nat} {w w' : World} (h : Near R Tc w w') (i : Nat) (x : Value) : Near R Tc w (w'.setCell ⟨Tc, i, none⟩ x) :=
  ⟨h.os, h.tape, h.output, by rw [World.size_setCell]; exact h.size, fun k hk h1 h2 => (heap_setCell_other w' ⟨Tc, i, none⟩ k x h2).trans (h.block k hk h1 h2)⟩
theorem Near.alloc {R Tc : Nat} {w w' : World} (h : Near R Tc w w') (o : Obj) : Near R Tc w (w'.alloc o) :=
  ⟨h.os, h.tape, h.output, by rw [World.size_alloc]; have := h.size; omega, fun k hk h1 h2 => (Below.heap_alloc _ _ _ (by have := h.size; omega)).trans (h.block k hk h1 h2)⟩
theorem Near.drew {R Tc : Nat} {w w' : World} (h : Near R Tc w w') : Near R Tc w w'.drew := ⟨h.os, h.tape, h.output, h.size, h.block⟩
theorem TIn.near {w w' : World} {B R Tc : Nat} {t : T} {v : Value} (h : TIn w B t v) (hn : Near R Tc w w') (hR : R < B) (hT : Tc < B) : TIn w' B t v :=
  h.kept (Nat.le_refl _) (fun b o x hb hc => by
    have hk := hn.block b (World.block_lt_of_cell? w _ hc) (by omega) (by omega)
    simp only [World.cell?, hk] at hc ⊢
    exact hc)
/-- Parts in new memory: one, two, three. -/
theorem kat_one {F : World} {B b : Nat} {t : T} {ka : Option Addr} {kc : Nat} (h : TIn F B t (.agg (four t ka kc))) (hB : B ≤ b) (hb : Blk F b 33 (four t ka kc)) : KAt F B [t] (some ⟨b, 0, none⟩) 0 := by
  refine KAt_mk (fun j u hj => ⟨b, 0, rfl, ?_⟩)
  match j, hj with
  | 0, hj => simp at hj; subst hj; exact TAt_mk h hB (hb.cell 0) (hb.cell 1) (hb.cell 2) (hb.cell 3)
theorem kat_two {F : World} {B b : Nat} {t u : T} {ka la : Option Addr} {kc lc : Nat} (h : TIn F B t (.agg (four t ka kc))) (g : TIn F B u (.agg (four u la lc))) (hB : B ≤ b) (hb : Blk F b 33 (eight t ka kc u la lc)) : KAt F B [t, u] (some ⟨b, 0, none⟩) 0 := by
  refine KAt_mk (fun j x hj => ⟨b, 0, rfl, ?_⟩)
  match j, hj with
  | 0, hj => simp at hj; subst hj; exact TAt_mk h hB (hb.cell 0) (hb.cell 1) (hb.cell 2) (hb.cell 3)
  | 1, hj => simp at hj; subst hj; exact TAt_mk g hB (hb.cell 4) (hb.cell 5) (hb.cell 6) (hb.cell 7)
def twelve (t : T) (ka : Option Addr) (kc : Nat) (u : T) (la : Option Addr) (lc : Nat) (x : T) (ma : Option Addr) (mc : Nat) : Array Value :=
  #[.int .i64 t.kind, .string t.s, .int .i64 t.n, .slice ka t.k.length kc, .int .i64 u.kind, .string u.s, .int .i64 u.n, .slice la u.k.length lc, .int .i64 x.kind, .string x.s, .int .i64 x.n, .slice ma x.k.length mc]
theorem kat_three {F : World} {B b : Nat} {t u x : T} {ka la ma : Option Addr} {kc lc mc : Nat} (h : TIn F B t (.agg (four t ka kc))) (g : TIn F B u (.agg (four u la lc))) (f : TIn F B x (.agg (four x ma mc))) (hB : B ≤ b) (hb : Blk F b 33 (twelve t ka kc u la lc x ma mc)) : KAt F B [t, u, x] (some ⟨b, 0, none⟩) 0 := by
  refine KAt_mk (fun j y hj => ⟨b, 0, rfl, ?_⟩)
  match j, hj with
  | 0, hj => simp at hj; subst hj; exact TAt_mk h hB (hb.cell 0) (hb.cell 1) (hb.cell 2) (hb.cell 3)
  | 1, hj => simp at hj; subst hj; exact TAt_mk g hB (hb.cell 4) (hb.cell 5) (hb.cell 6) (hb.cell 7)
  | 2, hj => simp at hj; subst hj; exact TAt_mk f hB (hb.cell 8) (hb.cell 9) (hb.cell 10) (hb.cell 11)
/-- The end: the result's cell holds the tree, nothing else that was there has turned. -/
theorem Pre.fin {w0 w w5 F : World} {M : Nat} {p : Pl} {i : Nat} {left : Int} {label : Nat} {Tc : Nat} (h : Pre w0 w w5 M p i left label Tc) (hn : Near w.heap.size Tc w5 F) (c : C) (k : List T) (a : Option Addr) (cap : Nat) (hk : (plainC c).k = k) (hc : k.length ≤ cap) (hc2 : cap ≤ 3) (hK : KAt F w.heap.size k a 0) :
    MPostC w0 w M p (c, i, left, label) (.returned (.agg #[.int .i64 (plainC c).kind, .string (plainC c).s, .int .i64 (plainC c).n, .slice a k.length cap])) F := by
  have h1 := h.lo
  have h2 := h.old
  have h3 := h.base
  refine ⟨_, rfl, ⟨a, cap, by rw [hk], by rw [hk]; exact hc, by omega, by rw [hk]; exact hK⟩, ⟨h.min.plan, h.min.old, ?_, (hn.block M (by have := h.min.blk.lt; exact this) (by omega) (by omega)).trans h.min.blk⟩, ?_⟩
  · refine ⟨hn.os.trans h.min.below.os, hn.tape.trans h.min.below.tape, hn.output.trans h.min.below.output, Nat.le_trans h.min.below.size hn.size, fun k hk => ?_⟩
    exact (hn.block k (by have := h.min.below.size; omega) (by omega) (by omega)).trans (h.min.below.block k hk)
  · refine ⟨hn.os.trans h.grew.os, hn.tape.trans h.grew.tape, hn.output.trans h.grew.output, Nat.le_trans h.grew.size hn.size, fun k hk hM hr => ?_⟩
    exact (hn.block k (by have := h.grew.size; omega) (by omega) (by omega)).trans (h.grew.block k hk hM hr)
theorem Pre.fin0 {w0 w w5 F : World} {M : Nat} {p : Pl} {i : Nat} {left : Int} {label : Nat} {Tc : Nat} (h : Pre w0 w w5 M p i left label Tc) (hn : Near w.heap.size Tc w5 F) (c : C) {kind n : Int} {s : ByteArray} (hk : plainC c = .mk kind s n []) :
    MPostC w0 w M p (c, i, left, label) (.returned (.agg #[.int .i64 kind, .string s, .int .i64 n, .slice none 0 0])) F := by
  have := h.fin hn c [] none 0 (by rw [hk]; rfl) (Nat.le_refl _) (by omega) (by unfold KAt; trivial)
  rw [hk] at this
  exact this
theorem Pre.fin1 {w0 w w5 F : World} {M : Nat} {p : Pl} {i : Nat} {left : Int} {label : Nat} {Tc : Nat} (h : Pre w0 w w5 M p i left label Tc) (hn : Near w.heap.size Tc w5 F) (c : C) {kind n : Int} {s : ByteArray} {t : T} (hk : plainC c = .mk kind s n [t]) {ka : Option Addr} {kc : Nat} {B b : Nat} (ht : TIn w5 B t (.agg (four t ka kc))) (hB : Tc < B) (hb : w.heap.size ≤ b) (hbk : Blk F b 33 (four t ka kc)) :
    MPostC w0 w M p (c, i, left, label) (.returned (.agg #[.int .i64 kind, .string s, .int .i64 n, .slice (some ⟨b, 0, none⟩) 1 1])) F := by
  have hl := h.lo
  have := h.fin hn c [t] (some ⟨b, 0, none⟩) 1 (by rw [hk]; rfl) (Nat.le_refl _) (by omega) (kat_one ((ht.near hn (by omega) hB).low (by omega)) hb hbk)
  rw [hk] at this
  exact this
theorem Pre.fin2 {w0 w w5 F : World} {M : Nat} {p : Pl} {i : Nat} {left : Int} {label : Nat} {Tc : Nat} (h : Pre w0 w w5 M p i left label Tc) (hn : Near w.heap.size Tc w5 F) (c : C) {kind n : Int} {s : ByteArray} {t u : T} (hk : plainC c = .mk kind s n [t, u]) {ka la : Option Addr} {kc lc : Nat} {B B' b : Nat} (ht : TIn w5 B t (.agg (four t ka kc))) (hB : Tc < B) (hu : TIn w5 B' u (.agg (four u la lc))) (hB' : Tc < B') (hb : w.heap.size ≤ b) (hbk : Blk F b 33 (eight t ka kc u la lc)) :
    MPostC w0 w M p (c, i, left, label) (.returned (.agg #[.int .i64 kind, .string s, .int .i64 n, .slice (some ⟨b, 0, none⟩) 2 2])) F := by
  have hl := h.lo
  have := h.fin hn c [t, u] (some ⟨b, 0, none⟩) 2 (by rw [hk]; rfl) (Nat.le_refl _) (by omega) (kat_two ((ht.near hn (by omega) hB).low (by omega)) ((hu.near hn (by omega) hB').low (by omega)) hb hbk)
  rw [hk] at this
  exact this
theorem Pre.fin3 {w0 w w5 F : World} {M : Nat} {p : Pl} {i : Nat} {left : Int} {label : Nat} {Tc : Nat} (h : Pre w0 w w5 M p i left label Tc) (hn : Near w.heap.size Tc w5 F) (c : C) {kind n : Int} {s : ByteArray} {t u x : T} (hk : plainC c = .mk kind s n [t, u, x]) {ka la ma : Option Addr} {kc lc mc : Nat} {B B' B2 b : Nat} (ht : TIn w5 B t (.agg (four t ka kc))) (hB : Tc < B) (hu : TIn w5 B' u (.agg (four u la lc))) (hB' : Tc < B') (hx : TIn w5 B2 x (.agg (four x ma mc))) (hB2 : Tc < B2) (hb : w.heap.size ≤ b) (hbk : Blk F b 33 (twelve t ka kc u la lc x ma mc)) :
    MPostC w0 w M p (c, i, left, label) (.returned (.agg #[.int .i64 kind, .string s, .int .i64 n, .slice (some ⟨b, 0, none⟩) 3 3])) F := by
  have hl := h.lo
  have := h.fin hn c [t, u, x] (some ⟨b, 0, none⟩) 3 (by rw [hk]; rfl) (Nat.le_refl _) (by omega) (kat_three ((ht.near hn (by omega) hB).low (by omega)) ((hu.near hn (by omega) hB').low (by omega)) ((hx.near hn (by omega) hB2).low (by omega)) hb hbk)
  rw [hk] at this
  exact this
theorem blk_set4 {X : World} {R t : Nat} (h : Blk X R t zeroT) (a b c d : Value) (o : Obj) : Blk (((((X.setCell ⟨R, 0, none⟩ a).setCell ⟨R, 1, none⟩ b).setCell ⟨R, 2, none⟩ c).setCell ⟨R, 3, none⟩ d).alloc o) R t #[a, b, c, d] := heap_keeps (set4_blk h a b c d) o
theorem blk_set4' {X : World} {R t : Nat} (h : Blk X R t zeroT) (a b c d : Value) : Blk ((((X.setCell ⟨R, 0, none⟩ a).setCell ⟨R, 1, none⟩ b).setCell ⟨R, 2, none⟩ c).setCell ⟨R, 3, none⟩ d) R t #[a, b, c, d] := set4_blk h a b c d
theorem blk_drew {X : World} {b t : Nat} {cs : Array Value} (h : Blk X b t cs) : Blk X.drew b t cs := h
theorem blk_keep {X : World} {b t : Nat} {cs : Array Value} (h : Blk X b t cs) (o : Obj) : Blk (X.alloc o) b t cs := heap_keeps h o
theorem blk_other {X : World} {b t b' : Nat} {cs : Array Value} (h : Blk X b t cs) (hb : ¬ b = b') (i : Nat) (x : Value) : Blk (X.setCell ⟨b', i, none⟩ x) b t cs := h.other hb i x

end Go.Proofs.YtkioolbjmcpjpaaGreatDoor
