/- The document's own answer: the signs of a text, walked. -/
import Derived.Test.YtpopboanflnphaaRefC
namespace Go.Proofs.Ytpopboanflnphaa
open Go.RowKit
set_option linter.unusedVariables false

theorem Try.info43 : (Try.prog.info? 43).map (fun i => (i.zero, i.size, i.bytes)) = some (some (.agg #[.string ByteArray.empty, .int .i64 0]), 2, 24) := by kernel_rfl

/-- What the document's loop does from rune i on. -/
def refGo : List Sg → List Int → Nat → List Int → List Sg × Nat
  | l, _, _, [] => (l, 0)
  | l, word, i, r :: rs =>
    if joinB r = true then refGo l (word ++ [r]) (i + 1) rs
    else if markB r = true then refGo (endR l word ((i : Int) + 1) ++ [(Utf8.encode r, (i : Int) + 1)]) [] (i + 1) rs
    else if (r == 32) = true then refGo (endR l word ((i : Int) + 1)) [] (i + 1) rs
    else ([], i + 1)

theorem refGo_join (l : List Sg) (word : List Int) (i : Nat) (r : Int) (rs : List Int) (h : joinB r = true) : refGo l word i (r :: rs) = refGo l (word ++ [r]) (i + 1) rs := by simp [refGo, h]
theorem refGo_mark (l : List Sg) (word : List Int) (i : Nat) (r : Int) (rs : List Int) (h : joinB r = false) (h2 : markB r = true) : refGo l word i (r :: rs) = refGo (endR l word ((i : Int) + 1) ++ [(Utf8.encode r, (i : Int) + 1)]) [] (i + 1) rs := by simp [refGo, h, h2]
theorem refGo_skip (l : List Sg) (word : List Int) (i : Nat) (r : Int) (rs : List Int) (h : joinB r = false) (h2 : markB r = false) (h3 : (r == 32) = true) : refGo l word i (r :: rs) = refGo (endR l word ((i : Int) + 1)) [] (i + 1) rs := by simp only [refGo, h, h2, h3]; simp
theorem refGo_bad (l : List Sg) (word : List Int) (i : Nat) (r : Int) (rs : List Int) (h : joinB r = false) (h2 : markB r = false) (h3 : (r == 32) = false) : refGo l word i (r :: rs) = ([], i + 1) := by simp only [refGo, h, h2, h3]; simp

theorem refGo_eq (rs : List Int) : ∀ (l : List Sg) (word : List Int) (i : Nat), refGo l word i (rs ++ [32]) = if badGo i rs = 0 then (cutGo l word i rs, 0) else ([], badGo i rs) := by
  induction rs with
  | nil =>
    intro l word i
    rw [List.nil_append, refGo_skip l word i 32 [] (by decide) (by decide) (by decide)]
    simp [refGo, badGo, cutGo]
  | cons r rs ih =>
    intro l word i
    rw [List.cons_append]
    cases h1 : joinB r
    · cases h2 : markB r
      · cases h3 : (r == 32)
        · rw [refGo_bad l word i r _ h1 h2 h3, badGo_no i r rs (by simp only [okR, h1, h2, h3]; rfl)]
          simp
        · rw [refGo_skip l word i r _ h1 h2 h3, ih, badGo_yes i r rs (by simp only [okR, h3]; rfl), cutGo_skip l word i r rs h1 h2]
          rfl
      · rw [refGo_mark l word i r _ h1 h2, ih, badGo_yes i r rs (by simp only [okR, h2]; simp), cutGo_mark l word i r rs h1 h2]
        rfl
    · rw [refGo_join l word i r _ h1, ih, badGo_yes i r rs (by simp only [okR, h1]; simp), cutGo_join l word i r rs h1]

theorem runesBytes_nil_iff (rs : List Int) : (runesBytes rs).data.toList = [] ↔ rs = [] := by
  constructor
  · intro h
    cases rs with
    | nil => rfl
    | cons r rs =>
      exfalso
      rw [runesBytes_cons] at h
      have h2 := congrArg List.length h
      have e : ∀ a : ByteArray, a.data.toList.length = a.size := fun a => by simp
      rw [e, ByteArray.size_append] at h2
      have := (encode_size r).1
      rw [List.length_nil] at h2
      omega
  · intro h; subst h; rfl

theorem own_some {w : World} {B : Nat} {e : TypeId} {size n : Nat} {v : Value} {xs : List Value} (h : w.ownsRow B e size v n xs) (hn : 0 < n) : ∃ g cap, v = .slice (some ⟨g, 0, none⟩) n cap := by
  rcases h.2 with ⟨_, h0⟩ | ⟨g, cap, cur, rfl, _⟩
  · omega
  · exact ⟨g, cap, rfl⟩

theorem runesBytes_snoc2 (rs : List Int) (r : Int) : runesBytes (rs ++ [r]) = runesBytes rs ++ Utf8.encode r := by rw [runesBytes_append, runesBytes_one]

def SInv (B g n cap : Nat) (xs : List Int) (w : World) (l : List Sg) (v : Value) (wr : World) : Prop :=
  wr.ownsRow B 43 2 v l.length (sgCells l) ∧ wr.ownsRow B 21 1 (.slice (some ⟨g, 0, none⟩) n cap) n (runCells xs) ∧ Below B w wr ∧ B ≤ wr.heap.size

theorem SInv.alloc {B g n cap : Nat} {xs : List Int} {w : World} {l : List Sg} {v : Value} {wr : World} (h : SInv B g n cap xs w l v wr) (o : Obj) : SInv B g n cap xs w l v (wr.alloc o) := by
  obtain ⟨h1, h2, h3, h4⟩ := h
  exact ⟨h1.alloc o, h2.alloc o, h3.alloc h4 o, by simp; omega⟩
theorem SInv.list {B g n cap : Nat} {xs : List Int} {w : World} {l l' : List Sg} {v v' : Value} {wr w1 : World} (h : SInv B g n cap xs w l v wr)
    (hv' : w1.ownsRow B 43 2 v' l'.length (sgCells l')) (hg : wr.grownBy w1 v.ownBlock) : SInv B g n cap xs w l' v' w1 := by
  obtain ⟨h1, h2, h3, h4⟩ := h
  exact ⟨hv', h2.kept hg (own_ne h2 h1 (by decide)), h3.grown hg h4 (fun k hk => (h1.lt k hk).1), by have := hg.size; omega⟩

/-- The signs that the document answers. -/
def refL (s : ByteArray) : List Sg := if badOf s = 0 then sgOf s else []

theorem inv_end {B g n cap : Nat} {xs : List Int} {w : World} {l : List Sg} {v v1 : Value} {wr w3 : World} {o : Obj} {word : List Int} {X : ByteArray} {at_ : Int} {i : Nat} (h : SInv B g n cap xs w l v wr) (hne : word ≠ [])
    (hat : at_ = (i : Int) + 1 - word.length) (hX : runesBytes word = X) (hown : w3.ownsRow B 43 2 v1 (l.length + 1) (sgCells l ++ [.string X, .int .i64 at_])) (hg : (wr.alloc o).grownBy w3 v.ownBlock) : SInv B g n cap xs w (endR l word ((i : Int) + 1)) v1 w3 := by
  refine (h.alloc o).list ?_ hg
  rw [show endR l word ((i : Int) + 1) = l ++ [(X, at_)] from by unfold endR; rw [if_neg hne, hX, hat], sgCells_append]
  simpa [sgCells] using hown
theorem inv_mark {B g n cap : Nat} {xs : List Int} {w : World} {l : List Sg} {v v1 : Value} {wr w3 : World} {o : Obj} {X : ByteArray} {at_ : Int} (h : SInv B g n cap xs w l v wr)
    (hown : w3.ownsRow B 43 2 v1 (l.length + 1) (sgCells l ++ [.string X, .int .i64 at_])) (hg : (wr.alloc o).grownBy w3 v.ownBlock) : SInv B g n cap xs w (l ++ [(X, at_)]) v1 w3 := by
  refine (h.alloc o).list ?_ hg
  rw [sgCells_append]
  simpa [sgCells] using hown

set_option maxHeartbeats 4000000 in
set_option maxRecDepth 100000 in
theorem refSigns_any (s : ByteArray) (w : World) (hs : s.size ≤ 1073741824) :
    Calls Try.prog 21 #[.string s] w fun e w' => ∃ v, e = .returned (.tuple #[v, .int .i64 (badOf s : Nat)]) ∧ w'.ownsRow w.heap.size 43 2 v (refL s).length (sgCells (refL s)) ∧ Below w.heap.size w w' := by
  obtain ⟨i0, hi, hz0, hz1, hz2⟩ := info_parts Try.info43
  obtain ⟨i1, gi, gz0, gz1, gz2⟩ := info_parts Try.info21
  have hlen := rest_length s 0
  change (runesOf s).length ≤ s.size - 0 at hlen
  go_enter Try.func21, Try.ntmps21
  go_wp2_with fail
  refine (refRunes_any s w (by omega)).mono ?_
  rintro e w1 ⟨u, rfl, hown, hb⟩
  have hsz := hb.size
  have HEQ : Hid (refGo [] [] 0 (runesOf s ++ [32]) = if badOf s = 0 then (sgOf s, 0) else ([], badOf s)) := refGo_eq (runesOf s) [] [] 0
  obtain ⟨xs, hxs⟩ : ∃ xs, xs = runesOf s ++ [32] := ⟨_, rfl⟩
  have hxl : xs.length ≤ 1073741825 := by rw [hxs]; simp; omega
  have HXS : Hid (xs = runesOf s ++ [32]) := hxs
  clear hxs
  go_wp2_with (at_builtin; refine wpList_append_own _ rfl _ _ 48 rfl w.heap.size 21 i1 (.int .i32 0) 1 4 Try.underlying48 gi gz0 gz1 gz2 rfl (by decide) _ _ _ rfl (hown.alloc _) ⟨w1.heap.size, 0, none⟩ 1 1 [.int .i32 32] rfl rfl (cell_one_at w1 _ _) (by intro u hu; simp at hu; subst hu; rfl) (by unfold maxLen; omega) (by omega) (by simp; omega) ?_; intro u' w2 hown' hgrow _; obtain ⟨g, cap, rfl⟩ := own_some hown' (by omega))
  have hown2 : w2.ownsRow w.heap.size 21 1 (.slice (some ⟨g, 0, none⟩) ((runesOf s).length + 1) cap) ((runesOf s).length + 1) (runCells xs) := by rw [HXS.out]; simpa [runCells] using hown'
  have hxn : xs.length = (runesOf s).length + 1 := by rw [HXS.out]; simp
  have hb2 : Below w.heap.size w w2 := (hb.alloc hsz _).grown hgrow (by simp; omega) (fun k hk => (hown.lt k hk).1)
  have hs2 : w.heap.size ≤ w2.heap.size := hb2.size
  have HE2 : Hid (refGo [] [] 0 xs = if badOf s = 0 then (sgOf s, 0) else ([], badOf s)) := by unfold Hid; rw [HXS.out]; exact HEQ.out
  clear hown hown' hgrow hb hsz HEQ hlen HXS
  generalize (runesOf s).length = n0 at *
  have hn0 : n0 ≤ 1073741825 := by omega
  go_loopw [14, 4, 5, 6] (fun s14 s4 s5 s6 wr => ∃ (i : Nat) (l : List Sg) (word : List Int) (at_ : Int), i ≤ n0 + 1 ∧ s14 = .int .i64 i ∧ SInv w.heap.size g (n0 + 1) cap xs w l s4 wr ∧ s5 = .string (runesBytes word) ∧ s6 = .int .i64 at_ ∧ (word ≠ [] → at_ = (i : Int) + 1 - word.length) ∧ word.length ≤ i ∧ l.length ≤ 2 * i ∧ refGo l word i (xs.drop i) = refGo [] [] 0 xs) (fun s14 _ _ _ _ => n0 + 1 - (intOf s14).toNat)
  case atStart => exact ⟨0, [], [], 0, by omega, rfl, ⟨World.ownsRow_nil _ _ _ _, hown2, hb2, hs2⟩, rfl, rfl, fun h => absurd rfl h, by simp, by simp, by simp⟩
  case round =>
    obtain ⟨i, l, word, at_, hi1, rfl, hinv, rfl, rfl, hat, hwl, hll, hc⟩ := hrel
    clear hown2 hb2 hs2
    by_cases hlt : i < n0 + 1
    · have hlt' : (i : Int) < (n0 : Int) + 1 := by omega
      have hlx : i < xs.length := by omega
      obtain ⟨r, hr⟩ : ∃ r, r = xs[i] := ⟨_, rfl⟩
      have hcell : wr.cell? ⟨g, i, none⟩ = some (.int .i32 r) := by
        rw [hinv.2.1.cellAt i (by omega), hr]
        simp [runCells, hlx]
      rw [List.drop_eq_getElem_cons hlx, ← hr] at hc
      have HC : Hid (refGo l word i (r :: xs.drop (i + 1)) = refGo [] [] 0 xs) := hc
      have HAT : Hid (word ≠ [] → at_ = (i : Int) + 1 - word.length) := hat
      clear hc hr hat
      have hsz := runesBytes_size_le word
      have hesz := (encode_size r).2
      have HX : Hid (runesBytes (word ++ [r]) = runesBytes word ++ Utf8.encode r) := runesBytes_snoc2 word r
      have hemp := runesBytes_nil_iff word
      have HW : Hid (((runesBytes word).toList == []) = decide (word = [])) := by
        unfold Hid
        rw [ByteArray.toList_eq, Bool.eq_iff_iff, beq_iff_eq, decide_eq_true_eq]; exact hemp
      clear hemp
      generalize hX : runesBytes word = X at *
      have HX2 : Hid (runesBytes word = X) := hX
      clear hX
      cases hj : joinB r
      · have h1 : letB r = false := by simp [joinB] at hj; exact hj.2
        have h2 : (r == 45) = false := by simp [joinB] at hj; simpa using hj.1
        by_cases hwe : word = []
        · have ew : (X.toList == []) = true := by rw [HW.out]; simpa using hwe
          subst hwe
          cases hm : markB r
          · have e40 : (r == 40) = false := by simp [markB] at hm; simpa using hm.1.1
            have e41 : (r == 41) = false := by simp [markB] at hm; simpa using hm.1.2
            have e44 : (r == 44) = false := by simp [markB] at hm; simpa using hm.2
            cases e32 : (r == 32)
            · go_wp2_with (go_at_call 18; refine calls_same (refLet_any _ _) ?_)
              go_ret2
              have hfin := HC.out
              rw [refGo_bad _ _ _ _ _ hj hm e32, HE2.out] at hfin
              have hbad : badOf s = i + 1 := by
                by_cases h0 : badOf s = 0
                · rw [if_pos h0] at hfin; simp at hfin
                · rw [if_neg h0] at hfin; simp at hfin; omega
              have hrl : refL s = [] := by unfold refL; rw [if_neg (by omega)]
              rw [hrl]
              refine ⟨_, ?_, World.ownsRow_nil _ _ _ _, hinv.2.2.1⟩
              rw [hbad]
              rfl
            · go_wp2_with (go_at_call 18; refine calls_same (refLet_any _ _) ?_)
              go_roundw
              case rel => exact ⟨i + 1, _, [], at_, by omega, by go_num, hinv, by rw [HX2.out], rfl, fun h => absurd rfl h, by simp, by omega, by rw [← HC.out, refGo_skip _ _ _ _ _ hj hm e32]; rfl⟩
              case measure => simp [intOf]; omega
          · cases e40 : (r == 40)
            · cases e41 : (r == 41)
              · have e44 : (r == 44) = true := by simp only [markB, e40, e41] at hm; simpa using hm
                go_wp2_with (first
                  | (go_at_call 18; refine calls_same (refLet_any _ _) ?_)
                  | (at_builtin; refine wpList_append_own _ rfl (.tmp 48) (.tmp 54) 40 rfl w.heap.size 43 i0 (.agg #[.string ByteArray.empty, .int .i64 0]) 2 24 Try.underlying40 hi hz0 hz1 hz2 rfl (by decide) _ _ _ rfl (hinv.1.alloc _) ⟨wr.heap.size, 0, none⟩ 1 1 [.string (Utf8.encode r), .int .i64 ((i : Int) + 1)] rfl rfl (cell_two_new wr _ _ _) (by intro u hu; simp at hu; rcases hu with rfl | rfl <;> rfl) (by unfold maxLen; omega) (by omega) (by have := hinv.2.2.2; simp; omega) ?_; intro v2 w4 hown2 hgrow2 _; have hinv2 := inv_mark hinv hown2 hgrow2))
                go_roundw
                case rel => exact ⟨i + 1, _, [], at_, by omega, by go_num, hinv2, by rw [HX2.out], rfl, fun h => absurd rfl h, by simp, by simp; omega, by rw [← HC.out, refGo_mark _ _ _ _ _ hj hm]; rfl⟩
                case measure => simp [intOf]; omega
              · go_wp2_with (first
                  | (go_at_call 18; refine calls_same (refLet_any _ _) ?_)
                  | (at_builtin; refine wpList_append_own _ rfl (.tmp 48) (.tmp 54) 40 rfl w.heap.size 43 i0 (.agg #[.string ByteArray.empty, .int .i64 0]) 2 24 Try.underlying40 hi hz0 hz1 hz2 rfl (by decide) _ _ _ rfl (hinv.1.alloc _) ⟨wr.heap.size, 0, none⟩ 1 1 [.string (Utf8.encode r), .int .i64 ((i : Int) + 1)] rfl rfl (cell_two_new wr _ _ _) (by intro u hu; simp at hu; rcases hu with rfl | rfl <;> rfl) (by unfold maxLen; omega) (by omega) (by have := hinv.2.2.2; simp; omega) ?_; intro v2 w4 hown2 hgrow2 _; have hinv2 := inv_mark hinv hown2 hgrow2))
                go_roundw
                case rel => exact ⟨i + 1, _, [], at_, by omega, by go_num, hinv2, by rw [HX2.out], rfl, fun h => absurd rfl h, by simp, by simp; omega, by rw [← HC.out, refGo_mark _ _ _ _ _ hj hm]; rfl⟩
                case measure => simp [intOf]; omega
            · go_wp2_with (first
                | (go_at_call 18; refine calls_same (refLet_any _ _) ?_)
                | (at_builtin; refine wpList_append_own _ rfl (.tmp 48) (.tmp 54) 40 rfl w.heap.size 43 i0 (.agg #[.string ByteArray.empty, .int .i64 0]) 2 24 Try.underlying40 hi hz0 hz1 hz2 rfl (by decide) _ _ _ rfl (hinv.1.alloc _) ⟨wr.heap.size, 0, none⟩ 1 1 [.string (Utf8.encode r), .int .i64 ((i : Int) + 1)] rfl rfl (cell_two_new wr _ _ _) (by intro u hu; simp at hu; rcases hu with rfl | rfl <;> rfl) (by unfold maxLen; omega) (by omega) (by have := hinv.2.2.2; simp; omega) ?_; intro v2 w4 hown2 hgrow2 _; have hinv2 := inv_mark hinv hown2 hgrow2))
              go_roundw
              case rel => exact ⟨i + 1, _, [], at_, by omega, by go_num, hinv2, by rw [HX2.out], rfl, fun h => absurd rfl h, by simp, by simp; omega, by rw [← HC.out, refGo_mark _ _ _ _ _ hj hm]; rfl⟩
              case measure => simp [intOf]; omega
        · have ew : (X.toList == []) = false := by rw [HW.out]; simpa using hwe
          have hel := endR_len l word ((i : Int) + 1)
          cases hm : markB r
          · have e40 : (r == 40) = false := by simp [markB] at hm; simpa using hm.1.1
            have e41 : (r == 41) = false := by simp [markB] at hm; simpa using hm.1.2
            have e44 : (r == 44) = false := by simp [markB] at hm; simpa using hm.2
            cases e32 : (r == 32)
            · go_wp2_with (first
                | (go_at_call 18; refine calls_same (refLet_any _ _) ?_)
                | (at_builtin; refine wpList_append_own _ rfl (.tmp 35) (.tmp 39) 40 rfl w.heap.size 43 i0 (.agg #[.string ByteArray.empty, .int .i64 0]) 2 24 Try.underlying40 hi hz0 hz1 hz2 rfl (by decide) _ _ _ rfl (hinv.1.alloc _) ⟨wr.heap.size, 0, none⟩ 1 1 [.string X, .int .i64 at_] rfl rfl (cell_two_new wr _ _ _) (by intro u hu; simp at hu; rcases hu with rfl | rfl <;> rfl) (by unfold maxLen; omega) (by omega) (by have := hinv.2.2.2; simp; omega) ?_; intro v1 w3 hown1 hgrow1 _; have hinv1 := inv_end hinv hwe (HAT.out hwe) HX2.out hown1 hgrow1))
              go_ret2
              have hfin := HC.out
              rw [refGo_bad _ _ _ _ _ hj hm e32, HE2.out] at hfin
              have hbad : badOf s = i + 1 := by
                by_cases h0 : badOf s = 0
                · rw [if_pos h0] at hfin; simp at hfin
                · rw [if_neg h0] at hfin; simp at hfin; omega
              have hrl : refL s = [] := by unfold refL; rw [if_neg (by omega)]
              rw [hrl]
              refine ⟨_, ?_, World.ownsRow_nil _ _ _ _, hinv1.2.2.1⟩
              rw [hbad]
              rfl
            · go_wp2_with (first
                | (go_at_call 18; refine calls_same (refLet_any _ _) ?_)
                | (at_builtin; refine wpList_append_own _ rfl (.tmp 35) (.tmp 39) 40 rfl w.heap.size 43 i0 (.agg #[.string ByteArray.empty, .int .i64 0]) 2 24 Try.underlying40 hi hz0 hz1 hz2 rfl (by decide) _ _ _ rfl (hinv.1.alloc _) ⟨wr.heap.size, 0, none⟩ 1 1 [.string X, .int .i64 at_] rfl rfl (cell_two_new wr _ _ _) (by intro u hu; simp at hu; rcases hu with rfl | rfl <;> rfl) (by unfold maxLen; omega) (by omega) (by have := hinv.2.2.2; simp; omega) ?_; intro v1 w3 hown1 hgrow1 _; have hinv1 := inv_end hinv hwe (HAT.out hwe) HX2.out hown1 hgrow1))
              go_roundw
              case rel => exact ⟨i + 1, _, [], at_, by omega, by go_num, hinv1, rfl, rfl, fun h => absurd rfl h, by simp, by omega, by rw [← HC.out, refGo_skip _ _ _ _ _ hj hm e32]⟩
              case measure => simp [intOf]; omega
          · cases e40 : (r == 40)
            · cases e41 : (r == 41)
              · have e44 : (r == 44) = true := by simp only [markB, e40, e41] at hm; simpa using hm
                go_wp2_with (first
                  | (go_at_call 18; refine calls_same (refLet_any _ _) ?_)
                  | (at_builtin; refine wpList_append_own _ rfl (.tmp 35) (.tmp 39) 40 rfl w.heap.size 43 i0 (.agg #[.string ByteArray.empty, .int .i64 0]) 2 24 Try.underlying40 hi hz0 hz1 hz2 rfl (by decide) _ _ _ rfl (hinv.1.alloc _) ⟨wr.heap.size, 0, none⟩ 1 1 [.string X, .int .i64 at_] rfl rfl (cell_two_new wr _ _ _) (by intro u hu; simp at hu; rcases hu with rfl | rfl <;> rfl) (by unfold maxLen; omega) (by omega) (by have := hinv.2.2.2; simp; omega) ?_; intro v1 w3 hown1 hgrow1 _; have hinv1 := inv_end hinv hwe (HAT.out hwe) HX2.out hown1 hgrow1)
                  | (at_builtin; refine wpList_append_own _ rfl (.tmp 48) (.tmp 54) 40 rfl w.heap.size 43 i0 (.agg #[.string ByteArray.empty, .int .i64 0]) 2 24 Try.underlying40 hi hz0 hz1 hz2 rfl (by decide) _ _ _ rfl (hinv1.1.alloc _) ⟨w3.heap.size, 0, none⟩ 1 1 [.string (Utf8.encode r), .int .i64 ((i : Int) + 1)] rfl rfl (cell_two_new w3 _ _ _) (by intro u hu; simp at hu; rcases hu with rfl | rfl <;> rfl) (by unfold maxLen; omega) (by omega) (by have := hinv1.2.2.2; simp; omega) ?_; intro v2 w4 hown2 hgrow2 _; have hinv2 := inv_mark hinv1 hown2 hgrow2))
                go_roundw
                case rel => exact ⟨i + 1, _, [], at_, by omega, by go_num, hinv2, rfl, rfl, fun h => absurd rfl h, by simp, by simp; omega, by rw [← HC.out, refGo_mark _ _ _ _ _ hj hm]⟩
                case measure => simp [intOf]; omega
              · go_wp2_with (first
                  | (go_at_call 18; refine calls_same (refLet_any _ _) ?_)
                  | (at_builtin; refine wpList_append_own _ rfl (.tmp 35) (.tmp 39) 40 rfl w.heap.size 43 i0 (.agg #[.string ByteArray.empty, .int .i64 0]) 2 24 Try.underlying40 hi hz0 hz1 hz2 rfl (by decide) _ _ _ rfl (hinv.1.alloc _) ⟨wr.heap.size, 0, none⟩ 1 1 [.string X, .int .i64 at_] rfl rfl (cell_two_new wr _ _ _) (by intro u hu; simp at hu; rcases hu with rfl | rfl <;> rfl) (by unfold maxLen; omega) (by omega) (by have := hinv.2.2.2; simp; omega) ?_; intro v1 w3 hown1 hgrow1 _; have hinv1 := inv_end hinv hwe (HAT.out hwe) HX2.out hown1 hgrow1)
                  | (at_builtin; refine wpList_append_own _ rfl (.tmp 48) (.tmp 54) 40 rfl w.heap.size 43 i0 (.agg #[.string ByteArray.empty, .int .i64 0]) 2 24 Try.underlying40 hi hz0 hz1 hz2 rfl (by decide) _ _ _ rfl (hinv1.1.alloc _) ⟨w3.heap.size, 0, none⟩ 1 1 [.string (Utf8.encode r), .int .i64 ((i : Int) + 1)] rfl rfl (cell_two_new w3 _ _ _) (by intro u hu; simp at hu; rcases hu with rfl | rfl <;> rfl) (by unfold maxLen; omega) (by omega) (by have := hinv1.2.2.2; simp; omega) ?_; intro v2 w4 hown2 hgrow2 _; have hinv2 := inv_mark hinv1 hown2 hgrow2))
                go_roundw
                case rel => exact ⟨i + 1, _, [], at_, by omega, by go_num, hinv2, rfl, rfl, fun h => absurd rfl h, by simp, by simp; omega, by rw [← HC.out, refGo_mark _ _ _ _ _ hj hm]⟩
                case measure => simp [intOf]; omega
            · go_wp2_with (first
                | (go_at_call 18; refine calls_same (refLet_any _ _) ?_)
                | (at_builtin; refine wpList_append_own _ rfl (.tmp 35) (.tmp 39) 40 rfl w.heap.size 43 i0 (.agg #[.string ByteArray.empty, .int .i64 0]) 2 24 Try.underlying40 hi hz0 hz1 hz2 rfl (by decide) _ _ _ rfl (hinv.1.alloc _) ⟨wr.heap.size, 0, none⟩ 1 1 [.string X, .int .i64 at_] rfl rfl (cell_two_new wr _ _ _) (by intro u hu; simp at hu; rcases hu with rfl | rfl <;> rfl) (by unfold maxLen; omega) (by omega) (by have := hinv.2.2.2; simp; omega) ?_; intro v1 w3 hown1 hgrow1 _; have hinv1 := inv_end hinv hwe (HAT.out hwe) HX2.out hown1 hgrow1)
                | (at_builtin; refine wpList_append_own _ rfl (.tmp 48) (.tmp 54) 40 rfl w.heap.size 43 i0 (.agg #[.string ByteArray.empty, .int .i64 0]) 2 24 Try.underlying40 hi hz0 hz1 hz2 rfl (by decide) _ _ _ rfl (hinv1.1.alloc _) ⟨w3.heap.size, 0, none⟩ 1 1 [.string (Utf8.encode r), .int .i64 ((i : Int) + 1)] rfl rfl (cell_two_new w3 _ _ _) (by intro u hu; simp at hu; rcases hu with rfl | rfl <;> rfl) (by unfold maxLen; omega) (by omega) (by have := hinv1.2.2.2; simp; omega) ?_; intro v2 w4 hown2 hgrow2 _; have hinv2 := inv_mark hinv1 hown2 hgrow2))
              go_roundw
              case rel => exact ⟨i + 1, _, [], at_, by omega, by go_num, hinv2, rfl, rfl, fun h => absurd rfl h, by simp, by simp; omega, by rw [← HC.out, refGo_mark _ _ _ _ _ hj hm]⟩
              case measure => simp [intOf]; omega
      · have hjj : letB r = true ∨ (letB r = false ∧ (r == 45) = true) := by
          cases hl : letB r
          · right; simp [joinB, hl] at hj; exact ⟨rfl, by simpa using hj⟩
          · left; rfl
        by_cases hwe : word = []
        · have ew : (X.toList == []) = true := by rw [HW.out]; simpa using hwe
          subst hwe
          rcases hjj with h1 | ⟨h1, h2⟩
          all_goals
            go_wp2_with (go_at_call 18; refine calls_same (refLet_any _ _) ?_)
            go_roundw
            case rel => exact ⟨i + 1, l, [r], (i : Int) + 1, by omega, by go_num, hinv, by rw [show ([r] : List Int) = [] ++ [r] from rfl, HX.out], rfl, fun _ => by simp, by simp, by omega, by rw [← HC.out, refGo_join _ _ _ _ _ hj]; rfl⟩
            case measure => simp [intOf]; omega
        · have ew : (X.toList == []) = false := by rw [HW.out]; simpa using hwe
          rcases hjj with h1 | ⟨h1, h2⟩
          all_goals
            go_wp2_with (go_at_call 18; refine calls_same (refLet_any _ _) ?_)
            go_roundw
            case rel => exact ⟨i + 1, l, word ++ [r], at_, by omega, by go_num, hinv, by rw [HX.out], rfl, fun _ => by rw [HAT.out hwe]; simp; omega, by simp; omega, by omega, by rw [← HC.out, refGo_join _ _ _ _ _ hj]⟩
            case measure => simp [intOf]; omega
    · have hin : i = n0 + 1 := by omega
      have hfin := hc
      rw [List.drop_of_length_le (by omega), HE2.out] at hfin
      simp only [refGo] at hfin
      have HFI : Hid (badOf s = 0 ∧ l = sgOf s) := by
        unfold Hid
        by_cases h0 : badOf s = 0
        · rw [if_pos h0] at hfin; simp at hfin; exact ⟨h0, hfin⟩
        · rw [if_neg h0] at hfin; simp at hfin; omega
      clear hfin hc
      have hlt' : ¬ (i : Int) < (n0 : Int) + 1 := by omega
      go_wp2_with fail
      go_ret2
      have hrl : refL s = l := by unfold refL; rw [if_pos HFI.out.1]; exact HFI.out.2.symm
      rw [hrl]
      refine ⟨_, ?_, hinv.1, hinv.2.2.1⟩
      rw [HFI.out.1]
      rfl

end Go.Proofs.Ytpopboanflnphaa
