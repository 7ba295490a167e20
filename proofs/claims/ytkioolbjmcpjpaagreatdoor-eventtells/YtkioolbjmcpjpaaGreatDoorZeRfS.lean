/- The document's own Same of two events. -/
import Derived.Test.YtkioolbjmcpjpaaGreatDoorZe3
import Derived.Test.YtkioolbjmcpjpaaGreatDoorZe2
namespace Go.Proofs.YtkioolbjmcpjpaaGreatDoor.Ev
open Go.RowKit
set_option linter.unusedVariables false
set_option linter.unusedSimpArgs false

theorem undef_not (b : Bool) : ¬ (some undef = some (Value.bool b)) := by intro h; cases h
/-- What the document's Same answers. -/
def sameR (a b : Ev) : Bool := (a.k == b.k) && (a.i.toList == b.i.toList) && (a.n.toList == b.n.toList) && (a.l.toList == b.l.toList) && (a.u.toList == b.u.toList) && (a.d == b.d) && (a.v == b.v) && (((plainC a.t).kind == 0) && ((plainC b.t).kind == 0) || sameTr (plainC a.t) (plainC b.t))
theorem kind_nil (c : C) (h : c = none' ∨ c.whole) : ((plainC c).kind == 0) = nilB c := by
  rcases h with rfl | h
  · rfl
  · cases c with
    | odd v => cases h
    | _ => rfl
theorem sameR_eq (a b : Ev) (ha : a.t = none' ∨ a.t.whole) (hb : b.t = none' ∨ b.t.whole) : sameR a b = sameE a b := by
  unfold sameR sameE sameTm
  rw [kind_nil _ ha, kind_nil _ hb, plainC_same]

set_option maxHeartbeats 8000000 in
set_option maxRecDepth 100000 in
theorem refSame11_any (a b : Ev) (w : World) (va vb : Value) (ha : RIn w 0 a va) (hb : RIn w 0 b vb) : Calls Tryz.prog 17 #[va, vb] w fun x w' => x = .returned (.bool (sameR a b)) ∧ Below w.heap.size w w' := by
  obtain ⟨ka, kc, rfl, hta⟩ := ha
  obtain ⟨ka', kc', rfl, htb⟩ := hb
  have HS := hidIn (fun (W : World) (hW : Below w.heap.size w W) => refSame_any (plainC a.t) (plainC b.t) W _ _ (hta.below hW) (htb.below hW))
  have HR : Hid (sameR a b = ((a.k == b.k) && (a.i.toList == b.i.toList) && (a.n.toList == b.n.toList) && (a.l.toList == b.l.toList) && (a.u.toList == b.u.toList) && (a.d == b.d) && (a.v == b.v) && (((plainC a.t).kind == 0) && ((plainC b.t).kind == 0) || sameTr (plainC a.t) (plainC b.t)))) := rfl
  clear hta htb
  generalize sameR a b = res at *
  generalize sameTr (plainC a.t) (plainC b.t) = st at *
  obtain ⟨k, i, n, l, u, d, v, t⟩ := a
  obtain ⟨k', i', n', l', u', d', v', t'⟩ := b
  simp only at *
  generalize (plainC t).kind = tk at *
  generalize (plainC t).s = ts at *
  generalize (plainC t).n = tn at *
  generalize (plainC t).k.length = tl at *
  generalize (plainC t').kind = tk' at *
  generalize (plainC t').s = ts' at *
  generalize (plainC t').n = tn' at *
  generalize (plainC t').k.length = tl' at *
  clear t t'
  have HB : Hid (Below w.heap.size w ((w.alloc (.cells #[.int .i64 k, .string i, .string n, .string l, .string u, .int .i64 d, .int .i64 v, .int .i64 tk, .string ts, .int .i64 tn, .slice ka tl kc] 35)).alloc (.cells #[.int .i64 k', .string i', .string n', .string l', .string u', .int .i64 d', .int .i64 v', .int .i64 tk', .string ts', .int .i64 tn', .slice ka' tl' kc'] 35))) := below_alloc (below_alloc (Below.refl _ _) _) _
  go_enter Tryz.func17, Tryz.ntmps17
  cases h0 : (k == k')
  · go_wp2_with fail
    try any_goals exact absurd (by assumption) (undef_not _)
    go_ret
    exact ⟨by rw [HR.out]; simp [h0], HB.out⟩
  cases h1 : (i.toList == i'.toList)
  · go_wp2_with fail
    try any_goals exact absurd (by assumption) (undef_not _)
    go_ret
    exact ⟨by rw [HR.out]; simp [h0, h1], HB.out⟩
  cases h2 : (n.toList == n'.toList)
  · go_wp2_with fail
    try any_goals exact absurd (by assumption) (undef_not _)
    go_ret
    exact ⟨by rw [HR.out]; simp [h0, h1, h2], HB.out⟩
  cases h3 : (l.toList == l'.toList)
  · go_wp2_with fail
    try any_goals exact absurd (by assumption) (undef_not _)
    go_ret
    exact ⟨by rw [HR.out]; simp [h0, h1, h2, h3], HB.out⟩
  cases h4 : (u.toList == u'.toList)
  · go_wp2_with fail
    try any_goals exact absurd (by assumption) (undef_not _)
    go_ret
    exact ⟨by rw [HR.out]; simp [h0, h1, h2, h3, h4], HB.out⟩
  cases h5 : (d == d')
  · go_wp2_with fail
    try any_goals exact absurd (by assumption) (undef_not _)
    go_ret
    exact ⟨by rw [HR.out]; simp [h0, h1, h2, h3, h4, h5], HB.out⟩
  cases h6 : (v == v')
  · go_wp2_with fail
    try any_goals exact absurd (by assumption) (undef_not _)
    go_ret
    exact ⟨by rw [HR.out]; simp [h0, h1, h2, h3, h4, h5, h6], HB.out⟩
  cases h7 : (tk == 0)
  · go_wp2_with fail
    try any_goals exact absurd (by assumption) (undef_not _)
    refine (HS.out _ HB.out).mono ?_
    rintro e w1 ⟨rfl, hb1⟩
    have HB1 := hidIn (HB.out.trans (hb1.mono HB.out.size))
    clear hb1
    go_wp2_with fail
    try any_goals exact absurd (by assumption) (undef_not _)
    go_ret
    exact ⟨by rw [HR.out]; simp [h0, h1, h2, h3, h4, h5, h6, h7], HB1.out⟩
  cases h8 : (tk' == 0)
  · go_wp2_with fail
    try any_goals exact absurd (by assumption) (undef_not _)
    refine (HS.out _ HB.out).mono ?_
    rintro e w1 ⟨rfl, hb1⟩
    have HB1 := hidIn (HB.out.trans (hb1.mono HB.out.size))
    clear hb1
    go_wp2_with fail
    try any_goals exact absurd (by assumption) (undef_not _)
    go_ret
    exact ⟨by rw [HR.out]; simp [h0, h1, h2, h3, h4, h5, h6, h7, h8], HB1.out⟩
  go_wp2_with fail
  go_ret
  exact ⟨by rw [HR.out]; simp [h0, h1, h2, h3, h4, h5, h6, h7, h8], HB.out⟩

end Go.Proofs.YtkioolbjmcpjpaaGreatDoor.Ev
