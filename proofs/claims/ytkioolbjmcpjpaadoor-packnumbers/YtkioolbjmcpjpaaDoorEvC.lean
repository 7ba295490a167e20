/- What event.Check and event.Same answer, of any event. -/
import Derived.Test.YtkioolbjmcpjpaaDoorEvB
import Derived.Test.YtkioolbjmcpjpaaDoorWTop
namespace Go.Proofs.YtkioolbjmcpjpaaDoor.Ev
open Go.RowKit
set_option linter.unusedVariables false

/-- What event.Check answers. -/
def chkE (e : Ev) : Int := if formE e = true then (if e.k = 2 then wErrC e.t else 0) else 1

set_option maxHeartbeats 2000000 in
set_option maxRecDepth 100000 in
theorem check_any (e : Ev) (hok : e.Ok) (w : World) (htab : TabW w) : Calls Tryd.prog 11 #[e.val] w fun r w' => r = .returned (.int .i64 (chkE e)) ∧ Below w.heap.size w w' := by
  have HF := hidIn (fun w => formed_any e hok w)
  have HC := hidIn (fun w ht => writeC_any e.t hok.t hok.w w ht)
  have HT := hidIn htab
  have HR : Hid (chkE e = if formE e = true then (if e.k = 2 then wErrC e.t else 0) else 1) := rfl
  have one := e.t.one' hok.t
  clear hok htab
  generalize chkE e = res at *
  generalize formE e = fe at *
  obtain ⟨k, i, n, l, u, d, v, t⟩ := e
  unfold Ev.val Ev.cs at *
  simp only at *
  generalize t.val = tv at *
  go_enter Tryd.func11, Tryd.ntmps11
  go_wp2_with fail
  have HBV : Hid (Below w.heap.size w (w.alloc (.cells #[.int .i64 k, .string i, .string n, .string l, .string u, .int .i64 d, .int .i64 v, tv] 37))) := below_alloc (Below.refl _ _) _
  have HX := hidIn (heap_alloc_new w (.cells #[.int .i64 k, .string i, .string n, .string l, .string u, .int .i64 d, .int .i64 v, tv] 37))
  generalize w.alloc (.cells #[.int .i64 k, .string i, .string n, .string l, .string u, .int .i64 d, .int .i64 v, tv] 37) = V at *
  refine (HF.out V).mono ?_
  rintro e w1 ⟨rfl, hb⟩
  have HB1 := hidIn (HBV.out.trans (hb.mono HBV.out.size))
  have hx := (hb.block _ (Array.getElem?_eq_some_iff.1 HX.out).1).trans HX.out
  have c0 : w1.cell? ⟨w.heap.size, 0, none⟩ = some (.int .i64 k) := cell_of_row _ _ 0 _ _ _ hx
  have c7 : w1.cell? ⟨w.heap.size, 7, none⟩ = some tv := cell_of_row _ _ 7 _ _ _ hx
  clear hb hx
  cases fe
  · rw [if_neg (by simp)] at HR
    go_wp2_with fail
    go_ret
    exact ⟨by rw [HR.out]; rfl, HB1.out⟩
  · rw [if_pos rfl] at HR
    by_cases hk : k = 2
    · subst hk
      rw [if_pos rfl] at HR
      go_wp2_with fail
      refine (HC.out w1 (tabW_below HT.out HB1.out)).mono ?_
      rintro e w2 ⟨rfl, hb2⟩
      have HB2 := hidIn (HB1.out.trans (hb2.mono HB1.out.size))
      clear hb2
      generalize wErrC t = we at *
      generalize wTextC t = wt at *
      go_wp2_with fail
      go_ret
      exact ⟨by rw [HR.out]; rfl, HB2.out⟩
    · rw [if_neg hk] at HR
      have e2 : (k != 2) = true := by simpa using hk
      clear hk
      go_wp2_with fail
      go_ret
      exact ⟨by rw [HR.out]; rfl, HB1.out⟩

end Go.Proofs.YtkioolbjmcpjpaaDoor.Ev
