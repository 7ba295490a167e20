/- The walk of ValueTells. -/
import Derived.Test.YtdlflpnjmldakaaV6
import Derived.Test.YtdlflpnjmldakaaVKnown
import Derived.Test.YtdlflpnjmldakaaSome4
namespace Go.Proofs.Ytdlflpnjmldakaa.Vl
open Go.RowKit Wd Cn
set_option linter.unusedVariables false

theorem ints_below {w w' : World} {a : Option Addr} {len : Nat} {f : Nat → Int} (h : HasInts w a len f) (hb : Below w.heap.size w w') : HasInts w' a len f := by
  intro i hi
  obtain ⟨b, o, e, hl, hc, h1⟩ := h i hi
  exact ⟨b, o, e, Nat.lt_of_lt_of_le hl hb.size, (hb.cell (p := ⟨b, o + i, none⟩) hl).trans hc, h1⟩
/-- The document's world, just made. -/
theorem bo_new {w0 W : World} {p f c : Nat} {K : KW} (h : In w0 W p f c K) : Bo w0 (W.alloc (.cells #[.slice none 0 0, .slice none 0 0] 59)) p f c W.heap.size W.heap.size K ⟨[], []⟩ := by
  refine ⟨h.step (below_alloc (Below.refl _ _) _), ⟨.slice none 0 0, .slice none 0 0, heap_alloc_new _ _, World.ownsRow_nil _ _ _ _, World.ownsRow_nil _ _ _ _, Nat.le_refl _⟩, h.below.size, by simp⟩

set_option maxHeartbeats 8000000 in
set_option maxRecDepth 100000 in
theorem tells_walk (pl : Pl) (at' what v0 : Int) (s : ByteArray) (odd : Int) (la : Option Addr) (ll lc : Nat) (lf : Nat → Int) (day : Int) (w : World) (hp : PlanIn w pl) (ha1 : -9223372036854775808 ≤ at') (ha2 : at' ≤ 9223372036854775807) (hw1 : -9223372036854775808 ≤ what) (hw2 : what ≤ 9223372036854775807)
    (hv1 : -9223372036854775808 ≤ v0) (hv2 : v0 ≤ 9223372036854775807) (hs : s.size ≤ 140737488351232) (ho1 : -9223372036854775808 ≤ odd) (ho2 : odd ≤ 9223372036854775807) (hl : HasInts w la ll lf) (hll : ll ≤ 9223372036854775807) (hd1 : -9223372036854775808 ≤ day) (hd2 : day ≤ 9223372036854775807) :
    Calls Try.prog 5 #[planV pl, .int .i64 at', .int .i64 what, .int .i64 v0, .string s, .int .i64 odd, .slice la ll lc, .int .i64 day] w fun e w' => e = .returned (.bool true) ∧ Below w.heap.size w w' := by
  obtain ⟨d, hd⟩ : ∃ d : Nat, day % 9 = d := ⟨(day % 9).toNat, by omega⟩
  have hd9 : d < 9 := by omega
  have HWD := hidV (fun w : World => within_any day 9 w (by omega) (by omega) hd1 hd2)
  rw [hd] at HWD
  have HDO : Hid (dayOk d) := ⟨by omega, by omega⟩
  have HP := hidV hp
  have HL := hidV hl
  have HC1 : Hid (∀ W, PlanIn W pl → Calls Try.prog 14 #[.agg #[.slice pl.na pl.nl pl.nc, .slice pl.wa pl.wl pl.wc], .int .i64 at', .int .i64 what, .int .i64 v0, .string s, .int .i64 odd] W (SomePost W)) := fun W hW => some4_any pl at' what v0 s odd W hW ha1 ha2 hw1 hw2 hv1 hv2 (by unfold maxLen; omega) ho1 ho2
  clear hp hl hd hd1 hd2 ha1 ha2 hw1 hw2 hv1 hv2 hs ho1 ho2
  unfold planV
  go_enter Try.func5, Try.ntmps5
  go_wp2_with fail
  have hb0 : Below w.heap.size w (w.alloc (.cells #[.slice pl.na pl.nl pl.nc, .slice pl.wa pl.wl pl.wc] 49)) := below_alloc (Below.refl _ _) _
  have HB0 := hidV hb0
  refine (HC1.out _ (HP.out.below HB0.out)).mono ?_
  rintro e w1 ⟨o, ka, kc, rfl, hok, hn, ht, hb1⟩
  have HOK := hidV hok
  have HNB : Hid (o.nodes ≤ 1000000) := by show _ ≤ _; omega
  have HCN : Hid ((plain o).cnt ≤ 999990) := by have h1 := plain_cnt o; show _ ≤ _; omega
  have HB1 := hidV (HB0.out.trans (hb1.mono HB0.out.size))
  obtain ⟨W2, hW2⟩ : ∃ W2, W2 = w1.alloc (.cells #[.int .i64 (plain o).kind, .string (plain o).s, .int .i64 (plain o).n, .slice ka (plain o).k.length kc] 52) := ⟨_, rfl⟩
  have HB2 : Hid (Below w.heap.size w W2) := by rw [hW2]; exact below_alloc HB1.out _
  have HT2 : Hid (TIn W2 0 (plain o) (.agg (four (plain o) ka kc))) := by rw [hW2]; exact (ht.below (below_alloc (Below.refl _ _) _)).low (Nat.zero_le _)
  have HBK : Hid (W2.heap[w1.heap.size]? = some (.cells #[.int .i64 (plain o).kind, .string (plain o).s, .int .i64 (plain o).n, .slice ka (plain o).k.length kc] 52)) := by rw [hW2]; exact heap_alloc_new _ _
  have HD : Hid (∀ w', Below W2.heap.size W2 w' → TIn w' 0 (plain o) (.agg (four (plain o) ka kc)) ∧ w'.cell? ⟨w1.heap.size, 0, none⟩ = some (.int .i64 (plain o).kind) ∧ w'.cell? ⟨w1.heap.size, 1, none⟩ = some (.string (plain o).s) ∧ w'.cell? ⟨w1.heap.size, 2, none⟩ = some (.int .i64 (plain o).n) ∧ w'.cell? ⟨w1.heap.size, 3, none⟩ = some (.slice ka (plain o).k.length kc)) := fun w' hw' => by
    have hh := (hw'.block _ (Array.getElem?_eq_some_iff.1 HBK.out).1).trans HBK.out
    exact ⟨HT2.out.below hw', cell_of_row _ _ _ _ _ _ hh, cell_of_row _ _ _ _ _ _ hh, cell_of_row _ _ _ _ _ _ hh, cell_of_row _ _ _ _ _ _ hh⟩
  have HLI := hidV (ints_below HL.out HB2.out)
  clear hok hn ht hb1 hb0 HP HC1 HL
  go_wp2_with fail
  rw [← hW2]
  refine (new_in' W2).mono ?_
  rintro e w3 ⟨p, f, c, rfl, hi⟩
  have HBO := hidV (bo_new hi)
  clear hi hW2
  go_wp2_with fail
  refine (known_any W2 _ p f c _ _ la ll lc lf HBO.out HLI.out hll).mono ?_
  rintro e w4 ⟨rfl, K, hb4, hvals, hlen⟩
  have HB4 := hidV hb4
  have HVL := hidV hvals
  have HLN := hidV hlen
  clear hb4 hvals hlen HBO HLI
  go_wp2_with fail
  refine calls_same (HWD.out _) ?_
  go_wp2_with fail
  obtain ⟨x, hx⟩ : ∃ x, ofR K d o = x := ⟨_, rfl⟩
  have HX := hidV hx
  refine (of_any o HOK.out HNB.out w4 p f c K d HB4.out.i.kin HDO.out).mono ?_
  rintro e w5 ⟨rfl, hb5⟩
  have HB5 := hidV (HB4.out.step hb5)
  rw [hx]
  clear hb5 hx
  obtain ⟨xn, xk, xe⟩ := x
  unfold ofE
  go_wp2_with fail
  obtain ⟨nd, hnd⟩ : ∃ l, needR K d o = l := ⟨_, rfl⟩
  have HND := hidV hnd
  refine (needs_any o HOK.out HNB.out w5 p f c K d HB5.out.i.kin HDO.out).mono ?_
  rintro e w6 ⟨v6, rfl, ho6, hb6⟩
  rw [hnd] at ho6
  obtain ⟨ao, cap, rfl, hx1, hx2⟩ := own_str ho6
  have HO6 := hidV ho6
  have HB6 := hidV (HB5.out.step hb6)
  obtain ⟨g0, g1, g2, g3, g4⟩ := HD.out w6 HB6.out.i.below
  have HG0 := hidV g0
  clear hb6 hnd ho6 hx1 hx2 g0
  go_wp2_with fail
  have hchk := refCheck_any (plain o) (plain_sized o HOK.out) HCN.out (by rw [plain_nodes]; exact HNB.out) true w6 _ HG0.out
  rw [plain_chk] at hchk
  unfold four at hchk
  refine hchk.mono ?_
  clear hchk g1 g2 g3 g4
  rintro e w7 ⟨rfl, hb7⟩
  have HB7 := hidV (HB6.out.step hb7)
  have HO7 := hidV (ownsRow_below HO6.out hb7)
  clear hb7
  by_cases hc : chk o = 0
  rotate_left
  · have hc1 : (chk o != 0) = true := by simpa using hc
    have h1 := HX.out
    have h2 := HND.out
    unfold ofR at h1
    unfold needR at h2
    rw [if_neg hc] at h1 h2
    injection h1 with e1 e2 e3
    subst e1 e2 e3 h2
    clear hc
    generalize chk o = ck at *
    rw [List.length_nil]
    go_wp2_with fail
    refine (wakes9_any _).mono ?_
    rintro e w8 ⟨rfl, hb8⟩
    have HB8 := hidV (HB7.out.step hb8)
    clear hb8
    go_wp2_with fail
    go_ret
    exact ⟨rfl, HB2.out.trans (HB8.out.i.below.mono HB2.out.size)⟩
  · have HF := hidV (chk_form hc)
    have h1 := HX.out
    have h2 := HND.out
    unfold ofR at h1
    unfold needR at h2
    rw [if_pos hc] at h1 h2
    have HRK := hidV h1
    have HLK := hidV h2
    have HG := hidV (rk_good HVL.out d o HF.out)
    rw [h1] at HG
    rw [hc]
    obtain ⟨g0, g1, g2, g3, g4⟩ := HD.out w7 HB7.out.i.below
    obtain ⟨vF, vC, hrr⟩ := HB7.out.rr
    have hval := refValue_any o HF.out w7 _ _ _ K vF vC d g0 hrr (by have := HLN.out; omega) HVL.out HDO.out
    unfold four at hval
    have HVAL := hidV hval
    clear hval hrr g0 h1 h2 hc
    rw [HRK.out] at HVAL
    go_wp2_with fail
    refine HVAL.out.mono ?_
    rintro e w8 ⟨rfl, hb8⟩
    have HB8 := hidV (HB7.out.step hb8)
    have HO8 := hidV (ownsRow_below HO7.out hb8)
    obtain ⟨g0, g1, g2, g3, g4⟩ := HD.out w8 HB8.out.i.below
    obtain ⟨vF, vC, hrr⟩ := HB8.out.rr
    have hneed := refNeeds_any o HCN.out HNB.out w8 _ g0 _ _ K vF vC hrr (by have := HLN.out; omega) d
    unfold four at hneed
    rw [HLK.out] at hneed
    have HNEED := hidV hneed
    clear hb8 hneed hrr g0
    unfold ofE
    have HZ : Hid (xk = false → xn = 0) := HG.out.unk
    cases xk
    · obtain rfl := HZ.out rfl
      go_wp2_with fail
      refine HNEED.out.mono ?_
      rintro e w9 ⟨v9, rfl, ho9, hb9⟩
      have HB9 := hidV (HB8.out.step hb9)
      have hsame := sameStr_any nd _ _ _ _ w9 (ownsRow_below HO8.out hb9) ho9
      obtain ⟨a9, c9, rfl, hx1, hx2⟩ := own_str ho9
      have HSAME := hidV hsame
      clear hsame hb9 ho9 hx1 hx2 HNEED
      go_wp2_with fail
      refine HSAME.out.mono ?_
      rintro e w10 ⟨rfl, hb10⟩
      have HB10 := hidV (HB9.out.step hb10)
      clear hb10 HSAME
      go_wp2_with fail
      refine (wakes9_any _).mono ?_
      rintro e w11 ⟨rfl, hb11⟩
      have HB11 := hidV (HB10.out.step hb11)
      clear hb11
      go_wp2_with fail
      go_ret
      exact ⟨rfl, HB2.out.trans (HB11.out.i.below.mono HB2.out.size)⟩
    · go_wp2_with fail
      refine HNEED.out.mono ?_
      rintro e w9 ⟨v9, rfl, ho9, hb9⟩
      have HB9 := hidV (HB8.out.step hb9)
      have hsame := sameStr_any nd _ _ _ _ w9 (ownsRow_below HO8.out hb9) ho9
      obtain ⟨a9, c9, rfl, hx1, hx2⟩ := own_str ho9
      have HSAME := hidV hsame
      clear hsame hb9 ho9 hx1 hx2 HNEED
      go_wp2_with fail
      refine HSAME.out.mono ?_
      rintro e w10 ⟨rfl, hb10⟩
      have HB10 := hidV (HB9.out.step hb10)
      clear hb10 HSAME
      go_wp2_with fail
      refine (wakes9_any _).mono ?_
      rintro e w11 ⟨rfl, hb11⟩
      have HB11 := hidV (HB10.out.step hb11)
      clear hb11
      go_wp2_with fail
      go_ret
      exact ⟨rfl, HB2.out.trans (HB11.out.i.below.mono HB2.out.size)⟩

end Go.Proofs.Ytdlflpnjmldakaa.Vl
