/- The walk of ValueLaws. -/
import Derived.Test.YtdlflpnjmldakaaVv1
import Derived.Test.YtdlflpnjmldakaaMix
namespace Go.Proofs.Ytdlflpnjmldakaa.Vl
open Go.RowKit Wd Cn
set_option linter.unusedVariables false

theorem of_in3 {w0 W : World} {p f c : Nat} {K : KW} (h : In w0 W p f c K) (o : O) (hok : o.Ok) (hsz : o.nodes ≤ 1000000) (d : Int) (hd : dayOk d) (r : Rk) (hr : ofR K d o = r) (v : Value) (hv : o.val = v) :
    Calls Try.prog 11 #[v, .int .i64 d, .pointer (some ⟨p, 0, none⟩)] W fun e w' => e = ofE r ∧ In w0 w' p f c K ∧ Below W.heap.size W w' := by
  subst hv
  refine (of_any o hok hsz W p f c K d h.kin hd).mono ?_
  rintro e w' ⟨rfl, hB⟩
  exact ⟨by rw [hr], h.step hB, hB⟩
theorem needs_in {w0 W : World} {p f c : Nat} {K : KW} (h : In w0 W p f c K) (o : O) (hok : o.Ok) (hsz : o.nodes ≤ 1000000) (d : Int) (hd : dayOk d) (l : List ByteArray) (hl : needR K d o = l) :
    Calls Try.prog 12 #[o.val, .int .i64 d, .pointer (some ⟨p, 0, none⟩)] W fun e w' => ∃ v, e = .returned v ∧ w'.ownsRow W.heap.size 9 1 v l.length (strCells l) ∧ In w0 w' p f c K ∧ Below W.heap.size W w' := by
  refine (needs_any o hok hsz W p f c K d h.kin hd).mono ?_
  rintro e w' ⟨v, rfl, ho, hB⟩
  exact ⟨v, rfl, by rw [← hl]; exact ho, h.step hB, hB⟩
theorem clone_in {w0 W : World} {p f c : Nat} {K : KW} (h : In w0 W p f c K) :
    Calls Try.prog 22 #[.pointer (some ⟨p, 0, none⟩)] W fun e w' => ∃ b f2 c2, e = .returned (.pointer (some ⟨b, 0, none⟩)) ∧ In w0 w' p f c K ∧ In w0 w' b f2 c2 K ∧ f ≠ f2 ∧ c ≠ f2 := by
  refine (clone_any W p f c K h.kin).mono ?_
  rintro e w' ⟨b, rfl, f2, c2, hk, h1, h2, h3, hb⟩
  have hlt := h.kin.lt
  have hs := h.below.size
  exact ⟨b, f2, c2, rfl, h.step hb, ⟨hk, h.below.trans (hb.mono hs), by omega, by omega, by omega⟩, by omega, by omega⟩
/-- A fixing in a clone leaves the world that it was cloned of. -/
theorem fix_beside {w0 W : World} {p f c b f2 c2 : Nat} {K K2 : KW} (h : In w0 W p f c K) (h2 : In w0 W b f2 c2 K2) (hf : f ≠ f2) (hc : c ≠ f2) (s : ByteArray) (d v : Int) (hk : fixOk (s, d)) :
    Calls Try.prog 10 #[.pointer (some ⟨b, 0, none⟩), .string s, .int .i64 d, .int .i64 v] W fun e w' => e = .returned (.int .i64 (fixE K2 s d v)) ∧ In w0 w' p f c K ∧ In w0 w' b f2 c2 (fixN K2 s d v) := by
  refine (fix_any W b f2 c2 K2 h2.kin s d v hk).mono ?_
  rintro e w' ⟨rfl, h3, h4⟩
  have hp : p ≠ f2 := by
    rintro rfl
    obtain ⟨es, cl, hm, _⟩ := h2.kin.fix
    have := h.kin.blk
    rw [hm] at this
    cases this
  exact ⟨rfl, h.gr (h.kin.gr h4 hp hf hc) h4 h2.hf, h2.gr h3 h4 h2.hf⟩

set_option maxHeartbeats 16000000 in
set_option maxRecDepth 100000 in
theorem laws_walk (pa pb : Pl) (la : Option Addr) (ll lc : Nat) (lf : Nat → Int) (day : Int) (w : World) (hp : PlanIn w pa) (hq : PlanIn w pb) (hl : HasInts w la ll lf) (hll : ll ≤ 9223372036854775807) (hd1 : -9223372036854775808 ≤ day) (hd2 : day ≤ 9223372036854775807) :
    Calls Try.prog 6 #[planV pa, planV pb, .slice la ll lc, .int .i64 day] w fun e w' => e = .returned (.bool true) ∧ Below w.heap.size w w' := by
  obtain ⟨d, hd⟩ : ∃ d : Nat, day % 9 = d := ⟨(day % 9).toNat, by omega⟩
  have hd9 : d < 9 := by omega
  have HWD := hidV (fun w : World => within_any day 9 w (by omega) (by omega) hd1 hd2)
  rw [hd] at HWD
  have HDO : Hid (dayOk d) := ⟨by omega, by omega⟩
  have HPA0 := hidV hp
  have HPB0 := hidV hq
  have HL := hidV hl
  have HNpa := hidV (number_any pa)
  have HNpb := hidV (number_any pb)
  have HOpa := hidV (fun (w : World) (v : Value) (ht : TIn w 0 (plain (numP pa)) v) => obsP_any (numP pa) (numP_whole pa) w v 0 ht)
  have HOpb := hidV (fun (w : World) (v : Value) (ht : TIn w 0 (plain (numP pb)) v) => obsP_any (numP pb) (numP_whole pb) w v 0 ht)
  have HOKA := hidV (whole_ok _ (numP_whole pa))
  have HOKB := hidV (whole_ok _ (numP_whole pb))
  have HNA := hidV (numP_nodes pa)
  have HNB := hidV (numP_nodes pb)
  have HSA := hidV (whole_solid _ (numP_whole pa))
  have HSB := hidV (whole_solid _ (numP_whole pb))
  clear hp hq hl hd hd1 hd2
  unfold planV
  go_enter Try.func6, Try.ntmps6
  go_upto_region 1 with fail
  obtain ⟨W, hW⟩ : ∃ W, W = (w.alloc (.cells #[.slice pa.na pa.nl pa.nc, .slice pa.wa pa.wl pa.wc] 49)).alloc (.cells #[.slice pb.na pb.nl pb.nc, .slice pb.wa pb.wl pb.wc] 49) := ⟨_, rfl⟩
  have HB : Hid (Below w.heap.size w W) := by rw [hW]; exact below_alloc (below_alloc (Below.refl _ _) _) _
  have HX0 : Hid (W.heap[w.heap.size]? = some (.cells #[.slice pa.na pa.nl pa.nc, .slice pa.wa pa.wl pa.wc] 49)) := by rw [hW]; exact alloc_0 _ _ _
  have HX1 : Hid (W.heap[w.heap.size + 1]? = some (.cells #[.slice pb.na pb.nl pb.nc, .slice pb.wa pb.wl pb.wc] 49)) := by rw [hW]; exact alloc_1 _ _ _
  have HF : Hid (∀ w', Below W.heap.size W w' → w'.cell? ⟨w.heap.size, 0, none⟩ = some (.slice pa.na pa.nl pa.nc) ∧ w'.cell? ⟨w.heap.size, 1, none⟩ = some (.slice pa.wa pa.wl pa.wc) ∧ w'.cell? ⟨w.heap.size + 1, 0, none⟩ = some (.slice pb.na pb.nl pb.nc) ∧ w'.cell? ⟨w.heap.size + 1, 1, none⟩ = some (.slice pb.wa pb.wl pb.wc)) := fun w' hw' => by
    have h0 := (hw'.block _ (Array.getElem?_eq_some_iff.1 HX0.out).1).trans HX0.out
    have h1 := (hw'.block _ (Array.getElem?_eq_some_iff.1 HX1.out).1).trans HX1.out
    exact ⟨cell_of_row _ _ _ _ _ _ h0, cell_of_row _ _ _ _ _ _ h0, cell_of_row _ _ _ _ _ _ h1, cell_of_row _ _ _ _ _ _ h1⟩
  have HPpa : Hid (∀ w', Below W.heap.size W w' → PlanIn w' pa) := fun w' hw' => (HPA0.out.below HB.out).below hw'
  have HPpb : Hid (∀ w', Below W.heap.size W w' → PlanIn w' pb) := fun w' hw' => (HPB0.out.below HB.out).below hw'
  have HC0 : Hid (Below W.heap.size W W.drew) := below_drew (Below.refl _ _)
  rw [← hW]
  clear hW
  refine Mx.wp_region_mix (fun w' => Below W.heap.size W w') [(0, false), (3, false), (1, true), (2, true), (4, true), (5, true), (6, false), (7, false)] (by kernel_rfl) (by kernel_rfl) HC0.out ?_ (by kernel_rfl)
  simp only [List.map_cons, List.map_nil, List.getD_cons_zero, List.getD_cons_succ]
  generalize hops : (#[_, _, _, _, _, _, _, _] : Array Oper) = ops
  clear hops
  refine Mx.m_pure (.agg #[.slice pa.na pa.nl pa.nc, .slice pa.wa pa.wl pa.wc]) (Mx.wanted_none rfl) (fun w' hw' => ?_) ?_
  · obtain ⟨q0, q1, q2, q3⟩ := HF.out w' hw'
    go_simp
  simp only [Act.put, List.setIfInBounds_toArray, List.set_cons_zero, List.set_cons_succ]
  refine Mx.m_pure (.agg #[.slice pb.na pb.nl pb.nc, .slice pb.wa pb.wl pb.wc]) (Mx.wanted_none rfl) (fun w' hw' => ?_) ?_
  · obtain ⟨q0, q1, q2, q3⟩ := HF.out w' hw'
    go_simp
  simp only [Act.put, List.setIfInBounds_toArray, List.set_cons_zero, List.set_cons_succ]
  refine Mx.m_call 21 #[.agg #[.slice pa.na pa.nl pa.nc, .slice pa.wa pa.wl pa.wc]] (Mx.wanted_none rfl) ?_ ?_
  · go_simp
  refine (HNpa.out _ (HPpa.out _ HC0.out)).mono ?_
  rintro e w1 ⟨v1, rfl, ht1, hb⟩
  have HT1 := hidV (ht1.low (Nat.zero_le _))
  have HC1 : Hid (Below W.heap.size W w1) := HC0.out.trans (hb.mono (HC0.out).size)
  refine ⟨_, rfl, HC1.out, ?_⟩
  clear hb ht1
  simp only [Act.put, List.setIfInBounds_toArray, List.set_cons_zero, List.set_cons_succ]
  refine Mx.m_call 20 #[v1] (Mx.wanted_none rfl) ?_ ?_
  · go_simp
  refine (HOpa.out _ _ HT1.out).mono ?_
  rintro e w2 ⟨rfl, hb⟩
  have HC2 : Hid (Below W.heap.size W w2) := HC1.out.trans (hb.mono (HC1.out).size)
  refine ⟨_, rfl, HC2.out, ?_⟩
  clear hb
  simp only [Act.put, List.setIfInBounds_toArray, List.set_cons_zero, List.set_cons_succ]
  refine Mx.m_call 21 #[.agg #[.slice pb.na pb.nl pb.nc, .slice pb.wa pb.wl pb.wc]] (Mx.wanted_none rfl) ?_ ?_
  · go_simp
  refine (HNpb.out _ (HPpb.out _ HC2.out)).mono ?_
  rintro e w3 ⟨v3, rfl, ht3, hb⟩
  have HT3 := hidV (ht3.low (Nat.zero_le _))
  have HC3 : Hid (Below W.heap.size W w3) := HC2.out.trans (hb.mono (HC2.out).size)
  refine ⟨_, rfl, HC3.out, ?_⟩
  clear hb ht3
  simp only [Act.put, List.setIfInBounds_toArray, List.set_cons_zero, List.set_cons_succ]
  refine Mx.m_call 20 #[v3] (Mx.wanted_none rfl) ?_ ?_
  · go_simp
  refine (HOpb.out _ _ HT3.out).mono ?_
  rintro e w4 ⟨rfl, hb⟩
  have HC4 : Hid (Below W.heap.size W w4) := HC3.out.trans (hb.mono (HC3.out).size)
  refine ⟨_, rfl, HC4.out, ?_⟩
  clear hb
  simp only [Act.put, List.setIfInBounds_toArray, List.set_cons_zero, List.set_cons_succ]
  refine Mx.m_pure ((numP pa).val) (Mx.wanted_none rfl) (fun w' hw' => ?_) ?_
  · go_simp
  simp only [Act.put, List.setIfInBounds_toArray, List.set_cons_zero, List.set_cons_succ]
  refine Mx.m_pure ((numP pb).val) (Mx.wanted_none rfl) (fun w' hw' => ?_) ?_
  · go_simp
  simp only [Act.put, List.setIfInBounds_toArray, List.set_cons_zero, List.set_cons_succ]
  refine Mx.m_nil ?_
  intro _
  have HB4 := hidV (HB.out.trans (HC4.out.mono HB.out.size))
  have HLI := hidV (ints_below HL.out HB4.out)
  clear HC1 HC2 HC3 HC4 HC0 HF HPpa HPpb HT1 HT3 HX0 HX1 HB HPA0 HPB0 HNpa HNpb HOpa HOpb HL
  generalize numP pa = a at *
  generalize numP pb = b at *
  obtain ⟨ta, xa, hva⟩ := HSA.out
  obtain ⟨tb, xb, hvb⟩ := HSB.out
  have HVA := hidV hva
  have HVB := hidV hvb
  rw [hva, hvb]
  clear hva hvb HSA HSB
  go_wp2_with fail
  refine (new_in' w4).mono ?_
  rintro e w5 ⟨p, f, c, rfl, hi⟩
  have HBO := hidV (bo_new hi)
  clear hi
  go_wp2_with fail
  refine (known_any w4 _ p f c _ _ la ll lc lf HBO.out HLI.out hll).mono ?_
  rintro e w6 ⟨rfl, K, hb6, hvals, hlen⟩
  have HI6 := hidV hb6.i
  have HVL := hidV hvals
  clear hb6 hvals hlen HBO HLI
  go_wp2_with fail
  refine calls_same (HWD.out _) ?_
  go_wp2_with fail
  have HMA : Hid (a.nodes ≤ 1000000) := by have := HNA.out; show _ ≤ _; omega
  have HMB : Hid (b.nodes ≤ 1000000) := by have := HNB.out; show _ ≤ _; omega
  obtain ⟨x, hx⟩ : ∃ x, ofR K d a = x := ⟨_, rfl⟩
  have HX := hidV hx
  refine (of_in3 HI6.out a HOKA.out HMA.out d HDO.out x hx _ HVA.out).mono ?_
  clear hx
  rintro e w7 ⟨rfl, hi7, hb7⟩
  have HI7 := hidV hi7
  clear hi7 hb7
  obtain ⟨y, hy⟩ : ∃ y, ofR K d b = y := ⟨_, rfl⟩
  have HY := hidV hy
  obtain ⟨xn, xk, xe⟩ := x
  unfold ofE
  go_wp2_with fail
  refine (of_in3 HI7.out b HOKB.out HMB.out d HDO.out y hy _ HVB.out).mono ?_
  clear hy
  rintro e w8 ⟨rfl, hi8, hb8⟩
  have HI8 := hidV hi8
  clear hi8 hb8
  obtain ⟨yn, yk, ye⟩ := y
  unfold ofE
  by_cases hca : chk a = 0
  rotate_left
  · have h1 := HX.out
    rw [ofR_no hca] at h1
    injection h1 with e1 e2 e3
    subst e1 e2 e3
    clear hca
    go_wp2_with fail
    refine (wakes9_in HI8.out).mono ?_
    rintro e w9 ⟨rfl, hi9⟩
    have HI9 := hidV hi9
    clear hi9
    go_wp2_with fail
    go_ret
    exact ⟨rfl, HB4.out.trans (HI9.out.below.mono HB4.out.size)⟩
  have HCA := hidV hca
  have HGA := hidV (rk_good HVL.out d a (chk_form hca))
  have HRA := HX
  rw [ofR_ok hca] at HRA
  rw [HRA.out] at HGA
  clear hca
  have HXE : Hid (xe = 0 ∨ xe = 6) := HGA.out.errs
  by_cases hcb : chk b = 0
  rotate_left
  · have h1 := HY.out
    rw [ofR_no hcb] at h1
    injection h1 with e1 e2 e3
    subst e1 e2 e3
    clear hcb
    rcases HXE.out with rfl | rfl
    all_goals
      go_wp2_with fail
      refine (wakes9_in HI8.out).mono ?_
      rintro e w9 ⟨rfl, hi9⟩
      have HI9 := hidV hi9
      clear hi9
      go_wp2_with fail
      go_ret
      exact ⟨rfl, HB4.out.trans (HI9.out.below.mono HB4.out.size)⟩
  have HCB := hidV hcb
  have HGB := hidV (rk_good HVL.out d b (chk_form hcb))
  have HRB := HY
  rw [ofR_ok hcb] at HRB
  rw [HRB.out] at HGB
  clear hcb
  have HYE : Hid (ye = 0 ∨ ye = 6) := HGB.out.errs
  have HST : Hid (xe ≠ 2 ∧ ye ≠ 2) := by
    have h1 := HXE.out
    have h2 := HYE.out
    exact ⟨by omega, by omega⟩
  have hst1 : (xe == 2) = false := by simpa using HST.out.1
  have hst2 : (ye == 2) = false := by simpa using HST.out.2
  have HUA : Hid (xk = false → xn = 0) := HGA.out.unk
  have HUB : Hid (yk = false → yn = 0) := HGB.out.unk
  have HKA : Hid (xe ≠ 0 → xk = false) := fun h => (HGA.out.err h).2
  have HKB : Hid (ye ≠ 0 → yk = false) := fun h => (HGB.out.err h).2
  have HBA : Hid (xk = true → -1000000000000 ≤ xn ∧ xn ≤ 1000000000000) := fun h => (vB_iff _).1 (HGA.out.val h)
  have HADD := hidV (fun w : World => add_any xn yn w)
  clear HST HXE HYE
  have HVADD : Hid ((O.add a b).val = .iface 34 (.agg #[.iface ta xa, .iface tb xb])) := by unfold Hid; simp only [O.val]; rw [HVA.out, HVB.out]
  have HVMAX : Hid ((O.max a b).val = .iface 38 (.agg #[.iface ta xa, .iface tb xb])) := by unfold Hid; simp only [O.val]; rw [HVA.out, HVB.out]
  have HVNEG : Hid ((O.neg a).val = .iface 37 (.agg #[.iface ta xa])) := by unfold Hid; simp only [O.val]; rw [HVA.out]
  have HOAB : Hid ((O.add a b).Ok) := ⟨HOKA.out, HOKB.out⟩
  have HOMB : Hid ((O.max a b).Ok) := ⟨HOKA.out, HOKB.out⟩
  have HONA : Hid ((O.neg a).Ok) := HOKA.out
  have HN3 : Hid ((O.add a b).nodes ≤ 1000000 ∧ (O.max a b).nodes ≤ 1000000 ∧ (O.neg a).nodes ≤ 1000000) := by
    have h1 := HNA.out
    have h2 := HNB.out
    simp only [Hid, O.nodes]
    omega
  obtain ⟨z, hz⟩ : ∃ z, ofR K d (.add a b) = z := ⟨_, rfl⟩
  have HZ := hidV hz
  clear hz
  obtain ⟨zn, zk, ze⟩ := z
  have HZ2 : Hid ((zn = 0 ∧ zk = false ∧ ze = 2) ∨ bothR ⟨xn, xk, xe⟩ ⟨yn, yk, ye⟩ addR = ⟨zn, zk, ze⟩) := by
    by_cases hcz : chk (.add a b) = 0
    · right
      have h1 := HZ.out
      rw [ofR_ok hcz] at h1
      rw [← h1, rk, HRA.out, HRB.out]
    · left
      have h1 := HZ.out
      rw [ofR_no hcz] at h1
      injection h1 with e1 e2 e3
      exact ⟨e1.symm, e2.symm, e3.symm⟩
  rcases Decidable.em (xe = 0) with rfl | hxe
  rotate_left
  · obtain rfl := HKA.out hxe
    obtain rfl := HUA.out rfl
    have hxe6 : xe = 6 := by rcases HGA.out.errs with h | h; exact absurd h hxe; exact h
    subst hxe6
    go_wp2_with fail
    refine (of_in3 HI8.out (.add a b) HOAB.out HN3.out.1 d HDO.out _ HZ.out _ HVADD.out).mono ?_
    rintro e w20 ⟨rfl, hi20, hb20⟩
    have HI20 := hidV hi20
    clear hi20 hb20
    unfold ofE
    rcases HZ2.out with ⟨rfl, rfl, rfl⟩ | hz2
    · go_wp2_with fail
      refine (wakes9_in HI20.out).mono ?_
      rintro e w30 ⟨rfl, hi30⟩
      have HI30 := hidV hi30
      clear hi30
      go_wp2_with fail
      go_ret
      exact ⟨rfl, HB4.out.trans (HI30.out.below.mono HB4.out.size)⟩
    have HZ3 := hidV hz2
    clear hz2 HZ2
    obtain ⟨rfl, rfl, rfl⟩ : 0 = zn ∧ zk = false ∧ 6 = ze := by
      have h := HZ3.out
      simp [bothR] at h
      exact h
    go_wp2_with fail
    refine calls_same (HADD.out _) ?_
    go_wp2_with fail
    refine (wakes9_in HI20.out).mono ?_
    rintro e w30 ⟨rfl, hi30⟩
    have HI30 := hidV hi30
    clear hi30
    go_wp2_with fail
    go_ret
    exact ⟨rfl, HB4.out.trans (HI30.out.below.mono HB4.out.size)⟩
  have HNEED := hidV (of_needs K d a (by rw [HX.out]))
  rw [HX.out] at HNEED
  obtain ⟨nd, hnd⟩ : ∃ l, needR K d a = l := ⟨_, rfl⟩
  have HND := hidV hnd
  rw [hnd] at HNEED
  clear hnd
  cases xk
  · obtain rfl := HUA.out rfl
    have hnz : ((nd.length : Int) == 0) = false := by
      have h : nd.length ≠ 0 := by have := HNEED.out; simpa using this
      simpa using h
    go_wp2_with fail
    have hn := needs_in HI8.out a HOKA.out HMA.out d HDO.out nd HND.out
    rw [HVA.out] at hn
    refine hn.mono ?_
    clear hn
    rintro e w9 ⟨v9, rfl, ho9, hi9, hb9⟩
    obtain ⟨an, cn, rfl, hx1, hx2⟩ := own_str ho9
    have HI9 := hidV hi9
    clear hi9 hb9 ho9 hx1 hx2
    go_wp2_with fail
    refine (of_in3 HI9.out (.add a b) HOAB.out HN3.out.1 d HDO.out _ HZ.out _ HVADD.out).mono ?_
    rintro e w20 ⟨rfl, hi20, hb20⟩
    have HI20 := hidV hi20
    clear hi20 hb20
    unfold ofE
    rcases HZ2.out with ⟨rfl, rfl, rfl⟩ | hz2
    · go_wp2_with fail
      refine (wakes9_in HI20.out).mono ?_
      rintro e w30 ⟨rfl, hi30⟩
      have HI30 := hidV hi30
      clear hi30
      go_wp2_with fail
      go_ret
      exact ⟨rfl, HB4.out.trans (HI30.out.below.mono HB4.out.size)⟩
    have HZ3 := hidV hz2
    clear hz2 HZ2
    rcases Decidable.em (ye = 0) with rfl | hye
    rotate_left
    · obtain rfl := HKB.out hye
      obtain rfl := HUB.out rfl
      have hye6 : ye = 6 := by rcases HGB.out.errs with h | h; exact absurd h hye; exact h
      subst hye6
      obtain ⟨rfl, rfl, rfl⟩ : 0 = zn ∧ zk = false ∧ 6 = ze := by
        have h := HZ3.out
        simp [bothR] at h
        exact h
      go_wp2_with fail
      refine calls_same (HADD.out _) ?_
      go_wp2_with fail
      refine (wakes9_in HI20.out).mono ?_
      rintro e w30 ⟨rfl, hi30⟩
      have HI30 := hidV hi30
      clear hi30
      go_wp2_with fail
      go_ret
      exact ⟨rfl, HB4.out.trans (HI30.out.below.mono HB4.out.size)⟩
    obtain ⟨rfl, rfl, rfl⟩ : 0 = zn ∧ zk = false ∧ 0 = ze := by
      have h := HZ3.out
      simp [bothR] at h
      exact h
    go_wp2_with fail
    refine calls_same (HADD.out _) ?_
    go_wp2_with fail
    refine (wakes9_in HI20.out).mono ?_
    rintro e w30 ⟨rfl, hi30⟩
    have HI30 := hidV hi30
    clear hi30
    go_wp2_with fail
    go_ret
    exact ⟨rfl, HB4.out.trans (HI30.out.below.mono HB4.out.size)⟩
  · have hnz : nd.length = 0 := by have := HNEED.out; simpa using this
    go_wp2_with fail
    have hn := needs_in HI8.out a HOKA.out HMA.out d HDO.out nd HND.out
    rw [HVA.out] at hn
    refine hn.mono ?_
    clear hn
    rintro e w9 ⟨v9, rfl, ho9, hi9, hb9⟩
    obtain ⟨an, cn, rfl, hx1, hx2⟩ := own_str ho9
    have HI9 := hidV hi9
    clear hi9 hb9 ho9 hx1 hx2
    rw [hnz]
    go_wp2_with fail
    refine (clone_in HI9.out).mono ?_
    rintro e w10 ⟨cb, cf, cc, rfl, hi10, hc10, hne1, hne2⟩
    have HI10 := hidV hi10
    have HCL10 := hidV hc10
    have HNE := hidV (And.intro hne1 hne2)
    clear hi10 hc10 hne1 hne2
    go_wp2_with fail
    refine (fix_beside HI10.out HCL10.out HNE.out.1 HNE.out.2 ⟨#[109, 111, 114, 101]⟩ d 3 ⟨show (ByteArray.mk #[109, 111, 114, 101]).size ≤ maxLen by decide, by omega, by omega⟩).mono ?_
    rintro e w11 ⟨rfl, hi11, hc11⟩
    have HI11 := hidV hi11
    have HCL11 := hidV hc11
    clear hi11 hc11
    go_wp2_with fail
    refine (fix_beside HI11.out HCL11.out HNE.out.1 HNE.out.2 ⟨#[108, 105, 98, 111, 114]⟩ d 3 ⟨show (ByteArray.mk #[108, 105, 98, 111, 114]).size ≤ maxLen by decide, by omega, by omega⟩).mono ?_
    rintro e w12 ⟨rfl, hi12, hc12⟩
    have HI12 := hidV hi12
    have HCL12 := hidV hc12
    have HEX := hidV (rk_ext HVL.out (Ext.trans (ext_fixN K ⟨#[109, 111, 114, 101]⟩ d 3) (ext_fixN _ ⟨#[108, 105, 98, 111, 114]⟩ d 3)) d a (chk_form HCA.out) (by rw [HRA.out]))
    rw [HRA.out] at HEX
    clear hi12 hc12
    go_wp2_with fail
    refine (of_in3 HCL12.out a HOKA.out HMA.out d HDO.out ⟨xn, true, 0⟩ (by rw [ofR_ok HCA.out]; exact HEX.out) _ HVA.out).mono ?_
    rintro e w13 ⟨rfl, hc13, hb13⟩
    have HI13 := hidV (HI12.out.step hb13)
    clear hc13 hb13
    unfold ofE
    go_wp2_with fail
    refine (of_in3 HI13.out (.add a b) HOAB.out HN3.out.1 d HDO.out _ HZ.out _ HVADD.out).mono ?_
    rintro e w20 ⟨rfl, hi20, hb20⟩
    have HI20 := hidV hi20
    clear hi20 hb20
    unfold ofE
    rcases HZ2.out with ⟨rfl, rfl, rfl⟩ | hz2
    · go_wp2_with fail
      refine (wakes9_in HI20.out).mono ?_
      rintro e w30 ⟨rfl, hi30⟩
      have HI30 := hidV hi30
      clear hi30
      go_wp2_with fail
      go_ret
      exact ⟨rfl, HB4.out.trans (HI30.out.below.mono HB4.out.size)⟩
    have HZ3 := hidV hz2
    clear hz2 HZ2
    rcases Decidable.em (ye = 0) with rfl | hye
    rotate_left
    · obtain rfl := HKB.out hye
      obtain rfl := HUB.out rfl
      have hye6 : ye = 6 := by rcases HGB.out.errs with h | h; exact absurd h hye; exact h
      subst hye6
      obtain ⟨rfl, rfl, rfl⟩ : 0 = zn ∧ zk = false ∧ 6 = ze := by
        have h := HZ3.out
        simp [bothR] at h
        exact h
      go_wp2_with fail
      refine calls_same (HADD.out _) ?_
      go_wp2_with fail
      refine (wakes9_in HI20.out).mono ?_
      rintro e w30 ⟨rfl, hi30⟩
      have HI30 := hidV hi30
      clear hi30
      go_wp2_with fail
      go_ret
      exact ⟨rfl, HB4.out.trans (HI30.out.below.mono HB4.out.size)⟩
    cases yk
    · obtain ⟨rfl, rfl, rfl⟩ : 0 = zn ∧ zk = false ∧ 0 = ze := by
        have h := HZ3.out
        simp [bothR] at h
        exact h
      go_wp2_with fail
      refine calls_same (HADD.out _) ?_
      go_wp2_with fail
      refine (wakes9_in HI20.out).mono ?_
      rintro e w30 ⟨rfl, hi30⟩
      have HI30 := hidV hi30
      clear hi30
      go_wp2_with fail
      go_ret
      exact ⟨rfl, HB4.out.trans (HI30.out.below.mono HB4.out.size)⟩
    obtain ⟨q, hq⟩ : ∃ q, addR xn yn = q := ⟨_, rfl⟩
    obtain ⟨sm, can⟩ := q
    have HSM := hidV hq
    rw [hq] at HADD
    clear hq
    cases can
    · obtain ⟨rfl, rfl, rfl⟩ : 0 = zn ∧ zk = false ∧ 6 = ze := by
        have h := HZ3.out
        simp [bothR, HSM.out, inR] at h
        exact h
      go_wp2_with fail
      refine calls_same (HADD.out _) ?_
      go_wp2_with fail
      refine (wakes9_in HI20.out).mono ?_
      rintro e w30 ⟨rfl, hi30⟩
      have HI30 := hidV hi30
      clear hi30
      go_wp2_with fail
      go_ret
      exact ⟨rfl, HB4.out.trans (HI30.out.below.mono HB4.out.size)⟩
    obtain ⟨rfl, rfl, rfl⟩ : sm = zn ∧ zk = true ∧ 0 = ze := by
      have h := HZ3.out
      simp [bothR, HSM.out, inR] at h
      exact h
    obtain ⟨ng, hng⟩ : ∃ z, ofR K d (.neg a) = z := ⟨_, rfl⟩
    have HNG := hidV hng
    have HNK : Hid (ng.known = true → ng.n = -xn) := fun h => by
      rw [← hng] at h ⊢
      rw [neg_ok HVL.out d a (chk_form HCA.out) h, HRA.out]
    clear hng
    obtain ⟨mx, hmx⟩ : ∃ z, ofR K d (.max a b) = z := ⟨_, rfl⟩
    have HMX := hidV hmx
    have HMK : Hid (mx.known = true → mx.n = Max.max xn yn) := fun h => by
      rw [← hmx] at h ⊢
      rw [max_ok HVL.out d a b (chk_form HCA.out) (chk_form HCB.out) h, HRA.out, HRB.out]
    clear hmx
    obtain ⟨nn, nk, ne⟩ := ng
    obtain ⟨mn, mk, me⟩ := mx
    obtain ⟨hx1, hx2⟩ : -1000000000000 ≤ xn ∧ xn ≤ 1000000000000 := by first | exact HBA.out rfl | exact HBA.out trivial
    go_wp2_with fail
    refine calls_same (HADD.out _) ?_
    go_wp2_with fail
    refine (of_in3 HI20.out (.neg a) HONA.out HN3.out.2.2 d HDO.out _ HNG.out _ HVNEG.out).mono ?_
    rintro e w21 ⟨rfl, hi21, hb21⟩
    have HI21 := hidV hi21
    clear hi21 hb21
    unfold ofE
    go_wp2_with fail
    refine (of_in3 HI21.out (.max a b) HOMB.out HN3.out.2.1 d HDO.out _ HMX.out _ HVMAX.out).mono ?_
    rintro e w22 ⟨rfl, hi22, hb22⟩
    have HI22 := hidV hi22
    clear hi22 hb22
    unfold ofE
    go_wp2_with fail
    refine (of_in3 HI22.out (.neg a) HONA.out HN3.out.2.2 d HDO.out _ HNG.out _ HVNEG.out).mono ?_
    rintro e w23 ⟨rfl, hi23, hb23⟩
    have HI23 := hidV hi23
    clear hi23 hb23
    unfold ofE
    go_wp2_with fail
    refine (of_in3 HI23.out (.max a b) HOMB.out HN3.out.2.1 d HDO.out _ HMX.out _ HVMAX.out).mono ?_
    rintro e w24 ⟨rfl, hi24, hb24⟩
    have HI24 := hidV hi24
    clear hi24 hb24
    unfold ofE
    rcases Int.lt_or_le xn yn with hxy | hxy
    all_goals
      cases nk
      all_goals
        cases mk
        all_goals
          try (have HN1 : nn = -xn := (by first | exact HNK.out rfl | exact HNK.out trivial); subst HN1)
          try (have HM1 : mn = Max.max xn yn := (by first | exact HMK.out rfl | exact HMK.out trivial); first | (rw [show Max.max xn yn = yn by omega] at HM1; subst HM1) | (rw [show Max.max xn yn = xn by omega] at HM1; subst HM1))
          clear HNK HMK HNG HMX
          go_wp2_with fail
          refine (wakes9_in HI24.out).mono ?_
          rintro e w30 ⟨rfl, hi30⟩
          have HI30 := hidV hi30
          clear hi30
          go_wp2_with fail
          go_ret
          exact ⟨rfl, HB4.out.trans (HI30.out.below.mono HB4.out.size)⟩

end Go.Proofs.Ytdlflpnjmldakaa.Vl
