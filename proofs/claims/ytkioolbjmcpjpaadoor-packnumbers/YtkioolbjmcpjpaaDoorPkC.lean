/- What pack.Event answers, of any event. -/
import Derived.Test.YtkioolbjmcpjpaaDoorPkB
import Derived.Laws.AppendOwnNone
namespace Go.Proofs.YtkioolbjmcpjpaaDoor.Ev
open Go.RowKit
set_option linter.unusedVariables false

theorem own_grown_refl (w : World) (r : Option Nat) : w.grownBy w r := grown_of_below (Below.refl _ _) r
theorem wpList_append_bytes {ops : Array Oper} {rest : List Oper} {o : Oper} {a : Act} {Q : Exit → Act → World → Prop} (w : World) (hgd : o.guard = none) (s x : Operand)
    (ho : o.op = .call { callee := .builtin .append, args := #[s, x], argTypes := #[22, 22] })
    (base : Nat) (v : Value) (l : List UInt8) (hs : a.eval s = v) (hown : OwnB w base v l)
    (B : Nat) (xv : Value) (m : List UInt8) (hx : a.eval x = xv) (hox : OwnB w B xv m) (hlen : l.length + m.length ≤ 140737488355328) (hbase : base ≤ w.heap.size)
    (h : ∀ v' w', OwnB w' base v' (l ++ m) → w.grownBy w' v.ownBlock → (v'.ownBlock = v.ownBlock ∨ v'.ownBlock = some w.heap.size) → wpList Tryd.prog ops Q rest (a.put o.dst v') w') : wpList Tryd.prog ops Q (o :: rest) a w := by
  obtain ⟨i0, gi, gz0, gz1, gz2⟩ := info_parts infoByte
  unfold OwnB at hown hox h
  have hox2 := hox
  rcases hox2.2 with ⟨rfl, h0⟩ | ⟨g, cap, cur, rfl, hb, hg, hnc, hcm, _⟩
  · have hm : m = [] := List.length_eq_zero_iff.1 h0
    subst hm
    refine wpList_append_own_none hgd s x 22 ho base 5 i0 1 Tryd.underlying22 gi v l.length (rowB l) hs hown hx ?_
    exact h v w (by simpa using hown) (own_grown_refl w _) (.inl rfl)
  · refine wpList_append_own_at w hgd s x 22 ho base 5 i0 (.int .u8 0) 1 1 Tryd.underlying22 gi gz0 gz1 gz2 rfl (by decide) v l.length (rowB l) hs hown ⟨g, 0, none⟩ m.length cap (rowB m) hx (by rw [rowB_len]; omega) ?_ (rowB_one m) (by unfold maxLen; omega) (by omega) hbase ?_
    · intro j u hj
      rw [Addr.add_lit, Nat.zero_add]
      have hjl : j < m.length := by
        have := (List.getElem?_eq_some_iff.1 hj).1
        rwa [rowB_len] at this
      rw [hox.cellAt j (by omega)]
      exact hj
    · intro v' w' h1 h2 _ h3
      refine h v' w' ?_ h2 h3
      rw [List.length_append, rowB_app]
      exact h1
theorem own_iterAt {w : World} {B k : Nat} {v : Value} {l : List UInt8} {s : ByteArray} {p : Nat} (h : OwnB w B v l) (hk : w.heap[k]? = some (.stringIter s p)) (p' : Nat) : OwnB (w.iterAt k s p') B v l := by
  refine ⟨h.1, ?_⟩
  rcases h.2 with h2 | ⟨g, cap, cur, h1, h2, h3, h4⟩
  · exact .inl h2
  · refine .inr ⟨g, cap, cur, h1, h2, ?_, h4⟩
    rw [Lib.iterAt_other _ _ _ _ _ (by rintro rfl; rw [hk] at h3; cases h3)]
    exact h3
theorem own_not {w : World} {B k : Nat} {v : Value} {l : List UInt8} {s : ByteArray} {p : Nat} (h : OwnB w B v l) (hk : w.heap[k]? = some (.stringIter s p)) : some k ≠ v.ownBlock := by
  rcases h.2 with ⟨rfl, _⟩ | ⟨g, cap, cur, rfl, h2, h3, h4⟩
  · simp [Value.ownBlock]
  · intro e
    simp [Value.ownBlock] at e
    subst e
    rw [hk] at h3
    cases h3
theorem own_one {w : World} {x : UInt8} {o : Obj} (ho : o = .cells #[.int .u8 x.toNat] 5) : OwnB (w.alloc o) w.heap.size (.slice (some ⟨w.heap.size, 0, none⟩) 1 1) [x] := by
  subst ho
  exact ⟨rfl, .inr ⟨w.heap.size, 1, #[.int .u8 x.toNat], rfl, Nat.le_refl _, heap_alloc_new w _, Nat.le_refl _, by unfold maxLen; omega, rfl, rfl⟩⟩
theorem wrap_u8 (k : Int) : IntKind.u8.wrap k = ((kdL k).toNat : Int) := by
  unfold kdL nat64
  simp [IntKind.wrap, IntKind.bits, IntKind.signed]
  omega
theorem txL_len (s : ByteArray) (k : Nat) : (txL s k).length = k + s.size := by unfold txL; simp [gfL_length]
theorem fdL_len (e : Ev) (h : e.Sz) (c : UInt8) : (fdL e c).length ≤ 2147483656 := by
  have := wTextC_size e.t
  have h1 := h.i
  have h2 := h.n
  have h3 := h.l
  have h4 := h.u
  unfold fdL
  repeat (split; · first | (rw [txL_len]; omega) | (rw [gfL_length]; omega))
  rw [txL_len]
  omega
theorem flat_len (f : UInt8 → List UInt8) (n : Nat) (h : ∀ c, (f c).length ≤ n) : ∀ l : List UInt8, (l.flatMap f).length ≤ l.length * n := by
  intro l
  induction l with
  | nil => simp
  | cons a l ih =>
    have := h a
    rw [List.flatMap_cons, List.length_append, List.length_cons, Nat.succ_mul]
    omega
theorem ordL_mem (k : Int) : ∀ c ∈ ordL k, c ∈ order7 := by
  intro c hc
  rw [ordL_filter] at hc
  exact (List.mem_filter.1 hc).1
theorem ordL_len (k : Int) : (ordL k).length ≤ 7 := by
  rw [ordL_filter]
  exact List.length_filter_le _ _
theorem infoA12 : (Tryd.prog.info? 37).map (·.size) = some 8 := by kernel_rfl
/-- The bytes that pack.Event answers. -/
def pkR (e : Ev) : List UInt8 := if chkE e = 0 then pkL e else []
def PkPost (w : World) (l : List UInt8) (n : Int) (r : Ending) (w' : World) : Prop := ∃ v, r = .returned (.tuple #[v, .int .i64 n]) ∧ OwnB w' w.heap.size v l ∧ Below w.heap.size w w'

set_option maxHeartbeats 4000000 in
set_option maxRecDepth 100000 in
theorem pevent_any (e : Ev) (hok : e.Ok) (hsz : e.Sz) (w : World) (ht : TabW w) : Calls Tryd.prog 10 #[e.val] w (PkPost w (pkR e) (chkE e)) := by
  have HC := hidIn (fun w ht => check_any e hok w ht)
  have HP := hidIn (fun c hc w ht => packed_any e hok hsz c hc w ht)
  obtain ⟨S, hS⟩ : ∃ S : ByteArray, S = ⟨(ordL e.k).toArray⟩ := ⟨_, rfl⟩
  have HF := hidIn (fun w => pfields_any e.k w)
  rw [← hS] at HF
  have HS := hidIn hS
  clear hS
  have HT := hidIn ht
  have HLN := hidIn (fun n => Nat.le_trans (flat_len (fdL e) 2147483656 (fdL_len e hsz) ((ordL e.k).take n)) (Nat.mul_le_mul_right _ (Nat.le_trans (List.length_take_le' _ _) (ordL_len e.k))))
  have HFL := hidIn (fdL_len e hsz)
  have HM := hidIn (ordL_mem e.k)
  have HR : Hid (pkR e = if chkE e = 0 then kdL e.k :: (ordL e.k).flatMap (fdL e) else []) := rfl
  have one := e.t.one' hok.t
  have HKW := hidIn (wrap_u8 e.k)
  unfold PkPost
  generalize pkR e = res at *
  generalize chkE e = ce at *
  generalize fdL e = fd at *
  clear hok hsz ht
  obtain ⟨k, i, n, l, u, d, v, t⟩ := e
  unfold Ev.val Ev.cs at *
  simp only at *
  generalize ordL k = L at *
  generalize t.val = tv at *
  have hkw := HKW.out
  generalize kdL k = kd at *
  clear t
  go_enter Tryd.func10, Tryd.ntmps10
  go_wp2_with fail
  have HBV : Hid (Below w.heap.size w (w.alloc (.cells #[.int .i64 k, .string i, .string n, .string l, .string u, .int .i64 d, .int .i64 v, tv] 37))) := below_alloc (Below.refl _ _) _
  have HX := hidIn (heap_alloc_new w (.cells #[.int .i64 k, .string i, .string n, .string l, .string u, .int .i64 d, .int .i64 v, tv] 37))
  generalize w.alloc (.cells #[.int .i64 k, .string i, .string n, .string l, .string u, .int .i64 d, .int .i64 v, tv] 37) = V at *
  refine (HC.out V (tabW_below HT.out HBV.out)).mono ?_
  rintro e w1 ⟨rfl, hb⟩
  have HB1 := hidIn (HBV.out.trans (hb.mono HBV.out.size))
  have HX1 := hidIn ((hb.block _ (Array.getElem?_eq_some_iff.1 HX.out).1).trans HX.out)
  have HLT : Hid (w.heap.size < w1.heap.size) := (Array.getElem?_eq_some_iff.1 HX1.out).1
  clear hb
  by_cases h0 : ce = 0
  rotate_left
  · have h0' : (ce != 0) = true := by simpa using h0
    rw [if_neg h0] at HR
    clear h0
    go_wp2_with fail
    go_ret2
    exact ⟨_, rfl, by rw [HR.out]; exact World.ownsRow_nil _ _ _ _, HB1.out⟩
  · subst h0
    rw [if_pos rfl] at HR
    have c0 : w1.cell? ⟨w.heap.size, 0, none⟩ = some (.int .i64 k) := cell_of_row _ _ 0 _ _ _ HX1.out
    go_upto_region 5 with fail
    clear c0
    have HO2 : Hid (OwnB (w1.alloc (.cells #[.int .u8 kd.toNat] 5)) w1.heap.size (.slice (some ⟨w1.heap.size, 0, none⟩) 1 1) [kd]) := own_one rfl
    have HB2 : Hid (Below w1.heap.size w1 (w1.alloc (.cells #[.int .u8 kd.toNat] 5))) := below_alloc (Below.refl _ _) _
    generalize w1.alloc (.cells #[.int .u8 kd.toNat] 5) = w2 at *
    have c0 : w2.cell? ⟨w.heap.size, 0, none⟩ = some (.int .i64 k) := cell_of_row _ _ 0 _ _ _ ((HB2.out.block _ HLT.out).trans HX1.out)
    go_wp2_with fail
    clear c0
    refine (HF.out w2).mono ?_
    rintro e w3 ⟨rfl, hb3⟩
    have HO3 := hidIn (own_below HO2.out hb3)
    have HB3 := hidIn (HB2.out.trans (hb3.mono HB2.out.size))
    clear hb3 HO2 HB2
    go_wp2_with fail
    have HO4 : Hid (OwnB (w3.iter S 0) w1.heap.size (.slice (some ⟨w1.heap.size, 0, none⟩) 1 1) [kd]) := own_below HO3.out (below_alloc (Below.refl _ _) _)
    have HB4 : Hid (Below w1.heap.size w1 (w3.iter S 0)) := below_alloc HB3.out _
    have HI4 : Hid ((w3.iter S 0).heap[w3.heap.size]? = some (.stringIter S 0)) := heap_alloc_new w3 _
    have HK : Hid (w1.heap.size ≤ w3.heap.size) := HB3.out.size
    clear HO3 HB3
    go_loopw [5] (fun s5 wr => ∃ (j : Nat), j ≤ L.length ∧ OwnB wr w1.heap.size s5 (kd :: (L.take j).flatMap fd) ∧ wr.heap[w3.heap.size]? = some (.stringIter S j) ∧ Below w1.heap.size w1 wr) (fun _ wr => L.length - wr.iterPos w3.heap.size)
    case atStart => exact ⟨0, Nat.zero_le _, HO4.out, HI4.out, HB4.out⟩
    case round =>
      obtain ⟨j, hj, ho, hit, hbr⟩ := hrel
      have HO := hidIn ho
      have HIT := hidIn hit
      have HBR := hidIn hbr
      clear ho hit hbr
      by_cases hlt : j < L.length
      · obtain ⟨c, hc⟩ : ∃ c, L[j]? = some c := ⟨_, List.getElem?_eq_getElem hlt⟩
        have hmem := HM.out c (List.mem_of_getElem? hc)
        have h128 : c.toNat < 128 := by
          have : ∀ c ∈ order7, c.toNat < 128 := by decide +kernel
          exact this c hmem
        have hnx : ∀ ty, (Instr.next (.pointer (some ⟨w3.heap.size, 0, none⟩)) true ty).run Tryd.prog wr = .ok (.tuple #[.bool true, .int .i64 j, .int .i32 c.toNat]) (wr.iterAt w3.heap.size S (j + 1)) := fun ty => by
          have hp : j < S.size := by rw [HS.out]; exact hlt
          have hcs : S[j]'hp = c := by
            have h2 : L[j] = c := by rw [List.getElem?_eq_getElem hlt] at hc; exact Option.some.inj hc
            have h3 := HS.out
            subst h3
            rw [← h2]
            rfl
          have := Lib.run_next_ascii_at (P := Tryd.prog) wr w3.heap.size S j ty HIT.out hp (by rw [hcs]; exact h128)
          rw [hcs] at this
          exact this
        have HO5 := hidIn (own_iterAt HO.out HIT.out (j + 1))
        have HI5 := hidIn (Lib.iterAt_heap wr w3.heap.size S j (j + 1) HIT.out)
        have HB5 := hidIn (Lib.below_iterAt HBR.out HK.out S (j + 1))
        have HTK : Hid ((L.take (j + 1)).flatMap fd = (L.take j).flatMap fd ++ fd c) := by unfold Hid; rw [List.take_add_one, hc]; simp
        have HLJ := hidIn (HLN.out j)
        generalize wr.iterAt w3.heap.size S (j + 1) = W5 at *
        have HX5 := hidIn ((HB5.out.block _ HLT.out).trans HX1.out)
        have HT5 := hidIn (tabW_below HT.out (HB1.out.trans (HB5.out.mono HB1.out.size)))
        have HPC := hidIn (HP.out c hmem)
        clear h128 hmem
        go_wp2_with (refine wpList_load_row rfl 37 (.tmp 1) rfl (w.heap.size) rfl _ _ _ _ HX5.out Tryd.underlying37 rfl infoA12 ?_)
        refine (HPC.out W5 HT5.out).mono ?_
        rintro e w6 ⟨v6, rfl, hv6, hb6⟩
        have HV6 := hidIn hv6
        have HO6 := hidIn (own_below HO5.out hb6)
        have HI6 := hidIn ((hb6.block _ (Array.getElem?_eq_some_iff.1 HI5.out).1).trans HI5.out)
        have HB6 := hidIn (HB5.out.trans (hb6.mono HB5.out.size))
        have HFC := HFL.out c
        clear hv6 hb6
        go_wp2_with (at_builtin; refine wpList_append_bytes w6 rfl _ _ rfl w1.heap.size u5 _ rfl HO6.out W5.heap.size v6 (fd c) rfl HV6.out (by have := HLJ.out; simp only [List.length_cons]; omega) HB6.out.size ?_; intro v7 w7 hown7 hgrow7 _)
        have HO7 : Hid (OwnB w7 w1.heap.size v7 (kd :: (L.take (j + 1)).flatMap fd)) := by unfold Hid; rw [HTK.out]; exact hown7
        have HI7 : Hid (w7.heap[w3.heap.size]? = some (.stringIter S (j + 1))) := (hgrow7.block _ (Array.getElem?_eq_some_iff.1 HI6.out).1 (own_not HO6.out HI6.out)).trans HI6.out
        have HB7 := hidIn (HB6.out.grown hgrow7 HB6.out.size (fun k hk => (World.ownsRow.lt HO6.out k hk).1))
        clear hown7 hgrow7
        go_roundw
        case rel => exact ⟨j + 1, by omega, HO7.out, HI7.out, HB7.out⟩
        case measure =>
          rw [iterPos_of HI7.out, iterPos_of HIT.out]
          omega
      · have hjl : j = L.length := by omega
        subst hjl
        have hnx : ∀ ty, (Instr.next (.pointer (some ⟨w3.heap.size, 0, none⟩)) true ty).run Tryd.prog wr = _ := fun ty => Lib.run_next_end_at (P := Tryd.prog) wr w3.heap.size S L.length ty HIT.out (by rw [HS.out]; exact fun h => Nat.lt_irrefl L.length h)
        go_wp2_with fail
        go_ret2
        exact ⟨_, rfl, by rw [HR.out]; have h := HO.out; rw [List.take_length] at h; exact own_lower h HB1.out.size, HB1.out.trans (HBR.out.mono HB1.out.size)⟩

def pkX (e : Ev) (r : Bool) : List UInt8 := if chkE e = 0 then (bif r then 1 else 0) :: pkL e else []
end Go.Proofs.YtkioolbjmcpjpaaDoor.Ev
