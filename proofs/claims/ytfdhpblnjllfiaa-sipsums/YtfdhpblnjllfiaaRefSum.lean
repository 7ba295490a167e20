/- The reference's sum of any bytes with any key: the whole. -/
import Derived.Test.YtfdhpblnjllfiaaRefSip
namespace Go.Proofs.Ytfdhpblnjllfiaa
open Go.RowKit
set_option linter.unusedVariables false

/-- All bytes: those of the text, noughts, and the last one, how many there are. -/
def allF (f : Nat → BitVec 8) (len : Nat) : Nat → BitVec 8 := fun i => if i < len then f i else if i = 8 * (len / 8) + 7 then byteOf len else 0
theorem hi_congr (f g : Nat → BitVec 8) : ∀ n j, (∀ i, j ≤ i → i < j + n → f i = g i) → hi f n j = hi g n j
  | 0, _, _ => rfl
  | n + 1, j, h => by
    show (hi f n (j + 1)) <<< 8 ||| wide (f j) = (hi g n (j + 1)) <<< 8 ||| wide (g j)
    rw [hi_congr f g n (j + 1) (fun i h1 h2 => h i (by omega) (by omega)), h j (by omega) (by omega)]
theorem hi_noughts (f g : Nat → BitVec 8) (m j : Nat) (h : ∀ i, j ≤ i → i < j + m → f i = g i) : ∀ d, (∀ i, j + m ≤ i → i < j + m + d → f i = 0) → hi f (m + d) j = hi g m j
  | 0, _ => hi_congr f g m j h
  | d + 1, hz => by
    rw [show m + (d + 1) = (m + d) + 1 from rfl, hi_last, hi_noughts f g m j h d (fun i h1 h2 => hz i h1 (by omega)), hz (j + (m + d)) (by omega) (by omega)]
    simp [wide]
theorem hi_all (f : Nat → BitVec 8) (len : Nat) : hi (allF f len) 8 (8 * (len / 8)) = lastM f len := by
  rw [show (8 : Nat) = 7 + 1 from rfl, hi_last]
  have e7 : allF f len ((7 + 1) * (len / (7 + 1)) + 7) = byteOf len := by
    unfold allF
    rw [if_neg (by omega), if_pos (by omega)]
  rw [e7]
  have := hi_noughts (allF f len) f (len % 8) (8 * (len / 8)) (fun i h1 h2 => by unfold allF; rw [if_pos (by omega)]) (7 - len % 8) (fun i h1 h2 => by unfold allF; rw [if_neg (by omega), if_neg (by omega)])
  rw [show len % 8 + (7 - len % 8) = 7 by omega] at this
  show hi (allF f len) 7 (8 * (len / 8)) ||| _ = _
  rw [this]
  rfl
theorem blocks_all (k f : Nat → BitVec 8) (len : Nat) : ∀ j, j ≤ len / 8 → blocks k (allF f len) j = blocks k f j
  | 0, _ => rfl
  | j + 1, h => by
    show take (blocks k (allF f len) j) (hi (allF f len) 8 (8 * j)) = take (blocks k f j) (hi f 8 (8 * j))
    rw [blocks_all k f len j (by omega), hi_congr (allF f len) f 8 (8 * j) (fun i h1 h2 => by unfold allF; rw [if_pos (by omega)])]
theorem sip_all (k f : Nat → BitVec 8) (len : Nat) : fin (blocks k (allF f len) (len / 8 + 1)) = sipF k f len := by
  show fin (take (blocks k (allF f len) (len / 8)) (hi (allF f len) 8 (8 * (len / 8)))) = _
  rw [blocks_all k f len _ (Nat.le_refl _), hi_all]
  rfl
theorem cellsB_snoc (f : Nat → BitVec 8) (n : Nat) : cellsB f (n + 1) = cellsB f n ++ [.int .u8 (ub (f n))] := by simp [cellsB, List.range_succ]
theorem cellsB_one (f : Nat → BitVec 8) (n : Nat) : ∀ u ∈ cellsB f n, u.oneCell' = true := by
  intro u hu
  simp only [cellsB, List.mem_map] at hu
  obtain ⟨i, _, rfl⟩ := hu
  rfl
theorem HasBytes.news {w : World} {ad : Addr} {m : Nat} {f : Nat → BitVec 8} (h : HasBytes w (some ad) m f) : ∀ (j : Nat) (u : Value), (cellsB f m)[j]? = some u → w.cell? (ad.add j) = some u := by
  intro j u hu
  by_cases hj : j < m
  · obtain ⟨b, off, e, hc⟩ := h j hj
    injection e with e
    subst e
    rw [cellsB_get f m j hj] at hu
    injection hu with hu
    rw [← hu, ← hc]
    by_cases j0 : j = 0
    · subst j0; simp [Addr.add]
    · simp [Addr.add, j0]
  · rw [List.getElem?_eq_none (by rw [cellsB_length]; omega)] at hu
    simp at hu
theorem own_any {w : World} {B : Nat} {e : TypeId} {v : Value} {m : Nat} {g : Nat → BitVec 8} (h : w.ownsRow B e 1 v m (cellsB g m)) : ∃ ao cap, v = .slice ao m cap ∧ SliceOk ao m cap ∧ HasBytes w ao m g ∧ (∀ b o s, ao = some ⟨b, o, s⟩ → B ≤ b) := by
  rcases h.2 with ⟨rfl, rfl⟩ | ⟨b, cap, cur, rfl, hb, _, hmc, hcm, _⟩
  · exact ⟨none, 0, rfl, ⟨fun _ => ⟨rfl, rfl⟩, by omega, by omega⟩, fun i hi => absurd hi (by omega), fun _ _ _ h => by cases h⟩
  · exact ⟨some ⟨b, 0, none⟩, cap, rfl, ⟨(fun h => by cases h), hmc, by unfold maxLen at hcm; omega⟩, own_bytes h, fun b' o s e => by injection e with e; injection e with e1 _ _; omega⟩
theorem cell_one_at (w : World) (v : Value) (t : TypeId) : ∀ (j : Nat) (u : Value), [v][j]? = some u → (w.alloc (.cells #[v] t)).cell? ((⟨w.heap.size, 0, none⟩ : Addr).add j) = some u := by
  intro j u hu
  cases j with
  | zero => simp at hu; subst hu; simp [Addr.add]
  | succ j => simp at hu
theorem grown_blk {w w' : World} {r : Option Nat} {b t B : Nat} {cs : Array Value} (h : Blk w b t cs) (hg : w.grownBy w' r) (hr : ∀ k, r = some k → B ≤ k) (hB : b < B) : Blk w' b t cs :=
  (hg.block b h.lt (fun e => by have := hr b e.symm; omega)).trans h
theorem HasBytes.only {w w' : World} {bb o m b : Nat} {g : Nat → BitVec 8} (h : HasBytes w (some ⟨bb, o, none⟩) m g) (ho : Only b w w') (hne : bb ≠ b) : HasBytes w' (some ⟨bb, o, none⟩) m g := by
  intro i hi
  obtain ⟨b', off', e, hc⟩ := h i hi
  injection e with e
  injection e with e1 e2 e3
  subst e1 e2
  exact ⟨bb, o, rfl, (World.cell?_of_block (w := w) (ho.block bb hne)).trans hc⟩
def lenOf : Value → Nat | .slice _ n _ => n | _ => 0

set_option maxHeartbeats 1000000 in
set_option maxRecDepth 100000 in
theorem refSip_any (k f : Nat → BitVec 8) (ao : Option Addr) (len cap : Nat) (w : World) (hr : HasBytes w ao len f) (hs : SliceOk ao len cap) (hl : len ≤ 1000) :
    Calls Try.prog 10 #[.agg (keyV k), .slice ao len cap] w fun e w' => e = .returned (.int .u64 (un (sipF k f len))) ∧ Below w.heap.size w w' := by
  obtain ⟨hnone, hlc, hcm⟩ := hs
  have hks := keyV_size k
  have h1 : ∀ x, bits .xor .u64 (un x) 8317987319222330741 = un (x ^^^ 8317987319222330741#64) := fun x => un_lit rfl
  have h2 : ∀ x, bits .xor .u64 (un x) 7237128888997146477 = un (x ^^^ 7237128888997146477#64) := fun x => un_lit rfl
  have h3 : ∀ x, bits .xor .u64 (un x) 7816392313619706465 = un (x ^^^ 7816392313619706465#64) := fun x => un_lit rfl
  have h4 : ∀ x, bits .xor .u64 (un x) 8387220255154660723 = un (x ^^^ 8387220255154660723#64) := fun x => un_lit rfl
  have HN : Hid (∀ W c d, d ≤ 8 → Blk W w.heap.size 23 (keyV k) → Calls Try.prog 27 #[.slice (some ⟨w.heap.size, d, none⟩) 8 c] W fun e w' => e = .returned (.int .u64 (un (hi k 8 d))) ∧ w' = W) := by
    intro W c d hd hB
    have := refNumber_any _ 8 c (fun i => k (d + i)) W (key_bytes hB d hd) rfl
    rw [hi_shift] at this
    exact this
  have HK : Hid (Blk (w.alloc (.cells (keyV k) 23)) w.heap.size 23 (keyV k)) := Blk.new _ _ _
  have HW : Hid (Below w.heap.size w (w.alloc (.cells (keyV k) 23))) := (Below.refl _ _).alloc (Nat.le_refl _) _
  generalize keyV k = kv at *
  go_enter Try.func10, Try.ntmps10
  go_upto_region 1 with fail
  go_quiet ((go_at_call 27; refine Calls.quiet_of_same (HN.out _ _ _ (by omega) HK.out)))
  go_upto_region 3 with fail
  have HB0 : Hid (Blk (((w.alloc (.cells kv 23)).drewN nq).alloc (.cells (four (begun k)) 50)) (w.heap.size + 1) 50 (four (begun k))) := heap_alloc2_new _ _ _
  have HW0 : Hid (Below w.heap.size w (((w.alloc (.cells kv 23)).drewN nq).alloc (.cells (four (begun k)) 50))) :=
    (show Below w.heap.size w ((w.alloc (.cells kv 23)).drewN nq) from ⟨HW.out.os, HW.out.tape, HW.out.output, HW.out.size, HW.out.block⟩).alloc (by simp [World.drewN]) _
  have HS0 : Hid ((((w.alloc (.cells kv 23)).drewN nq).alloc (.cells (four (begun k)) 50)).heap.size = w.heap.size + 2) := by simp [World.drewN, Hid]
  rw [show (#[.int .u64 (un (hi k 8 0 ^^^ 8317987319222330741#64)), .int .u64 (un (hi k 8 8 ^^^ 7237128888997146477#64)), .int .u64 (un (hi k 8 0 ^^^ 7816392313619706465#64)), .int .u64 (un (hi k 8 8 ^^^ 8387220255154660723#64))] : Array Value) = four (begun k) from rfl]
  have HR : Hid (HasBytes (((w.alloc (.cells kv 23)).drewN nq).alloc (.cells (four (begun k)) 50)) ao len f) := hr.below HW0.out
  generalize (((w.alloc (.cells kv 23)).drewN nq).alloc (.cells (four (begun k)) 50)) = W0 at *
  have HNO : Hid (ao = none → len = 0 ∧ cap = 0) := hnone
  clear h1 h2 h3 h4 HN HK HW hr hnone
  obtain ⟨i1, gi, gz0, gz1, gz2⟩ := info_parts infoByte
  go_cut [8] (fun s8 wx => wx.ownsRow (w.heap.size + 2) 5 1 s8 len (cellsB (allF f len) len) ∧ Blk wx (w.heap.size + 1) 50 (four (begun k)) ∧ Below w.heap.size w wx ∧ w.heap.size + 2 ≤ wx.heap.size)
  case first =>
    cases ao with
    | none =>
      obtain ⟨rfl, rfl⟩ := HNO.out rfl
      go_wp2_with (at_builtin; refine wpList_append_own_none rfl (.const (.slice none 0 0)) (.tmp 24) 22 rfl (w.heap.size + 2) 5 i1 1 Try.underlying22 gi _ _ _ rfl (World.ownsRow_nil _ _ _ _) rfl ?_)
      go_meet
      case rel => exact ⟨World.ownsRow_nil _ _ _ _, HB0.out, HW0.out, by rw [HS0.out]; exact Nat.le_refl _⟩
    | some ad =>
      have HE : Hid (cellsB f len = cellsB (allF f len) len) := cellsB_ext _ _ _ (fun i hi => by unfold allF; rw [if_pos hi])
      go_wp2_with (at_builtin; refine wpList_append_own _ rfl (.const (.slice none 0 0)) (.tmp 24) 22 rfl (w.heap.size + 2) 5 i1 (.int .u8 0) 1 1 Try.underlying22 gi gz0 gz1 gz2 rfl (by decide) _ _ _ rfl (World.ownsRow_nil _ _ _ _) ad len cap (cellsB f len) rfl (by rw [cellsB_length]; omega) HR.out.news (cellsB_one _ _) (by unfold maxLen; omega) (by omega) (by rw [HS0.out]; exact Nat.le_refl _) ?_; intro v2 w2 hown2 hgrow2 _)
      go_meet
      case rel =>
        refine ⟨by rw [← HE.out]; simpa using hown2, grown_blk (B := w.heap.size + 2) HB0.out hgrow2 (fun k hk => by simp [Value.ownBlock, Act.eval] at hk) (by omega), ?_, ?_⟩
        · exact HW0.out.grown hgrow2 (by have := HS0.out; omega) (fun k hk => by simp [Value.ownBlock, Act.eval] at hk)
        · have := hgrow2.size; have := HS0.out; omega
  case rest =>
    obtain ⟨hown, hB, hW, hsz⟩ := hcut
    clear HB0 HW0 HS0 HR HNO
    have hbw : ∀ n, IntKind.u8.wrap n = ub (byteOf n) := byte_wrap
    obtain ⟨N, hN⟩ : ∃ N, N = 8 * (len / 8) + 7 := ⟨_, rfl⟩
    have HN : Hid (N = 8 * (len / 8) + 7) := hN
    have hN7 : N ≤ 1007 := by omega
    have hlN : len ≤ N := by omega
    clear hN
    go_wp2_with fail
    go_loopw [8] (fun s8 wr => ∃ n : Nat, len ≤ n ∧ n ≤ N ∧ wr.ownsRow (w.heap.size + 2) 5 1 s8 n (cellsB (allF f len) n) ∧ Blk wr (w.heap.size + 1) 50 (four (begun k)) ∧ Below w.heap.size w wr ∧ w.heap.size + 2 ≤ wr.heap.size) (fun s8 _ => N - lenOf s8)
    case atStart => exact ⟨len, Nat.le_refl _, hlN, hown, hB, hW, hsz⟩
    case round =>
      clear hown hB hW hsz
      obtain ⟨n, hln, hnN, hown, hB, hW, hsz⟩ := hrel
      obtain ⟨ao', cap', rfl, hok, hby, hbl⟩ := own_any hown
      have HB : Hid (Blk wr (w.heap.size + 1) 50 (four (begun k))) := hB
      have HBY : Hid (HasBytes wr ao' n (allF f len)) := hby
      have HBL : Hid (∀ b o s, ao' = some ⟨b, o, s⟩ → w.heap.size + 2 ≤ b) := hbl
      have HOK : Hid (SliceOk ao' n cap') := hok
      clear hB hby hbl hok
      by_cases hlt : n < N
      · have h7 : ¬ (n : Int) % 8 = 7 := by have := HN.out; omega
        have HA : Hid (allF f len n = 0) := by unfold Hid allF; rw [if_neg (by omega), if_neg (by have := HN.out; omega)]
        go_wp2_with (at_builtin; refine wpList_append_own _ rfl (.tmp 30) (.tmp 31) 22 rfl (w.heap.size + 2) 5 i1 (.int .u8 0) 1 1 Try.underlying22 gi gz0 gz1 gz2 rfl (by decide) _ _ _ rfl (hown.alloc _) ⟨wr.heap.size, 0, none⟩ 1 1 [.int .u8 0] rfl rfl (cell_one_at wr _ _) (by intro u hu; simp at hu; subst hu; rfl) (by unfold maxLen; omega) (by omega) (by simp; omega) ?_; intro v2 w2 hown2 hgrow2 _)
        have hbl2 : ∀ k, (Value.slice ao' n cap').ownBlock = some k → w.heap.size + 2 ≤ k := (fun k hk => (hown.lt k hk).1)
        have hown3 : w2.ownsRow (w.heap.size + 2) 5 1 v2 (n + 1) (cellsB (allF f len) (n + 1)) := by rw [cellsB_snoc, HA.out]; exact hown2
        obtain ⟨ao2, cap2, rfl, _⟩ := own_any hown3
        go_roundw
        case rel =>
          refine ⟨n + 1, by omega, by omega, hown3, grown_blk (HB.out.alloc _) hgrow2 hbl2 (by omega), ?_, ?_⟩
          · exact (hW.alloc hW.size _).grown hgrow2 (by simp; omega) (fun k hk => by have := hbl2 k hk; omega)
          · have := hgrow2.size; simp at this; omega
        case measure => simp [lenOf]; omega
      · have hnN' : n = N := by omega
        subst hnN'
        have h7 : (n : Int) % 8 = 7 := by have := HN.out; omega
        have HA : Hid (allF f len n = byteOf len) := by unfold Hid allF; rw [if_neg (by omega), if_pos HN.out]
        go_wp2_with (at_builtin; refine wpList_append_own _ rfl (.tmp 33) (.tmp 37) 22 rfl (w.heap.size + 2) 5 i1 (.int .u8 0) 1 1 Try.underlying22 gi gz0 gz1 gz2 rfl (by decide) _ _ _ rfl (hown.alloc _) ⟨wr.heap.size, 0, none⟩ 1 1 [.int .u8 (ub (byteOf len))] rfl rfl (cell_one_at wr _ _) (by intro u hu; simp at hu; subst hu; rfl) (by unfold maxLen; omega) (by omega) (by simp; omega) ?_; intro v2 w2 hown2 hgrow2 _)
        have hbl2 : ∀ k, (Value.slice ao' n cap').ownBlock = some k → w.heap.size + 2 ≤ k := (fun k hk => (hown.lt k hk).1)
        have hown3 : w2.ownsRow (w.heap.size + 2) 5 1 v2 (n + 1) (cellsB (allF f len) (n + 1)) := by rw [cellsB_snoc, HA.out]; exact hown2
        have hB2 := grown_blk (HB.out.alloc _) hgrow2 hbl2 (Nat.lt_succ_self _)
        have hW2 : Below w.heap.size w w2 := (hW.alloc hW.size _).grown hgrow2 (by simp; omega) (fun k hk => by have := hbl2 k hk; omega)
        have hM : ∃ M, M = n + 1 := ⟨_, rfl⟩
        obtain ⟨M, hM⟩ := hM
        rw [← hM] at hown3
        have HM : Hid (M = 8 * (len / 8 + 1)) := by have := HN.out; show M = _; omega
        have hM8 : M ≤ 1008 := by omega
        obtain ⟨aa, cap2, rfl, hok2, hby2, hbl3⟩ := own_any hown3
        obtain ⟨bb, o, rfl, _⟩ := hby2 0 (by omega)
        have hbb := hbl3 bb o none rfl
        obtain ⟨_, hlc2, hcm2⟩ := hok2
        clear hbl3 hown3 hown2 hgrow2 hbl2 hown HB hW HN HA HBY HBL HOK h7 hlt hnN hlN hln hN7 hM hsz hbw
        have hx : ∀ x y, bits .xor .u64 (un x) (un y) = un (x ^^^ y) := un_xor
        have hy : ∀ x, bits .xor .u64 (un x) 255 = un (x ^^^ 255#64) := un_255
        go_loopw [9] (fun s9 wr => ∃ j i : Nat, Hid (i = 8 * j) ∧ i ≤ M ∧ s9 = .int .i64 i ∧ Blk wr (w.heap.size + 1) 50 (four (blocks k (allF f len) j)) ∧ HasBytes wr (some ⟨bb, o, none⟩) M (allF f len) ∧ Below w.heap.size w wr) (fun s9 _ => M - (intOf s9).toNat)
        case atStart => exact ⟨0, 0, rfl, by omega, rfl, hB2, hby2, hW2⟩
        case round =>
          clear hB2 hby2 hW2
          obtain ⟨j, i, HI, hiM, rfl, hB, hby, hW⟩ := hrel
          have HB : Hid (Blk wr (w.heap.size + 1) 50 (four (blocks k (allF f len) j))) := hB
          have HBY : Hid (HasBytes wr (some ⟨bb, o, none⟩) M (allF f len)) := hby
          have HW : Hid (Below w.heap.size w wr) := hW
          obtain ⟨⟨g0, g1, g2, g3⟩, f0, f1, f2, f3⟩ := blk_four hB
          clear hB hby hW
          by_cases hlt : i < M
          · have hlt' : (i : Int) < (M : Int) := by omega
            have hi8 : i + 8 ≤ M := by have := HI.out; have := HM.out; omega
            have hi8' : (i : Int) + 8 ≤ (M : Int) := by omega
            have hcap : ¬ cap2 = i := by omega
            go_wp2_with fail
            refine calls_same (refNumber_any _ 8 _ (fun t => allF f len (i + t)) _ (HBY.out.part i 8 (by omega)) rfl) ?_
            rw [hi_zero]
            go_wp2_with fail
            refine (refRound_any (mixIn (blocks k (allF f len) j) (hi (allF f len) 8 i)) _).mono ?_
            rintro e w1 ⟨rfl, hb1⟩
            go_wp2_with fail
            refine (refRound_any (rnd (mixIn (blocks k (allF f len) j) (hi (allF f len) 8 i))) _).mono ?_
            rintro e w3 ⟨rfl, hb3⟩
            have hB1 := (HB.out.s3 (v := blocks k (allF f len) j) ((blocks k (allF f len) j).d ^^^ hi (allF f len) 8 i)).below hb1 (by have := HB.out.lt; simp; omega)
            have hB3 := hB1.below hb3 hB1.lt
            have HBY3 : Hid (HasBytes w3 (some ⟨bb, o, none⟩) M (allF f len)) := ((HBY.out.only ((Only.refl _ _).set 3 _) (by omega)).below hb1).below hb3
            have HW1 : Hid (Below w.heap.size w w1) := (HW.out.setCell (Nat.le_succ _) _).trans (hb1.mono (by have := HW.out.size; simp; omega))
            have HW3 : Hid (Below w.heap.size w w3) := HW1.out.trans (hb3.mono HW1.out.size)
            have HT : Hid (mixOut (rnd (rnd (mixIn (blocks k (allF f len) j) (hi (allF f len) 8 i)))) (hi (allF f len) 8 i) = blocks k (allF f len) (j + 1)) := by have := HI.out; subst this; rfl
            have HB3 : Hid (Blk w3 (w.heap.size + 1) 50 (four (mixIn (blocks k (allF f len) j) (hi (allF f len) 8 i)))) := hB3
            clear g0 g1 g2 g3 f0 f1 f2 f3 hB1 hb1 hb3 HW1 HB HBY HW
            obtain ⟨⟨g0, g1, g2, g3⟩, f0, f1, f2, f3⟩ := blk_four hB3
            clear hB3
            generalize rnd (rnd (mixIn (blocks k (allF f len) j) (hi (allF f len) 8 i))) = V at *
            rw [show four V = #[.int .u64 (un V.a), .int .u64 (un V.b), .int .u64 (un V.c), .int .u64 (un V.d)] from rfl]
            go_wp2_with fail
            go_roundw
            case rel =>
              refine ⟨j + 1, i + 8, by have := HI.out; show i + 8 = 8 * (j + 1); omega, by omega, by go_num, ?_, ?_, ?_⟩
              · rw [← HT.out]
                exact ((((HB3.out.s0 _).s1 _).s2 _).s3 _).s0 _
              · exact HBY3.out.only ((((((Only.refl _ _).set 0 _).set 1 _).set 2 _).set 3 _).set 0 _) (by omega)
              · exact ((((HW3.out.setCell (Nat.le_succ _) _).setCell (Nat.le_succ _) _).setCell (Nat.le_succ _) _).setCell (Nat.le_succ _) _).setCell (Nat.le_succ _) _
            case measure => simp [intOf]; omega
          · have hlt' : ¬ (i : Int) < (M : Int) := by omega
            have HJ : Hid (j = len / 8 + 1) := by have := HI.out; have := HM.out; show j = _; omega
            have HF : Hid (fin (blocks k (allF f len) j) = sipF k f len) := by rw [HJ.out]; exact sip_all k f len
            have HBm : Hid (Blk wr (w.heap.size + 1) 50 (four (blocks k (allF f len) j))) := HB.out
            clear HB HBY HJ HI HM
            generalize blocks k (allF f len) j = V at *
            have hSZ := HW.out.size
            have HSZ : Hid (w.heap.size ≤ wr.heap.size) := hSZ
            clear hSZ
            go_wp2_with fail
            refine (refRound_any ⟨V.a, V.b, V.c ^^^ 255#64, V.d⟩ _).mono ?_
            rintro e w1 ⟨rfl, hb1⟩
            go_wp2_with fail
            refine (refRound_any _ _).mono ?_
            rintro e w3 ⟨rfl, hb3⟩
            go_wp2_with fail
            refine (refRound_any _ _).mono ?_
            rintro e w4 ⟨rfl, hb4⟩
            go_wp2_with fail
            refine (refRound_any _ _).mono ?_
            rintro e w5 ⟨rfl, hb5⟩
            have hB1 := (HBm.out.s2 (V.c ^^^ 255#64)).below hb1 (by have := HBm.out.lt; simp; omega)
            have hB3 := hB1.below hb3 hB1.lt
            have hB4 := hB3.below hb4 hB3.lt
            have hB5 := hB4.below hb5 hB4.lt
            have hW1 : Below w.heap.size w w1 := (HW.out.setCell (Nat.le_succ _) _).trans (hb1.mono (by have := HSZ.out; simp; omega))
            have hW3 := hW1.trans (hb3.mono hW1.size)
            have hW4 := hW3.trans (hb4.mono hW3.size)
            have HW5 : Hid (Below w.heap.size w w5) := hW4.trans (hb5.mono hW4.size)
            have HFR : Hid (fin V = (rnd (rnd (rnd (rnd ⟨V.a, V.b, V.c ^^^ 255#64, V.d⟩)))).a ^^^ (rnd (rnd (rnd (rnd ⟨V.a, V.b, V.c ^^^ 255#64, V.d⟩)))).b ^^^ (rnd (rnd (rnd (rnd ⟨V.a, V.b, V.c ^^^ 255#64, V.d⟩)))).c ^^^ (rnd (rnd (rnd (rnd ⟨V.a, V.b, V.c ^^^ 255#64, V.d⟩)))).d) := rfl
            clear g0 g1 g2 g3 f0 f1 f2 f3 hB1 hB3 hB4 hb1 hb3 hb4 hb5 hW1 hW3 hW4
            obtain ⟨⟨g0, g1, g2, g3⟩, f0, f1, f2, f3⟩ := blk_four hB5
            clear hB5
            generalize rnd (rnd (rnd (rnd ⟨V.a, V.b, V.c ^^^ 255#64, V.d⟩))) = U at *
            rw [show four U = #[.int .u64 (un U.a), .int .u64 (un U.b), .int .u64 (un U.c), .int .u64 (un U.d)] from rfl]
            go_wp2_with fail
            go_ret
            refine ⟨ret_int (by rw [← HF.out, HFR.out]), ?_⟩
            exact (((HW5.out.setCell (Nat.le_succ _) _).setCell (Nat.le_succ _) _).setCell (Nat.le_succ _) _).setCell (Nat.le_succ _) _
end Go.Proofs.Ytfdhpblnjllfiaa
