/- The reference's sum of any bytes with any key. -/
import Derived.Test.YtfdhpblnjllfiaaWakes
import Derived.Laws.AppendOwn
import Derived.Laws.AppendOwnNone
namespace Go.Proofs.Ytfdhpblnjllfiaa
open Go.RowKit
set_option linter.unusedVariables false

theorem info4 : (Try.prog.info? 50).map (fun i => i.size) = some 4 := by kernel_rfl

set_option maxHeartbeats 1000000 in
set_option maxRecDepth 100000 in
theorem refRound_any (v : W4) (w : World) :
    Calls Try.prog 28 #[.agg (four v)] w fun e w' => e = .returned (.agg (four (rnd v))) ∧ Below w.heap.size w w' := by
  have ha : ∀ x y, IntKind.u64.wrap (un x + un y) = un (x + y) := un_add
  have hx : ∀ x y, bits .xor .u64 (un x) (un y) = un (x ^^^ y) := un_xor
  obtain ⟨p, q, r, s⟩ := v
  rw [show four ⟨p, q, r, s⟩ = #[.int .u64 (un p), .int .u64 (un q), .int .u64 (un r), .int .u64 (un s)] from rfl]
  go_enter Try.func28, Try.ntmps28
  go_upto_region 2 with (go_at_call 31; refine calls_same (left_any _ 32 _ (by omega)) ?_)
  go_cut [15] (fun _ wx => wx = ((w.alloc (.cells #[.int .u64 (un (p + q)), .int .u64 (un (rot q 13 ^^^ (p + q))), .int .u64 (un (r)), .int .u64 (un (s))] 50)).alloc (.cells #[.int .u64 0, .int .u64 0, .int .u64 0, .int .u64 0] 50)).drew)
  case first =>
    go_region_with (go_at_call 31; refine calls_same (left_any _ 13 _ (by omega)) ?_)
    all_goals
      go_wp2_with fail
      go_meet
    all_goals rfl
  case rest =>
    subst hcut
    go_upto_region 5 with (go_at_call 31; refine calls_same (left_any _ 32 _ (by omega)) ?_)
    go_cut [32] (fun _ wx => wx = ((w.alloc (.cells #[.int .u64 (un (rot (p + q) 32)), .int .u64 (un (rot q 13 ^^^ (p + q))), .int .u64 (un (r + s)), .int .u64 (un (rot s 16 ^^^ (r + s)))] 50)).alloc (.cells #[.int .u64 0, .int .u64 0, .int .u64 0, .int .u64 0] 50)).drew.drew)
    case first =>
      go_region_with (go_at_call 31; refine calls_same (left_any _ 16 _ (by omega)) ?_)
      all_goals
        go_wp2_with fail
        go_meet
      all_goals rfl
    case rest =>
      subst hcut
      go_upto_region 7 with (go_at_call 31; refine calls_same (left_any _ 32 _ (by omega)) ?_)
      go_cut [45] (fun _ wx => wx = ((w.alloc (.cells #[.int .u64 (un (rot (p + q) 32 + (rot s 16 ^^^ (r + s)))), .int .u64 (un (rot q 13 ^^^ (p + q))), .int .u64 (un (r + s)), .int .u64 (un (rot (rot s 16 ^^^ (r + s)) 21 ^^^ (rot (p + q) 32 + (rot s 16 ^^^ (r + s)))))] 50)).alloc (.cells #[.int .u64 0, .int .u64 0, .int .u64 0, .int .u64 0] 50)).drew.drew.drew)
      case first =>
        go_region_with (go_at_call 31; refine calls_same (left_any _ 21 _ (by omega)) ?_)
        all_goals
          go_wp2_with fail
          go_meet
        all_goals rfl
      case rest =>
        subst hcut
        go_upto_region 9 with (go_at_call 31; refine calls_same (left_any _ 32 _ (by omega)) ?_)
        go_cut [58] (fun _ wx => wx = ((w.alloc (.cells #[.int .u64 (un (rot (p + q) 32 + (rot s 16 ^^^ (r + s)))), .int .u64 (un (rot (rot q 13 ^^^ (p + q)) 17 ^^^ (r + s + (rot q 13 ^^^ (p + q))))), .int .u64 (un (r + s + (rot q 13 ^^^ (p + q)))), .int .u64 (un (rot (rot s 16 ^^^ (r + s)) 21 ^^^ (rot (p + q) 32 + (rot s 16 ^^^ (r + s)))))] 50)).alloc (.cells #[.int .u64 0, .int .u64 0, .int .u64 0, .int .u64 0] 50)).drew.drew.drew.drew)
        case first =>
          go_region_with (go_at_call 31; refine calls_same (left_any _ 17 _ (by omega)) ?_)
          all_goals
            go_wp2_with fail
            go_meet
          all_goals rfl
        case rest =>
          subst hcut
          go_wp2_with fail
          refine calls_same (left_any _ 32 _ (by omega)) ?_
          go_wp2_with fail
          refine bodyPost_ret (results_cell_row rfl _ _ (w.heap.size + 1) 50 (four (rnd ⟨p, q, r, s⟩)) (0, 0) _ rfl (heap_alloc2_new _ _ _) Try.underlying50 rfl info4) rfl ?_
          exact ⟨rfl, (((((Below.refl _ _).alloc (Nat.le_refl _) _).alloc (by simp) _).drew.drew.drew.drew))⟩
end Go.Proofs.Ytfdhpblnjllfiaa
