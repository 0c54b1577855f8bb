import Derived.Test.YtcclgodahlinbaaGreatDoorWStand
import Derived.RangeFuncNested
import Derived.RangeFuncBound
import Derived.RangeFuncCalls
import Derived.RangeFuncLeaves
import Derived.Shelf.Abstract
import Derived.Shelf.RegionOpen
import Derived.WalkKit
import Derived.OwnWalkIn
import Derived.TacticsInMore
import Derived.LoopNIn
import Derived.LoopIn
namespace Go.Proofs.YtcclgodahlinbaaGreatDoor
open Go.RowKit Go Go.Shelf
attribute [local go_sem] Oper.semAt_some
set_option maxRecDepth 100000

/-- places -/
abbrev Pl := { x : Int // -1000000 ≤ x ∧ x ≤ 1000000 }
def vals (l : List Pl) : List Int := l.map (·.1)
theorem vals_append (a b : List Pl) : vals (a ++ b) = vals a ++ vals b := List.map_append
theorem vals_length (a : List Pl) : (vals a).length = a.length := List.length_map _
/-- the places around one, up to a distance -/
def aroundL (p : Int) : Nat → List Int
  | 0 => [p]
  | k + 1 => aroundL p k ++ [p + ((k : Int) + 1), p - ((k : Int) + 1)]
theorem aroundL_length (p : Int) (k : Nat) : (aroundL p k).length = 2 * k + 1 := by
  induction k with
  | zero => rfl
  | succ k ih => simp only [aroundL, List.length_append, ih, List.length_cons, List.length_nil]; omega
theorem aroundL_prefix (p : Int) {k n : Nat} (h : k ≤ n) : aroundL p k <+: aroundL p n := by
  induction n with
  | zero => obtain rfl : k = 0 := by omega
            exact List.prefix_refl _
  | succ n ih =>
    by_cases e : k = n + 1
    · subst e; exact List.prefix_refl _
    · exact (ih (by omega)).trans (List.prefix_append _ _)

theorem around_any (p : Int) (far : Nat) (w : World) :
    Calls Tryz.prog 63 #[.int .i64 p, .int .i64 (far : Int)] w fun e w' => e = .returned (.func (.func 103) #[] #[.pointer (some ⟨w.heap.size, 0, none⟩), .pointer (some ⟨w.heap.size + 1, 0, none⟩)]) ∧ w' = (w.alloc (.cells #[.int .i64 p] 3)).alloc (.cells #[.int .i64 (far : Int)] 3) := by
  go_enter Tryz.func63, Tryz.ntmps63
  go_wp2
  go_ret
  exact ⟨rfl, rfl⟩

set_option maxHeartbeats 1000000 in
theorem around1_in (n : Nat) (hn : 1 ≤ n) (l B1 B2 n₀ far : Nat) (p : Int) (hp : -100000 ≤ p ∧ p ≤ 100000) (hfar : far ≤ 100000) (h1 : B1 < n₀) (h2 : B2 < n₀) (J Jx : List Pl → World → Prop)
    (hY : ∀ pre (x : Pl) W, J pre W → pre.length < 2 * far + 1 → YieldAt Fence.wide (n - 1) Tryz.prog l #[.int .i64 x.1] W fun e W' =>
      (e = .returned (.bool true) ∧ J (pre ++ [x]) W' ∧ Below n₀ W W') ∨ (e = .returned (.bool false) ∧ Jx (pre ++ [x]) W'))
    (W : World) (hB1 : W.cell? ⟨B1, 0, none⟩ = some (.int .i64 p)) (hB2 : W.cell? ⟨B2, 0, none⟩ = some (.int .i64 (far : Int))) (h0 : J [] W) :
    CallsIn Fence.wide n Tryz.prog 103 #[.func (.yield l) #[] #[], .pointer (some ⟨B1, 0, none⟩), .pointer (some ⟨B2, 0, none⟩)] W fun e W' => (∃ v, e = .returned v) ∧
      ((∃ ys : List Pl, vals ys = aroundL p far ∧ J ys W') ∨ (∃ pre : List Pl, vals pre <+: aroundL p far ∧ Jx pre W')) := by
  refine callsIn_of_wp Tryz.func103 rfl trivial ?_ rfl
  simp only [Tryz.ntmps103, List.size_toArray, List.length_cons, List.length_nil, Nat.reduceAdd, Nat.reduceSub, Array.replicate_succ, Array.replicate_zero, List.push_toArray, List.append_toArray, List.nil_append, List.cons_append]
  obtain ⟨fn, tmps, assign, body, hy, hR⟩ := hY [] ⟨p, by omega, by omega⟩ W h0 (by simp)
  dsimp only at hy
  gi_wp2
  refine hR.mono ?_
  rintro e W3 (⟨rfl, hJ3, hk3⟩ | ⟨rfl, hJx3⟩)
  · gi_wp2
    gi_loopw [4] (fun i wr => ∃ (k : Nat) (pre : List Pl), k ≤ far ∧ i = .int .i64 ((k : Int) + 1) ∧ vals pre = aroundL p k ∧ J pre wr ∧ Below n₀ W wr)
      (fun i _ => far + 1 - (intOf i).toNat)
    case atStart => exact ⟨0, _, Nat.zero_le _, rfl, rfl, hJ3, hk3⟩
    case round =>
      obtain ⟨k, pre, hk, rfl, hpre, hJs, hnx⟩ := hrel
      have c1 : wr.cell? ⟨B1, 0, none⟩ = some (.int .i64 p) := (hnx.cell (p := ⟨B1, 0, none⟩) h1).trans hB1
      have c2 : wr.cell? ⟨B2, 0, none⟩ = some (.int .i64 (far : Int)) := (hnx.cell (p := ⟨B2, 0, none⟩) h2).trans hB2
      have hlen : pre.length = 2 * k + 1 := by rw [← aroundL_length p k, ← hpre, vals_length]
      have x1 : IntKind.i64.wrap (p + ((k : Int) + 1)) = p + ((k : Int) + 1) := by rw [IntKind.wrap_i64]; omega
      have x2 : IntKind.i64.wrap (p - ((k : Int) + 1)) = p - ((k : Int) + 1) := by rw [IntKind.wrap_i64]; omega
      have x3 : IntKind.i64.wrap ((k : Int) + 1 + 1) = (k : Int) + 1 + 1 := by rw [IntKind.wrap_i64]; omega
      by_cases hlt : k < far
      · have hle : (k : Int) + 1 ≤ far := by omega
        obtain ⟨fn, tmps, assign, body, hy, hR⟩ := hY pre ⟨p + ((k : Int) + 1), by omega, by omega⟩ wr hJs (by omega)
        dsimp only at hy
        gi_wp2
        refine hR.mono ?_
        rintro e W4 (⟨rfl, hJ4, hk4⟩ | ⟨rfl, hJx4⟩)
        · have c1' : W4.cell? ⟨B1, 0, none⟩ = some (.int .i64 p) := (hk4.cell (p := ⟨B1, 0, none⟩) h1).trans c1
          obtain ⟨fn, tmps, assign, body, hy, hR⟩ := hY _ ⟨p - ((k : Int) + 1), by omega, by omega⟩ W4 hJ4 (by rw [List.length_append, List.length_singleton]; omega)
          dsimp only at hy
          gi_wp2
          refine hR.mono ?_
          have hall : vals ((pre ++ [⟨p + ((k : Int) + 1), by omega, by omega⟩]) ++ [⟨p - ((k : Int) + 1), by omega, by omega⟩]) = aroundL p (k + 1) := by
            rw [vals_append, vals_append, hpre]; simp [aroundL, vals]
          rintro e W5 (⟨rfl, hJ5, hk5⟩ | ⟨rfl, hJx5⟩)
          · gi_wp2
            go_roundw
            case rel => exact ⟨k + 1, _, by omega, by push_cast; rfl, hall, hJ5, (hnx.trans hk4).trans hk5⟩
            case measure => simp [intOf]; omega
          · gi_wp2
            refine bodyPost_ret (results_none rfl _ _ _) rfl ?_
            exact ⟨⟨_, rfl⟩, .inr ⟨_, by rw [hall]; exact aroundL_prefix p (by omega), hJx5⟩⟩
        · gi_wp2
          refine ⟨fun _ h => (by cases h), ?_⟩
          gi_wp2
          refine bodyPost_ret (results_none rfl _ _ _) rfl ?_
          refine ⟨⟨_, rfl⟩, .inr ⟨_, ?_, hJx4⟩⟩
          rw [vals_append, hpre]
          refine List.IsPrefix.trans ?_ (aroundL_prefix p (show k + 1 ≤ far by omega))
          exact ⟨[p - ((k : Int) + 1)], by simp [aroundL, vals]⟩
      · have hle : ¬ ((k : Int) + 1 ≤ far) := by omega
        obtain rfl : k = far := by omega
        gi_wp2
        go_end0
        exact ⟨⟨_, rfl⟩, .inl ⟨_, hpre, hJs⟩⟩
  · gi_wp2
    refine bodyPost_ret (results_none rfl _ _ _) rfl ?_
    exact ⟨⟨_, rfl⟩, .inr ⟨[⟨p, by omega, by omega⟩], by exact aroundL_prefix p (Nat.zero_le far), hJx3⟩⟩
theorem around_stops (n : Nat) (hn : 1 ≤ n) (B1 B2 n₀ far : Nat) (p : Int) (hp : -100000 ≤ p ∧ p ≤ 100000) (hfar : far ≤ 100000) (h1 : B1 < n₀) (h2 : B2 < n₀) (w : World) (hn₀ : n₀ ≤ w.heap.size)
    (hB1 : w.cell? ⟨B1, 0, none⟩ = some (.int .i64 p)) (hB2 : w.cell? ⟨B2, 0, none⟩ = some (.int .i64 (far : Int))) :
    SeqStopsK Fence.wide n Tryz.prog 103 #[.pointer (some ⟨B1, 0, none⟩), .pointer (some ⟨B2, 0, none⟩)] (fun x : Pl => #[Value.int .i64 x.1]) (Below n₀) (fun ys => vals ys = aroundL p far) (fun pre => vals pre <+: aroundL p far) (2 * far + 1) w :=
  fun l J Jx W hW _ _ hY h0 => around1_in n hn l B1 B2 n₀ far p hp hfar h1 h2 J Jx hY W ((hW.cell (p := ⟨B1, 0, none⟩) (by show B1 < _; omega)).trans hB1) ((hW.cell (p := ⟨B2, 0, none⟩) (by show B2 < _; omega)).trans hB2) h0
end Go.Proofs.YtcclgodahlinbaaGreatDoor
