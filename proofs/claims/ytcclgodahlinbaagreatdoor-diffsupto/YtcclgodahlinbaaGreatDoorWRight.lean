import Derived.Test.YtcclgodahlinbaaGreatDoorWDiff
namespace Go.Proofs.YtcclgodahlinbaaGreatDoor
open Go.RowKit Go
set_option maxRecDepth 100000

theorem grownBy_drew {w w' : World} {r : Option Nat} (h : w.grownBy w' r) : w.grownBy w'.drew r := ⟨h.os, h.tape, h.output, h.size, h.block⟩

def placeM (f c : Nat) : Nat := if c = 0 then f else f - 1

set_option maxHeartbeats 400000 in
theorem mayStand_yes (f c : Nat) (w : World) (h1 : f ≤ 100000) (h2 : c ≤ 100000) (h3 : min c 1 ≤ f) :
    Calls Tryz.prog 105 #[.int .i64 f, .int .i64 c] w fun e w' => e = .returned (.bool true) ∧ w = w' := by
  have t1 : ¬ ((c : Int) < 0) := by omega
  have t2 : ¬ ((100000 : Int) < c) := by omega
  have t3 : ¬ ((100000 : Int) < f) := by omega
  have t4 : min (c : Int) 1 ≤ (f : Int) := by omega
  go_enter Tryz.func105, Tryz.ntmps105
  go_wp2
  go_ret
  exact ⟨rfl, rfl⟩

set_option maxHeartbeats 400000 in
theorem placeOf_any (f c : Nat) (w : World) (h1 : f ≤ 100000) (h3 : min c 1 ≤ f) :
    Calls Tryz.prog 59 #[.int .i64 f, .int .i64 c] w fun e w' => e = .returned (.int .i64 (placeM f c : Nat)) ∧ w = w' := by
  unfold placeM
  by_cases h : c = 0
  · subst h
    rw [if_pos rfl]
    go_enter Tryz.func59, Tryz.ntmps59
    go_wp2
    go_ret
    exact ⟨rfl, rfl⟩
  · rw [if_neg h]
    have t1 : (((c : Nat) : Int) == 0) = false := by rw [beq_eq_false_iff_ne]; omega
    go_enter Tryz.func59, Tryz.ntmps59
    go_wp2
    go_ret
    exact ⟨ret_int (by omega), rfl⟩

abbrev hunkVal (h : HunkM) (v : Value) : Value := .agg #[.int .i64 (h.fr : Int), .int .i64 (h.fc : Int), .int .i64 (h.tr : Int), .int .i64 (h.tc : Int), v]

def fitsM (h : HunkM) (en : Nat) (gr : Int) : Bool :=
  decide (h.fr ≤ 100000) && decide (h.fc ≤ 100000) && decide (min h.fc 1 ≤ h.fr) && decide (h.tr ≤ 100000) && decide (h.tc ≤ 100000) && decide (min h.tc 1 ≤ h.tr) &&
  decide (en ≤ placeM h.fr h.fc) && decide ((placeM h.tr h.tc : Int) = placeM h.fr h.fc + gr)

set_option maxHeartbeats 1000000 in
theorem take_yes {S en : Nat} {gr : Int} (h : HunkM) (a : Option Addr) (n cap : Nat) (w : World) (hok : fitsM h en gr = true) (hS : w.heap[S]? = some (.cells #[.int .i64 (en : Int), .int .i64 gr] 84 (0, 0))) (hg1 : -1000000000 ≤ gr) (hg2 : gr ≤ 1000000000) :
    Calls Tryz.prog 68 #[.pointer (some ⟨S, 0, none⟩), hunkVal h (.slice a n cap)] w fun e w' =>
      e = .returned (.bool true) ∧ w'.heap[S]? = some (.cells #[.int .i64 ((placeM h.fr h.fc + h.fc : Nat) : Int), .int .i64 (gr + h.tc - h.fc)] 84 (0, 0)) ∧ w.grownBy w' (some S) := by
  unfold fitsM at hok
  simp only [Bool.and_eq_true, decide_eq_true_eq] at hok
  obtain ⟨⟨⟨⟨⟨⟨⟨f1, f2⟩, f3⟩, f4⟩, f5⟩, f6⟩, f7⟩, f8⟩ := hok
  have c0 := cell_of (k := 0) hS rfl
  have c1 := cell_of (k := 1) hS rfl
  have z := fun k => frozen_of (k := k) hS
  have hSw : S < w.heap.size := (Array.getElem?_eq_some_iff.1 hS).1
  have m1 := fun w => mayStand_yes h.fr h.fc w f1 f2 f3
  have m2 := fun w => mayStand_yes h.tr h.tc w f4 f5 f6
  have p1 := fun w => placeOf_any h.fr h.fc w f1 f3
  have p2 : Hid (∀ ob n, Calls Tryz.prog 59 #[.int .i64 (h.tr : Int), .int .i64 (h.tc : Int)] ((w.alloc ob).drewN n) fun e w'' => e = .returned (.int .i64 (placeM h.tr h.tc : Nat)) ∧ ∃ k, w'' = (w.alloc ob).drewN k) :=
    fun ob n => (placeOf_any h.tr h.tc _ f4 f6).mono fun _ _ ⟨he, hm⟩ => ⟨he, n, hm.symm⟩
  have hpl : placeM h.fr h.fc ≤ 100000 := by unfold placeM; split <;> omega
  generalize placeM h.fr h.fc = PL at *
  generalize placeM h.tr h.tc = PT at *
  have f7' : ¬ ((PL : Int) < (en : Int)) := by omega
  have f7'' : decide ((PL : Int) < (en : Int)) = false := decide_eq_false f7'
  have f8' : ((PT : Int) == (PL : Int) + gr) = true := by simp [f8]
  have f8'' : ((PT : Int) != (PL : Int) + gr) = false := by simp [f8]
  have f8h : Hid ((PT : Int) = PL + gr) := f8
  clear f8
  go_enter Tryz.func68, Tryz.ntmps68
  go_wp2_with (first | (go_at_call 105; refine (m1 _).mono ?_; clear m1; rintro e w' ⟨rfl, rfl⟩) | (go_at_call 105; refine (m2 _).mono ?_; rintro e w' ⟨rfl, rfl⟩) | (go_at_call 59; refine (p1 _).mono ?_; rintro e w' ⟨rfl, rfl⟩))
  have w1 : IntKind.i64.wrap ((PL : Int) + gr) = (PL : Int) + gr := by rw [IntKind.wrap_i64]; omega
  have w2 : IntKind.i64.wrap ((h.tc : Int) - h.fc) = (h.tc : Int) - h.fc := by rw [IntKind.wrap_i64]; omega
  have w3 : IntKind.i64.wrap (gr + ((h.tc : Int) - h.fc)) = gr + ((h.tc : Int) - h.fc) := by rw [IntKind.wrap_i64]; omega
  go_quiet ((go_at_call 59; exact p2.out _ _))
  go_wp2_with fail
  refine wp_still_tail 12 mixed (by kernel_rfl) ?_
  simp only [List.take_succ_cons, List.take_zero, List.drop_succ_cons, List.drop_zero]
  repeat still_step
  refine wpStill_nil ?_
  go_wp2_with fail
  go_ret
  refine ⟨rfl, ?_, ?_⟩
  · have e1 : ((PL + h.fc : Nat) : Int) = (PL : Int) + h.fc := by omega
    have e2 : gr + h.tc - h.fc = gr + ((h.tc : Int) - h.fc) := by omega
    rw [e1, e2]
    exact heap_setCell_same _ _ _ _ _ _ _ (heap_setCell_same _ _ _ _ _ _ _ ((Below.heap_alloc w _ S hSw).trans hS))
  · exact grownBy_drew (grownBy_trans (grownBy_trans (grownBy_drewN (World.grownBy_alloc w _ (some S))) (grownBy_setCell _ _ _ _)) (grownBy_setCell _ _ _ _))

/-! ### rest -/
theorem restOf_any (h : HunkM) (a : Option Addr) (n cap : Nat) (w : World) : Calls Tryz.prog 106 #[hunkVal h (.slice a n cap)] w fun e w' =>
    e = .returned (.agg #[.int .i64 (h.fc : Int), .int .i64 (h.tc : Int), .bool false]) ∧ Below w.heap.size w w' := by
  go_enter Tryz.func106, Tryz.ntmps106
  go_wp2
  refine bodyPost_ret (v := .agg #[.int .i64 (h.fc : Int), .int .i64 (h.tc : Int), .bool false]) (by simp [results, Tryz.results106, go_sem]) rfl ⟨rfl, ?_⟩
  exact ((Below.refl _ _).alloc (Nat.le_refl _) _).alloc (by simp) _

/-- how many lines of either text a kind takes -/
def kf (k : Nat) : Nat := if k = 43 then 0 else 1
def kt (k : Nat) : Nat := if k = 45 then 0 else 1

set_option maxHeartbeats 1000000 in
theorem resttake_yes {R f t k : Nat} {b : Bool} (w : World) (hR : w.heap[R]? = some (.cells #[.int .i64 (f : Int), .int .i64 (t : Int), .bool b] 86 (0, 0))) (hk : k = 32 ∨ k = 45 ∨ k = 43) (hf : kf k ≤ f) (ht : kt k ≤ t) (hf2 : f ≤ 1000000) (ht2 : t ≤ 1000000) :
    Calls Tryz.prog 78 #[.pointer (some ⟨R, 0, none⟩), .int .u8 (k : Nat)] w fun e w' =>
      e = .returned (.bool true) ∧ w'.heap[R]? = some (.cells #[.int .i64 ((f - kf k : Nat) : Int), .int .i64 ((t - kt k : Nat) : Int), .bool (b || decide (k ≠ 32))] 86 (0, 0)) ∧ w.grownBy w' (some R) := by
  have c0 := cell_of (k := 0) hR rfl
  have c1 := cell_of (k := 1) hR rfl
  have c2 := cell_of (k := 2) hR rfl
  have z := fun k => frozen_of (k := k) hR
  rcases hk with rfl | rfl | rfl
  · have e1 : ((f - kf 32 : Nat) : Int) = (f : Int) - 1 := by simp [kf] at hf ⊢; omega
    have e2 : ((t - kt 32 : Nat) : Int) = (t : Int) - 1 := by simp [kt] at ht ⊢; omega
    have g1 : 0 ≤ (f : Int) - 1 := by simp [kf] at hf; omega
    have g2 : 0 ≤ (t : Int) - 1 := by simp [kt] at ht; omega
    have g3 : (1 : Int) ≤ f := by omega
    have g4 : (1 : Int) ≤ t := by omega
    rw [e1, e2]
    clear e1 e2 hf ht
    cases b
    · go_enter Tryz.func78, Tryz.ntmps78
      go_wp2
      go_ret
      exact ⟨rfl, heap_setCell_same _ _ _ _ _ _ _ (heap_setCell_same _ _ _ _ _ _ _ (heap_setCell_same _ _ _ _ _ _ _ hR)), grownBy_trans (grownBy_trans (grownBy_setCell _ _ _ _) (grownBy_setCell _ _ _ _)) (grownBy_setCell _ _ _ _)⟩
    · go_enter Tryz.func78, Tryz.ntmps78
      go_wp2
      go_ret
      exact ⟨rfl, heap_setCell_same _ _ _ _ _ _ _ (heap_setCell_same _ _ _ _ _ _ _ (heap_setCell_same _ _ _ _ _ _ _ hR)), grownBy_trans (grownBy_trans (grownBy_setCell _ _ _ _) (grownBy_setCell _ _ _ _)) (grownBy_setCell _ _ _ _)⟩
  · have e1 : ((f - kf 45 : Nat) : Int) = (f : Int) - 1 := by simp [kf] at hf ⊢; omega
    have e2 : ((t - kt 45 : Nat) : Int) = (t : Int) := by simp [kt]
    have g1 : 0 ≤ (f : Int) - 1 := by simp [kf] at hf; omega
    have g3 : (1 : Int) ≤ f := by omega
    rw [e1, e2]
    clear e1 e2 hf ht
    cases b
    · go_enter Tryz.func78, Tryz.ntmps78
      go_wp2
      go_ret
      exact ⟨rfl, heap_setCell_same _ _ _ _ _ _ _ (heap_setCell_same _ _ _ _ _ _ _ hR), grownBy_trans (grownBy_setCell _ _ _ _) (grownBy_setCell _ _ _ _)⟩
    · go_enter Tryz.func78, Tryz.ntmps78
      go_wp2
      go_ret
      exact ⟨rfl, heap_setCell_same _ _ _ _ _ _ _ (heap_setCell_same _ _ _ _ _ _ _ hR), grownBy_trans (grownBy_setCell _ _ _ _) (grownBy_setCell _ _ _ _)⟩
  · have e1 : ((f - kf 43 : Nat) : Int) = (f : Int) := by simp [kf]
    have e2 : ((t - kt 43 : Nat) : Int) = (t : Int) - 1 := by simp [kt] at ht ⊢; omega
    have g2 : 0 ≤ (t : Int) - 1 := by simp [kt] at ht; omega
    have g4 : (1 : Int) ≤ t := by omega
    rw [e1, e2]
    clear e1 e2 hf ht
    cases b
    · go_enter Tryz.func78, Tryz.ntmps78
      go_wp2
      go_ret
      exact ⟨rfl, heap_setCell_same _ _ _ _ _ _ _ (heap_setCell_same _ _ _ _ _ _ _ hR), grownBy_trans (grownBy_setCell _ _ _ _) (grownBy_setCell _ _ _ _)⟩
    · go_enter Tryz.func78, Tryz.ntmps78
      go_wp2
      go_ret
      exact ⟨rfl, heap_setCell_same _ _ _ _ _ _ _ (heap_setCell_same _ _ _ _ _ _ _ hR), grownBy_trans (grownBy_setCell _ _ _ _) (grownBy_setCell _ _ _ _)⟩

theorem full_yes (b : Bool) (w : World) : Calls Tryz.prog 76 #[.agg #[.int .i64 0, .int .i64 0, .bool b]] w fun e w' => e = .returned (.bool true) ∧ Below w.heap.size w w' := by
  go_enter Tryz.func76, Tryz.ntmps76
  go_wp2
  go_ret
  exact ⟨rfl, (Below.refl _ _).alloc (Nat.le_refl _) _⟩
set_option maxHeartbeats 400000 in
theorem done_yes (w : World) : Calls Tryz.prog 80 #[.agg #[.int .i64 0, .int .i64 0, .bool true]] w fun e w' => e = .returned (.bool true) ∧ Below w.heap.size w w' := by
  have hf := full_yes true (w.alloc (.cells #[.int .i64 0, .int .i64 0, .bool true] 86))
  go_enter Tryz.func80, Tryz.ntmps80
  go_wp2_with (go_at_call 76; refine hf.mono ?_; rintro e w' ⟨rfl, hb⟩; have c2 : w'.cell? ⟨w.heap.size, 2, none⟩ = some (.bool true) := (hb.cell (p := ⟨w.heap.size, 2, none⟩) (by simp)).trans (cell_of (heap_alloc_new w _) rfl))
  go_ret
  exact ⟨rfl, ((Below.refl _ _).alloc (Nat.le_refl _) _).trans (hb.mono (by simp))⟩
end Go.Proofs.YtcclgodahlinbaaGreatDoor
