import Derived.Test.YtcclgodahlinbaaGreatDoorPatchesuptoT04
import Derived.Test.YtcclgodahlinbaaGreatDoorPatchesuptoT03
import Derived.Lib.AtoiAllCases
import Derived.Lib.AtoiTie
import Derived.Lib.ItoaMem
import Derived.Lib.CutLaws
import Derived.Test.YtcclgodahlinbaaGreatDoorPatchesuptoT02
namespace Go.Proofs.YtcclgodahlinbaaGreatDoor
open Go.RowKit Go
set_option maxRecDepth 100000
set_option maxHeartbeats 1000000 in
theorem mayStand_any (f c : Int) (w : World) : Calls Tryz.prog 105 #[.int .i64 f, .int .i64 c] w fun e w' => e = .returned (.bool (numOk f c)) ∧ w = w' := by
  by_cases t1 : c < 0
  · rw [show numOk f c = false by rw [Bool.eq_false_iff]; intro h; rw [numOk_iff] at h; omega]
    go_enter Tryz.func105, Tryz.ntmps105
    go_wp2
    go_ret
    exact ⟨rfl, rfl⟩
  · by_cases t2 : 100000 < c
    · rw [show numOk f c = false by rw [Bool.eq_false_iff]; intro h; rw [numOk_iff] at h; omega]
      go_enter Tryz.func105, Tryz.ntmps105
      go_wp2
      go_ret
      exact ⟨rfl, rfl⟩
    · by_cases t3 : 100000 < f
      · rw [show numOk f c = false by rw [Bool.eq_false_iff]; intro h; rw [numOk_iff] at h; omega]
        go_enter Tryz.func105, Tryz.ntmps105
        go_wp2
        go_ret
        exact ⟨rfl, rfl⟩
      · by_cases t4 : min c 1 ≤ f
        · rw [show numOk f c = true by rw [numOk_iff]; omega]
          go_enter Tryz.func105, Tryz.ntmps105
          go_wp2
          go_ret
          exact ⟨rfl, rfl⟩
        · rw [show numOk f c = false by rw [Bool.eq_false_iff]; intro h; rw [numOk_iff] at h; omega]
          go_enter Tryz.func105, Tryz.ntmps105
          go_wp2
          go_ret
          exact ⟨rfl, rfl⟩
set_option maxHeartbeats 400000 in
theorem placeOf_int (f c : Int) (w : World) (h : numOk f c = true) : Calls Tryz.prog 59 #[.int .i64 f, .int .i64 c] w fun e w' => e = .returned (.int .i64 (placeI f c)) ∧ w = w' := by
  rw [numOk_iff] at h
  unfold placeI
  by_cases hc : c = 0
  · subst hc
    rw [if_neg (by omega)]
    go_enter Tryz.func59, Tryz.ntmps59
    go_wp2
    go_ret
    exact ⟨rfl, rfl⟩
  · rw [if_pos (by omega)]
    have t1 : (c == 0) = false := by rw [beq_eq_false_iff_ne]; exact hc
    go_enter Tryz.func59, Tryz.ntmps59
    go_wp2
    go_ret
    exact ⟨rfl, rfl⟩
theorem fits_no1 {h : HI} {en gr : Int} (n : numOk h.fr h.fc = false) : fitsI h en gr = false := by unfold fitsI; rw [n]; rfl
theorem fits_no2 {h : HI} {en gr : Int} (n : numOk h.tr h.tc = false) : fitsI h en gr = false := by unfold fitsI; rw [n]; simp
theorem fits_no3 {h : HI} {en gr : Int} (n : placeI h.fr h.fc < en) : fitsI h en gr = false := by unfold fitsI; rw [show decide (en ≤ placeI h.fr h.fc) = false from decide_eq_false (by omega)]; simp
theorem fits_no4 {h : HI} {en gr : Int} (n : placeI h.tr h.tc ≠ placeI h.fr h.fc + gr) : fitsI h en gr = false := by unfold fitsI; rw [show decide (placeI h.tr h.tc = placeI h.fr h.fc + gr) = false from decide_eq_false n]; simp
set_option maxHeartbeats 4000000 in
theorem take_anyS {S : Nat} {en gr : Int} (h : HI) (a : Option Addr) (n cap : Nat) (w : World) (hS : w.heap[S]? = some (.cells #[.int .i64 en, .int .i64 gr] 84 (0, 0))) (hg1 : -1000000000000 ≤ gr) (hg2 : gr ≤ 1000000000000) :
    Calls Tryz.prog 68 #[.pointer (some ⟨S, 0, none⟩), hiVal h (.slice a n cap)] w fun e w' =>
      e = .returned (.bool (fitsI h en gr)) ∧ (fitsI h en gr = true → w'.heap[S]? = some (.cells #[.int .i64 (placeI h.fr h.fc + h.fc), .int .i64 (gr + h.tc - h.fc)] 84 (0, 0))) ∧ w.grownBy w' (some S) := by
  have c0 : w.cell? ⟨S, 0, none⟩ = some (.int .i64 en) := cell_of (k := 0) hS rfl
  have c1 : w.cell? ⟨S, 1, none⟩ = some (.int .i64 gr) := cell_of (k := 1) hS rfl
  have z : ∀ k, w.frozen? ⟨S, k, none⟩ = false := fun k => frozen_of (k := k) hS
  have hSw : S < w.heap.size := (Array.getElem?_eq_some_iff.1 hS).1
  have m1 := fun w => mayStand_any h.fr h.fc w
  have m2 := fun w => mayStand_any h.tr h.tc w
  cases n1 : numOk h.fr h.fc with
  | false =>
    rw [fits_no1 n1]
    rw [n1] at m1
    clear n1 m2
    go_enter Tryz.func68, Tryz.ntmps68
    go_wp2_with (go_at_call 105; refine (m1 _).mono ?_; rintro e w' ⟨rfl, rfl⟩)
    go_ret
    exact ⟨rfl, fun h => (by cases h), World.grownBy_alloc w _ (some S)⟩
  | true =>
    cases n2 : numOk h.tr h.tc with
    | false =>
      rw [fits_no2 n2]
      rw [n1] at m1
      rw [n2] at m2
      clear n1 n2
      go_enter Tryz.func68, Tryz.ntmps68
      go_wp2_with (first | (go_at_call 105; refine (m1 _).mono ?_; clear m1; rintro e w' ⟨rfl, rfl⟩) | (go_at_call 105; refine (m2 _).mono ?_; rintro e w' ⟨rfl, rfl⟩))
      go_ret
      exact ⟨rfl, fun h => (by cases h), World.grownBy_alloc w _ (some S)⟩
    | true =>
      have p1 := fun w => placeOf_int h.fr h.fc w n1
      have p2 : Hid (∀ ob n, Calls Tryz.prog 59 #[.int .i64 h.tr, .int .i64 h.tc] ((w.alloc ob).drewN n) fun e w'' => e = .returned (.int .i64 (placeI h.tr h.tc)) ∧ ∃ k, w'' = (w.alloc ob).drewN k) :=
        fun ob n => (placeOf_int h.tr h.tc _ n2).mono fun _ _ ⟨he, hm⟩ => ⟨he, n, hm.symm⟩
      obtain ⟨r1, r2⟩ := place_range n1
      have hN1 := numOk_iff.1 n1
      have hN2 := numOk_iff.1 n2
      have b1 : 0 ≤ h.fc ∧ h.fc ≤ 100000 := ⟨hN1.2.2.1, hN1.2.2.2.1⟩
      have b2 : 0 ≤ h.tc ∧ h.tc ≤ 100000 := ⟨hN2.2.2.1, hN2.2.2.2.1⟩
      clear hN1 hN2
      have q3 := fun n => fits_no3 (h := h) (en := en) (gr := gr) n
      have q4 := fun n => fits_no4 (h := h) (en := en) (gr := gr) n
      have q5 : en ≤ placeI h.fr h.fc → placeI h.tr h.tc = placeI h.fr h.fc + gr → fitsI h en gr = true := fun x y => fitsI_iff.2 ⟨n1, n2, x, y⟩
      rw [n1] at m1
      rw [n2] at m2
      generalize placeI h.fr h.fc = PL at *
      generalize placeI h.tr h.tc = PT at *
      clear n1 n2
      by_cases hc : PL < en
      · have f7'' : decide (PL < en) = true := decide_eq_true hc
        rw [q3 hc]
        clear q3 q4 q5
        go_enter Tryz.func68, Tryz.ntmps68
        go_wp2_with (first | (go_at_call 105; refine (m1 _).mono ?_; clear m1; rintro e w' ⟨rfl, rfl⟩) | (go_at_call 105; refine (m2 _).mono ?_; rintro e w' ⟨rfl, rfl⟩) | (go_at_call 59; refine (p1 _).mono ?_; rintro e w' ⟨rfl, rfl⟩))
        have w1 : IntKind.i64.wrap (PL + gr) = PL + gr := by rw [IntKind.wrap_i64]; omega
        go_quiet ((go_at_call 59; exact p2.out _ _))
        go_wp2_with fail
        go_ret
        exact ⟨rfl, fun h => (by cases h), grownBy_drewN (World.grownBy_alloc w _ (some S))⟩
      · have f7'' : decide (PL < en) = false := decide_eq_false hc
        by_cases f8 : PT = PL + gr
        · have f8' : (PT == PL + gr) = true := by simp [f8]
          have f8'' : (PT != PL + gr) = false := by simp [f8]
          rw [q5 (by omega) f8]
          clear f8 q3 q4 q5
          go_enter Tryz.func68, Tryz.ntmps68
          go_wp2_with (first | (go_at_call 105; refine (m1 _).mono ?_; clear m1; rintro e w' ⟨rfl, rfl⟩) | (go_at_call 105; refine (m2 _).mono ?_; rintro e w' ⟨rfl, rfl⟩) | (go_at_call 59; refine (p1 _).mono ?_; rintro e w' ⟨rfl, rfl⟩))
          have w1 : IntKind.i64.wrap (PL + gr) = PL + gr := by rw [IntKind.wrap_i64]; omega
          have w2 : IntKind.i64.wrap (h.tc - h.fc) = h.tc - h.fc := by rw [IntKind.wrap_i64]; omega
          have w3 : IntKind.i64.wrap (gr + (h.tc - h.fc)) = gr + (h.tc - h.fc) := by rw [IntKind.wrap_i64]; omega
          go_quiet ((go_at_call 59; exact p2.out _ _))
          go_wp2_with fail
          refine wp_still_tail 12 mixed (by kernel_rfl) ?_
          simp only [List.take_succ_cons, List.take_zero, List.drop_succ_cons, List.drop_zero]
          repeat still_step
          refine wpStill_nil ?_
          go_wp2_with fail
          go_ret
          refine ⟨rfl, fun _ => ?_, ?_⟩
          · have e2 : gr + h.tc - h.fc = gr + (h.tc - h.fc) := by omega
            rw [e2]
            exact heap_setCell_same _ _ _ _ _ _ _ (heap_setCell_same _ _ _ _ _ _ _ ((Below.heap_alloc w _ S hSw).trans hS))
          · exact grownBy_drew (grownBy_trans (grownBy_trans (grownBy_drewN (World.grownBy_alloc w _ (some S))) (grownBy_setCell _ _ _ _)) (grownBy_setCell _ _ _ _))
        · have f8' : (PT == PL + gr) = false := by simpa using f8
          have f8'' : (PT != PL + gr) = true := by simpa using f8
          rw [q4 f8]
          clear f8 q3 q4 q5
          go_enter Tryz.func68, Tryz.ntmps68
          go_wp2_with (first | (go_at_call 105; refine (m1 _).mono ?_; clear m1; rintro e w' ⟨rfl, rfl⟩) | (go_at_call 105; refine (m2 _).mono ?_; rintro e w' ⟨rfl, rfl⟩) | (go_at_call 59; refine (p1 _).mono ?_; rintro e w' ⟨rfl, rfl⟩))
          have w1 : IntKind.i64.wrap (PL + gr) = PL + gr := by rw [IntKind.wrap_i64]; omega
          go_quiet ((go_at_call 59; exact p2.out _ _))
          go_wp2_with fail
          go_ret
          exact ⟨rfl, fun h => (by cases h), grownBy_drewN (World.grownBy_alloc w _ (some S))⟩
set_option maxHeartbeats 4000000 in
theorem take_anyR {S : Nat} {en gr : Int} {vh vf vt vb : Value} (h : HI) (a : Option Addr) (n cap : Nat) (w : World) (hS : w.heap[S]? = some (.cells #[vh, .int .i64 en, .int .i64 gr, vf, vt, vb] 88 (0, 0))) (hg1 : -1000000000000 ≤ gr) (hg2 : gr ≤ 1000000000000) :
    Calls Tryz.prog 68 #[.pointer (some ⟨S, 1, none⟩), hiVal h (.slice a n cap)] w fun e w' =>
      e = .returned (.bool (fitsI h en gr)) ∧ (fitsI h en gr = true → w'.heap[S]? = some (.cells #[vh, .int .i64 (placeI h.fr h.fc + h.fc), .int .i64 (gr + h.tc - h.fc), vf, vt, vb] 88 (0, 0))) ∧ w.grownBy w' (some S) := by
  have c0 : w.cell? ⟨S, 1, none⟩ = some (.int .i64 en) := cell_of (k := 1) hS rfl
  have c1 : w.cell? ⟨S, 2, none⟩ = some (.int .i64 gr) := cell_of (k := 2) hS rfl
  have z : ∀ k, w.frozen? ⟨S, k, none⟩ = false := fun k => frozen_of (k := k) hS
  have hSw : S < w.heap.size := (Array.getElem?_eq_some_iff.1 hS).1
  have m1 := fun w => mayStand_any h.fr h.fc w
  have m2 := fun w => mayStand_any h.tr h.tc w
  cases n1 : numOk h.fr h.fc with
  | false =>
    rw [fits_no1 n1]
    rw [n1] at m1
    clear n1 m2
    go_enter Tryz.func68, Tryz.ntmps68
    go_wp2_with (go_at_call 105; refine (m1 _).mono ?_; rintro e w' ⟨rfl, rfl⟩)
    go_ret
    exact ⟨rfl, fun h => (by cases h), World.grownBy_alloc w _ (some S)⟩
  | true =>
    cases n2 : numOk h.tr h.tc with
    | false =>
      rw [fits_no2 n2]
      rw [n1] at m1
      rw [n2] at m2
      clear n1 n2
      go_enter Tryz.func68, Tryz.ntmps68
      go_wp2_with (first | (go_at_call 105; refine (m1 _).mono ?_; clear m1; rintro e w' ⟨rfl, rfl⟩) | (go_at_call 105; refine (m2 _).mono ?_; rintro e w' ⟨rfl, rfl⟩))
      go_ret
      exact ⟨rfl, fun h => (by cases h), World.grownBy_alloc w _ (some S)⟩
    | true =>
      have p1 := fun w => placeOf_int h.fr h.fc w n1
      have p2 : Hid (∀ ob n, Calls Tryz.prog 59 #[.int .i64 h.tr, .int .i64 h.tc] ((w.alloc ob).drewN n) fun e w'' => e = .returned (.int .i64 (placeI h.tr h.tc)) ∧ ∃ k, w'' = (w.alloc ob).drewN k) :=
        fun ob n => (placeOf_int h.tr h.tc _ n2).mono fun _ _ ⟨he, hm⟩ => ⟨he, n, hm.symm⟩
      obtain ⟨r1, r2⟩ := place_range n1
      have hN1 := numOk_iff.1 n1
      have hN2 := numOk_iff.1 n2
      have b1 : 0 ≤ h.fc ∧ h.fc ≤ 100000 := ⟨hN1.2.2.1, hN1.2.2.2.1⟩
      have b2 : 0 ≤ h.tc ∧ h.tc ≤ 100000 := ⟨hN2.2.2.1, hN2.2.2.2.1⟩
      clear hN1 hN2
      have q3 := fun n => fits_no3 (h := h) (en := en) (gr := gr) n
      have q4 := fun n => fits_no4 (h := h) (en := en) (gr := gr) n
      have q5 : en ≤ placeI h.fr h.fc → placeI h.tr h.tc = placeI h.fr h.fc + gr → fitsI h en gr = true := fun x y => fitsI_iff.2 ⟨n1, n2, x, y⟩
      rw [n1] at m1
      rw [n2] at m2
      generalize placeI h.fr h.fc = PL at *
      generalize placeI h.tr h.tc = PT at *
      clear n1 n2
      by_cases hc : PL < en
      · have f7'' : decide (PL < en) = true := decide_eq_true hc
        rw [q3 hc]
        clear q3 q4 q5
        go_enter Tryz.func68, Tryz.ntmps68
        go_wp2_with (first | (go_at_call 105; refine (m1 _).mono ?_; clear m1; rintro e w' ⟨rfl, rfl⟩) | (go_at_call 105; refine (m2 _).mono ?_; rintro e w' ⟨rfl, rfl⟩) | (go_at_call 59; refine (p1 _).mono ?_; rintro e w' ⟨rfl, rfl⟩))
        have w1 : IntKind.i64.wrap (PL + gr) = PL + gr := by rw [IntKind.wrap_i64]; omega
        go_quiet ((go_at_call 59; exact p2.out _ _))
        go_wp2_with fail
        go_ret
        exact ⟨rfl, fun h => (by cases h), grownBy_drewN (World.grownBy_alloc w _ (some S))⟩
      · have f7'' : decide (PL < en) = false := decide_eq_false hc
        by_cases f8 : PT = PL + gr
        · have f8' : (PT == PL + gr) = true := by simp [f8]
          have f8'' : (PT != PL + gr) = false := by simp [f8]
          rw [q5 (by omega) f8]
          clear f8 q3 q4 q5
          go_enter Tryz.func68, Tryz.ntmps68
          go_wp2_with (first | (go_at_call 105; refine (m1 _).mono ?_; clear m1; rintro e w' ⟨rfl, rfl⟩) | (go_at_call 105; refine (m2 _).mono ?_; rintro e w' ⟨rfl, rfl⟩) | (go_at_call 59; refine (p1 _).mono ?_; rintro e w' ⟨rfl, rfl⟩))
          have w1 : IntKind.i64.wrap (PL + gr) = PL + gr := by rw [IntKind.wrap_i64]; omega
          have w2 : IntKind.i64.wrap (h.tc - h.fc) = h.tc - h.fc := by rw [IntKind.wrap_i64]; omega
          have w3 : IntKind.i64.wrap (gr + (h.tc - h.fc)) = gr + (h.tc - h.fc) := by rw [IntKind.wrap_i64]; omega
          go_quiet ((go_at_call 59; exact p2.out _ _))
          go_wp2_with fail
          refine wp_still_tail 12 mixed (by kernel_rfl) ?_
          simp only [List.take_succ_cons, List.take_zero, List.drop_succ_cons, List.drop_zero]
          repeat still_step
          refine wpStill_nil ?_
          go_wp2_with fail
          go_ret
          refine ⟨rfl, fun _ => ?_, ?_⟩
          · have e2 : gr + h.tc - h.fc = gr + (h.tc - h.fc) := by omega
            rw [e2]
            exact heap_setCell_same _ _ _ _ _ _ _ (heap_setCell_same _ _ _ _ _ _ _ ((Below.heap_alloc w _ S hSw).trans hS))
          · exact grownBy_drew (grownBy_trans (grownBy_trans (grownBy_drewN (World.grownBy_alloc w _ (some S))) (grownBy_setCell _ _ _ _)) (grownBy_setCell _ _ _ _))
        · have f8' : (PT == PL + gr) = false := by simpa using f8
          have f8'' : (PT != PL + gr) = true := by simpa using f8
          rw [q4 f8]
          clear f8 q3 q4 q5
          go_enter Tryz.func68, Tryz.ntmps68
          go_wp2_with (first | (go_at_call 105; refine (m1 _).mono ?_; clear m1; rintro e w' ⟨rfl, rfl⟩) | (go_at_call 105; refine (m2 _).mono ?_; rintro e w' ⟨rfl, rfl⟩) | (go_at_call 59; refine (p1 _).mono ?_; rintro e w' ⟨rfl, rfl⟩))
          have w1 : IntKind.i64.wrap (PL + gr) = PL + gr := by rw [IntKind.wrap_i64]; omega
          go_quiet ((go_at_call 59; exact p2.out _ _))
          go_wp2_with fail
          go_ret
          exact ⟨rfl, fun h => (by cases h), grownBy_drewN (World.grownBy_alloc w _ (some S))⟩
theorem restOf_int (h : HI) (a : Option Addr) (n cap : Nat) (w : World) : Calls Tryz.prog 106 #[hiVal h (.slice a n cap)] w fun e w' =>
    e = .returned (.agg #[.int .i64 h.fc, .int .i64 h.tc, .bool false]) ∧ Below w.heap.size w w' := by
  go_enter Tryz.func106, Tryz.ntmps106
  go_wp2
  refine bodyPost_ret (v := .agg #[.int .i64 h.fc, .int .i64 h.tc, .bool false]) (by simp [results, Tryz.results106, go_sem]) rfl ⟨rfl, ?_⟩
  exact ((Below.refl _ _).alloc (Nat.le_refl _) _).alloc (by simp) _
def kF (k : Nat) : Int := if k = 43 then 0 else 1
def kT (k : Nat) : Int := if k = 45 then 0 else 1
def takeOk (k : Nat) (f t : Int) : Bool := kindOk k && decide (0 ≤ f - kF k) && decide (0 ≤ t - kT k)
set_option maxHeartbeats 4000000 in
theorem resttake_anyS {R k : Nat} {f t : Int} {b : Bool} (w : World) (hR : w.heap[R]? = some (.cells #[.int .i64 f, .int .i64 t, .bool b] 86 (0, 0))) (hk : k < 256) (hf0 : 0 ≤ f) (ht0 : 0 ≤ t) (hf2 : f ≤ 1000000) (ht2 : t ≤ 1000000) :
    Calls Tryz.prog 78 #[.pointer (some ⟨R, 0, none⟩), .int .u8 (k : Nat)] w fun e w' =>
      e = .returned (.bool (takeOk k f t)) ∧ (takeOk k f t = true → w'.heap[R]? = some (.cells #[.int .i64 (f - kF k), .int .i64 (t - kT k), .bool (b || k != 32)] 86 (0, 0))) ∧ w.grownBy w' (some R) := by
  have c0 : w.cell? ⟨R, 0, none⟩ = some (.int .i64 f) := cell_of (k := 0) hR rfl
  have c1 : w.cell? ⟨R, 1, none⟩ = some (.int .i64 t) := cell_of (k := 1) hR rfl
  have c2 : w.cell? ⟨R, 2, none⟩ = some (.bool b) := cell_of (k := 2) hR rfl
  have z : ∀ k, w.frozen? ⟨R, k, none⟩ = false := fun k => frozen_of (k := k) hR
  by_cases k1 : k = 32
  · subst k1
    have e1 : f - kF 32 = f - 1 := rfl
    have e2 : t - kT 32 = t - 1 := rfl
    rw [e1, e2]
    by_cases g1 : 1 ≤ f
    · by_cases g2 : 1 ≤ t
      · rw [show takeOk 32 f t = true by simp [takeOk, kindOk, kF, kT]; omega]
        have g3 : 0 ≤ f - 1 := by omega
        have g4 : 0 ≤ t - 1 := by omega
        cases b
        · go_enter Tryz.func78, Tryz.ntmps78
          go_wp2
          go_ret
          exact ⟨rfl, fun _ => (heap_setCell_same _ _ _ _ _ _ _ (heap_setCell_same _ _ _ _ _ _ _ (heap_setCell_same _ _ _ _ _ _ _ hR))), (grownBy_trans (grownBy_trans (grownBy_setCell _ _ _ _) (grownBy_setCell _ _ _ _)) (grownBy_setCell _ _ _ _))⟩
        · go_enter Tryz.func78, Tryz.ntmps78
          go_wp2
          go_ret
          exact ⟨rfl, fun _ => (heap_setCell_same _ _ _ _ _ _ _ (heap_setCell_same _ _ _ _ _ _ _ (heap_setCell_same _ _ _ _ _ _ _ hR))), (grownBy_trans (grownBy_trans (grownBy_setCell _ _ _ _) (grownBy_setCell _ _ _ _)) (grownBy_setCell _ _ _ _))⟩
      · rw [show takeOk 32 f t = false by simp [takeOk, kindOk, kF, kT]; omega]
        have g3 : 0 ≤ f - 1 := by omega
        have g4 : ¬ 0 ≤ t - 1 := by omega
        cases b
        · go_enter Tryz.func78, Tryz.ntmps78
          go_wp2
          go_ret
          exact ⟨rfl, (grownBy_trans (grownBy_trans (grownBy_setCell _ _ _ _) (grownBy_setCell _ _ _ _)) (grownBy_setCell _ _ _ _))⟩
        · go_enter Tryz.func78, Tryz.ntmps78
          go_wp2
          go_ret
          exact ⟨rfl, (grownBy_trans (grownBy_trans (grownBy_setCell _ _ _ _) (grownBy_setCell _ _ _ _)) (grownBy_setCell _ _ _ _))⟩
    · rw [show takeOk 32 f t = false by simp [takeOk, kindOk, kF, kT]; omega]
      have g3 : ¬ 0 ≤ f - 1 := by omega
      cases b
      · go_enter Tryz.func78, Tryz.ntmps78
        go_wp2
        go_ret
        exact ⟨rfl, (grownBy_trans (grownBy_trans (grownBy_setCell _ _ _ _) (grownBy_setCell _ _ _ _)) (grownBy_setCell _ _ _ _))⟩
      · go_enter Tryz.func78, Tryz.ntmps78
        go_wp2
        go_ret
        exact ⟨rfl, (grownBy_trans (grownBy_trans (grownBy_setCell _ _ _ _) (grownBy_setCell _ _ _ _)) (grownBy_setCell _ _ _ _))⟩
  · by_cases k2 : k = 45
    · subst k2
      have e1 : f - kF 45 = f - 1 := rfl
      have e2 : t - kT 45 = t := by simp [kT]
      rw [e1, e2]
      by_cases g1 : 1 ≤ f
      · rw [show takeOk 45 f t = true by simp [takeOk, kindOk, kF, kT]; omega]
        have g3 : 0 ≤ f - 1 := by omega
        cases b
        · go_enter Tryz.func78, Tryz.ntmps78
          go_wp2
          go_ret
          exact ⟨rfl, fun _ => (heap_setCell_same _ _ _ _ _ _ _ (heap_setCell_same _ _ _ _ _ _ _ hR)), (grownBy_trans (grownBy_setCell _ _ _ _) (grownBy_setCell _ _ _ _))⟩
        · go_enter Tryz.func78, Tryz.ntmps78
          go_wp2
          go_ret
          exact ⟨rfl, fun _ => (heap_setCell_same _ _ _ _ _ _ _ (heap_setCell_same _ _ _ _ _ _ _ hR)), (grownBy_trans (grownBy_setCell _ _ _ _) (grownBy_setCell _ _ _ _))⟩
      · rw [show takeOk 45 f t = false by simp [takeOk, kindOk, kF, kT]; omega]
        have g3 : ¬ 0 ≤ f - 1 := by omega
        cases b
        · go_enter Tryz.func78, Tryz.ntmps78
          go_wp2
          go_ret
          exact ⟨rfl, (grownBy_trans (grownBy_setCell _ _ _ _) (grownBy_setCell _ _ _ _))⟩
        · go_enter Tryz.func78, Tryz.ntmps78
          go_wp2
          go_ret
          exact ⟨rfl, (grownBy_trans (grownBy_setCell _ _ _ _) (grownBy_setCell _ _ _ _))⟩
    · by_cases k3 : k = 43
      · subst k3
        have e1 : f - kF 43 = f := by simp [kF]
        have e2 : t - kT 43 = t - 1 := rfl
        rw [e1, e2]
        by_cases g1 : 1 ≤ t
        · rw [show takeOk 43 f t = true by simp [takeOk, kindOk, kF, kT]; omega]
          have g3 : 0 ≤ t - 1 := by omega
          cases b
          · go_enter Tryz.func78, Tryz.ntmps78
            go_wp2
            go_ret
            exact ⟨rfl, fun _ => (heap_setCell_same _ _ _ _ _ _ _ (heap_setCell_same _ _ _ _ _ _ _ hR)), (grownBy_trans (grownBy_setCell _ _ _ _) (grownBy_setCell _ _ _ _))⟩
          · go_enter Tryz.func78, Tryz.ntmps78
            go_wp2
            go_ret
            exact ⟨rfl, fun _ => (heap_setCell_same _ _ _ _ _ _ _ (heap_setCell_same _ _ _ _ _ _ _ hR)), (grownBy_trans (grownBy_setCell _ _ _ _) (grownBy_setCell _ _ _ _))⟩
        · rw [show takeOk 43 f t = false by simp [takeOk, kindOk, kF, kT]; omega]
          have g3 : ¬ 0 ≤ t - 1 := by omega
          cases b
          · go_enter Tryz.func78, Tryz.ntmps78
            go_wp2
            go_ret
            exact ⟨rfl, (grownBy_trans (grownBy_setCell _ _ _ _) (grownBy_setCell _ _ _ _))⟩
          · go_enter Tryz.func78, Tryz.ntmps78
            go_wp2
            go_ret
            exact ⟨rfl, (grownBy_trans (grownBy_setCell _ _ _ _) (grownBy_setCell _ _ _ _))⟩
      · rw [show takeOk k f t = false by simp [takeOk, kindOk, k1, k2, k3]]
        have x1 : ((k : Int) == 32) = false := by rw [beq_eq_false_iff_ne]; omega
        have x2 : ((k : Int) == 45) = false := by rw [beq_eq_false_iff_ne]; omega
        have x3 : ((k : Int) == 43) = false := by rw [beq_eq_false_iff_ne]; omega
        go_enter Tryz.func78, Tryz.ntmps78
        go_wp2
        go_ret
        first | exact ⟨rfl, World.grownBy.refl w _⟩ | exact ⟨rfl, fun h => (by cases h), World.grownBy.refl w _⟩
set_option maxHeartbeats 4000000 in
theorem resttake_anyR {R k : Nat} {f t : Int} {b : Bool} {v0 v1 v2 : Value} (w : World) (hR : w.heap[R]? = some (.cells #[v0, v1, v2, .int .i64 f, .int .i64 t, .bool b] 88 (0, 0))) (hk : k < 256) (hf0 : 0 ≤ f) (ht0 : 0 ≤ t) (hf2 : f ≤ 1000000) (ht2 : t ≤ 1000000) :
    Calls Tryz.prog 78 #[.pointer (some ⟨R, 3, none⟩), .int .u8 (k : Nat)] w fun e w' =>
      e = .returned (.bool (takeOk k f t)) ∧ (takeOk k f t = true → w'.heap[R]? = some (.cells #[v0, v1, v2, .int .i64 (f - kF k), .int .i64 (t - kT k), .bool (b || k != 32)] 88 (0, 0))) ∧ w.grownBy w' (some R) := by
  have c0 : w.cell? ⟨R, 3, none⟩ = some (.int .i64 f) := cell_of (k := 3) hR rfl
  have c1 : w.cell? ⟨R, 4, none⟩ = some (.int .i64 t) := cell_of (k := 4) hR rfl
  have c2 : w.cell? ⟨R, 5, none⟩ = some (.bool b) := cell_of (k := 5) hR rfl
  have z : ∀ k, w.frozen? ⟨R, k, none⟩ = false := fun k => frozen_of (k := k) hR
  by_cases k1 : k = 32
  · subst k1
    have e1 : f - kF 32 = f - 1 := rfl
    have e2 : t - kT 32 = t - 1 := rfl
    rw [e1, e2]
    by_cases g1 : 1 ≤ f
    · by_cases g2 : 1 ≤ t
      · rw [show takeOk 32 f t = true by simp [takeOk, kindOk, kF, kT]; omega]
        have g3 : 0 ≤ f - 1 := by omega
        have g4 : 0 ≤ t - 1 := by omega
        cases b
        · go_enter Tryz.func78, Tryz.ntmps78
          go_wp2
          go_ret
          exact ⟨rfl, fun _ => (heap_setCell_same _ _ _ _ _ _ _ (heap_setCell_same _ _ _ _ _ _ _ (heap_setCell_same _ _ _ _ _ _ _ hR))), (grownBy_trans (grownBy_trans (grownBy_setCell _ _ _ _) (grownBy_setCell _ _ _ _)) (grownBy_setCell _ _ _ _))⟩
        · go_enter Tryz.func78, Tryz.ntmps78
          go_wp2
          go_ret
          exact ⟨rfl, fun _ => (heap_setCell_same _ _ _ _ _ _ _ (heap_setCell_same _ _ _ _ _ _ _ (heap_setCell_same _ _ _ _ _ _ _ hR))), (grownBy_trans (grownBy_trans (grownBy_setCell _ _ _ _) (grownBy_setCell _ _ _ _)) (grownBy_setCell _ _ _ _))⟩
      · rw [show takeOk 32 f t = false by simp [takeOk, kindOk, kF, kT]; omega]
        have g3 : 0 ≤ f - 1 := by omega
        have g4 : ¬ 0 ≤ t - 1 := by omega
        cases b
        · go_enter Tryz.func78, Tryz.ntmps78
          go_wp2
          go_ret
          exact ⟨rfl, (grownBy_trans (grownBy_trans (grownBy_setCell _ _ _ _) (grownBy_setCell _ _ _ _)) (grownBy_setCell _ _ _ _))⟩
        · go_enter Tryz.func78, Tryz.ntmps78
          go_wp2
          go_ret
          exact ⟨rfl, (grownBy_trans (grownBy_trans (grownBy_setCell _ _ _ _) (grownBy_setCell _ _ _ _)) (grownBy_setCell _ _ _ _))⟩
    · rw [show takeOk 32 f t = false by simp [takeOk, kindOk, kF, kT]; omega]
      have g3 : ¬ 0 ≤ f - 1 := by omega
      cases b
      · go_enter Tryz.func78, Tryz.ntmps78
        go_wp2
        go_ret
        exact ⟨rfl, (grownBy_trans (grownBy_trans (grownBy_setCell _ _ _ _) (grownBy_setCell _ _ _ _)) (grownBy_setCell _ _ _ _))⟩
      · go_enter Tryz.func78, Tryz.ntmps78
        go_wp2
        go_ret
        exact ⟨rfl, (grownBy_trans (grownBy_trans (grownBy_setCell _ _ _ _) (grownBy_setCell _ _ _ _)) (grownBy_setCell _ _ _ _))⟩
  · by_cases k2 : k = 45
    · subst k2
      have e1 : f - kF 45 = f - 1 := rfl
      have e2 : t - kT 45 = t := by simp [kT]
      rw [e1, e2]
      by_cases g1 : 1 ≤ f
      · rw [show takeOk 45 f t = true by simp [takeOk, kindOk, kF, kT]; omega]
        have g3 : 0 ≤ f - 1 := by omega
        cases b
        · go_enter Tryz.func78, Tryz.ntmps78
          go_wp2
          go_ret
          exact ⟨rfl, fun _ => (heap_setCell_same _ _ _ _ _ _ _ (heap_setCell_same _ _ _ _ _ _ _ hR)), (grownBy_trans (grownBy_setCell _ _ _ _) (grownBy_setCell _ _ _ _))⟩
        · go_enter Tryz.func78, Tryz.ntmps78
          go_wp2
          go_ret
          exact ⟨rfl, fun _ => (heap_setCell_same _ _ _ _ _ _ _ (heap_setCell_same _ _ _ _ _ _ _ hR)), (grownBy_trans (grownBy_setCell _ _ _ _) (grownBy_setCell _ _ _ _))⟩
      · rw [show takeOk 45 f t = false by simp [takeOk, kindOk, kF, kT]; omega]
        have g3 : ¬ 0 ≤ f - 1 := by omega
        cases b
        · go_enter Tryz.func78, Tryz.ntmps78
          go_wp2
          go_ret
          exact ⟨rfl, (grownBy_trans (grownBy_setCell _ _ _ _) (grownBy_setCell _ _ _ _))⟩
        · go_enter Tryz.func78, Tryz.ntmps78
          go_wp2
          go_ret
          exact ⟨rfl, (grownBy_trans (grownBy_setCell _ _ _ _) (grownBy_setCell _ _ _ _))⟩
    · by_cases k3 : k = 43
      · subst k3
        have e1 : f - kF 43 = f := by simp [kF]
        have e2 : t - kT 43 = t - 1 := rfl
        rw [e1, e2]
        by_cases g1 : 1 ≤ t
        · rw [show takeOk 43 f t = true by simp [takeOk, kindOk, kF, kT]; omega]
          have g3 : 0 ≤ t - 1 := by omega
          cases b
          · go_enter Tryz.func78, Tryz.ntmps78
            go_wp2
            go_ret
            exact ⟨rfl, fun _ => (heap_setCell_same _ _ _ _ _ _ _ (heap_setCell_same _ _ _ _ _ _ _ hR)), (grownBy_trans (grownBy_setCell _ _ _ _) (grownBy_setCell _ _ _ _))⟩
          · go_enter Tryz.func78, Tryz.ntmps78
            go_wp2
            go_ret
            exact ⟨rfl, fun _ => (heap_setCell_same _ _ _ _ _ _ _ (heap_setCell_same _ _ _ _ _ _ _ hR)), (grownBy_trans (grownBy_setCell _ _ _ _) (grownBy_setCell _ _ _ _))⟩
        · rw [show takeOk 43 f t = false by simp [takeOk, kindOk, kF, kT]; omega]
          have g3 : ¬ 0 ≤ t - 1 := by omega
          cases b
          · go_enter Tryz.func78, Tryz.ntmps78
            go_wp2
            go_ret
            exact ⟨rfl, (grownBy_trans (grownBy_setCell _ _ _ _) (grownBy_setCell _ _ _ _))⟩
          · go_enter Tryz.func78, Tryz.ntmps78
            go_wp2
            go_ret
            exact ⟨rfl, (grownBy_trans (grownBy_setCell _ _ _ _) (grownBy_setCell _ _ _ _))⟩
      · rw [show takeOk k f t = false by simp [takeOk, kindOk, k1, k2, k3]]
        have x1 : ((k : Int) == 32) = false := by rw [beq_eq_false_iff_ne]; omega
        have x2 : ((k : Int) == 45) = false := by rw [beq_eq_false_iff_ne]; omega
        have x3 : ((k : Int) == 43) = false := by rw [beq_eq_false_iff_ne]; omega
        go_enter Tryz.func78, Tryz.ntmps78
        go_wp2
        go_ret
        first | exact ⟨rfl, World.grownBy.refl w _⟩ | exact ⟨rfl, fun h => (by cases h), World.grownBy.refl w _⟩
theorem full_any (f t : Int) (b : Bool) (w : World) : Calls Tryz.prog 76 #[.agg #[.int .i64 f, .int .i64 t, .bool b]] w fun e w' => e = .returned (.bool (decide (f = 0) && decide (t = 0))) ∧ Below w.heap.size w w' := by
  by_cases hf : f = 0
  · by_cases ht : t = 0
    · subst hf
      subst ht
      go_enter Tryz.func76, Tryz.ntmps76
      go_wp2
      go_ret
      exact ⟨rfl, (Below.refl _ _).alloc (Nat.le_refl _) _⟩
    · rw [show (decide (f = 0) && decide (t = 0)) = false by simp [ht]]
      have h1 : (t == 0) = false := by rw [beq_eq_false_iff_ne]; exact ht
      subst hf
      go_enter Tryz.func76, Tryz.ntmps76
      go_wp2
      go_ret
      exact ⟨rfl, (Below.refl _ _).alloc (Nat.le_refl _) _⟩
  · rw [show (decide (f = 0) && decide (t = 0)) = false by simp [hf]]
    have h1 : (f == 0) = false := by rw [beq_eq_false_iff_ne]; exact hf
    go_enter Tryz.func76, Tryz.ntmps76
    go_wp2
    go_ret
    exact ⟨rfl, (Below.refl _ _).alloc (Nat.le_refl _) _⟩
set_option maxHeartbeats 400000 in
theorem done_any (f t : Int) (b : Bool) (w : World) : Calls Tryz.prog 80 #[.agg #[.int .i64 f, .int .i64 t, .bool b]] w fun e w' => e = .returned (.bool (decide (f = 0) && decide (t = 0) && b)) ∧ Below w.heap.size w w' := by
  have hf := full_any f t b (w.alloc (.cells #[.int .i64 f, .int .i64 t, .bool b] 86))
  generalize (decide (f = 0) && decide (t = 0)) = q at *
  cases q
  · go_enter Tryz.func80, Tryz.ntmps80
    go_wp2_with (go_at_call 76; refine hf.mono ?_; rintro e w' ⟨rfl, hb⟩)
    go_ret
    exact ⟨rfl, ((Below.refl _ _).alloc (Nat.le_refl _) _).trans (hb.mono (by simp))⟩
  · go_enter Tryz.func80, Tryz.ntmps80
    go_wp2_with (go_at_call 76; refine hf.mono ?_; rintro e w' ⟨rfl, hb⟩; have c2 : w'.cell? ⟨w.heap.size, 2, none⟩ = some (.bool b) := (hb.cell (p := ⟨w.heap.size, 2, none⟩) (by simp)).trans (cell_of (heap_alloc_new w _) rfl))
    go_ret
    exact ⟨by cases b <;> rfl, ((Below.refl _ _).alloc (Nat.le_refl _) _).trans (hb.mono (by simp))⟩
end Go.Proofs.YtcclgodahlinbaaGreatDoor
namespace Go.Proofs.YtcclgodahlinbaaGreatDoor
open Go.RowKit Go
set_option maxRecDepth 100000
theorem take_bad {h : HI} {k : Nat} (hk : k < h.lines.length) (hno : takeOk h.lines[k].kind (h.fc - cntF (h.lines.take k)) (h.tc - cntT (h.lines.take k)) = false) : bodyOk h = false := by
  have e1 := cntF_take hk
  have e2 := cntT_take hk
  by_cases h1 : kindOk h.lines[k].kind = true
  · by_cases h2 : 0 ≤ h.fc - cntF (h.lines.take k) - kF h.lines[k].kind
    · have h3 : ¬ 0 ≤ h.tc - cntT (h.lines.take k) - kT h.lines[k].kind := by
        intro h3
        unfold takeOk at hno
        rw [h1, decide_eq_true h2, decide_eq_true h3] at hno
        cases hno
      refine body_to (k := k + 1) ?_
      rw [e2]
      unfold kT at h3
      split at h3 <;> simp_all <;> omega
    · refine body_from (k := k + 1) ?_
      rw [e1]
      unfold kF at h2
      split at h2 <;> simp_all <;> omega
  · exact body_line hk (by unfold lnOk; rw [Bool.eq_false_iff.2 h1]; rfl)
theorem take_good {h : HI} {k : Nat} (hk : k < h.lines.length) (hy : takeOk h.lines[k].kind (h.fc - cntF (h.lines.take k)) (h.tc - cntT (h.lines.take k)) = true) :
    kindOk h.lines[k].kind = true ∧ h.fc - cntF (h.lines.take k) - kF h.lines[k].kind = h.fc - cntF (h.lines.take (k + 1)) ∧ h.tc - cntT (h.lines.take k) - kT h.lines[k].kind = h.tc - cntT (h.lines.take (k + 1)) ∧
      (cntF (h.lines.take (k + 1)) : Int) ≤ h.fc ∧ (cntT (h.lines.take (k + 1)) : Int) ≤ h.tc := by
  have e1 := cntF_take hk
  have e2 := cntT_take hk
  unfold takeOk at hy
  simp only [Bool.and_eq_true, decide_eq_true_eq] at hy
  obtain ⟨⟨h1, h2⟩, h3⟩ := hy
  have e3 : ((cntF (h.lines.take (k + 1)) : Nat) : Int) = cntF (h.lines.take k) + kF h.lines[k].kind := by
    rw [e1]; unfold kF; split <;> simp
  have e4 : ((cntT (h.lines.take (k + 1)) : Nat) : Int) = cntT (h.lines.take k) + kT h.lines[k].kind := by
    rw [e2]; unfold kT; split <;> simp
  exact ⟨h1, by omega, by omega, by omega, by omega⟩
theorem body_end {h : HI} (ha : h.lines.all lnOk = true) : (decide (h.fc - (cntF h.lines : Int) = 0) && decide (h.tc - (cntT h.lines : Int) = 0) && chg h.lines) = bodyOk h := by
  unfold bodyOk
  rw [ha, Bool.true_and]
  have e1 : decide (h.fc - (cntF h.lines : Int) = 0) = decide ((cntF h.lines : Int) = h.fc) := by rw [decide_eq_decide]; omega
  have e2 : decide (h.tc - (cntT h.lines : Int) = 0) = decide ((cntT h.lines : Int) = h.tc) := by rw [decide_eq_decide]; omega
  rw [e1, e2]
  cases chg h.lines <;> simp
set_option maxHeartbeats 4000000 in
theorem linesMatch_any {h : HI} {a : Option Addr} {cap : Nat} {w : World} (hS : LinesAt w.heap.size w (.slice a h.lines.length cap) h.lines) (hL : h.lines.length ≤ 1048576) (hkk : ∀ s ∈ h.lines, s.kind < 256) (hf0 : 0 ≤ h.fc) (ht0 : 0 ≤ h.tc) (hf : h.fc ≤ 100000) (ht : h.tc ≤ 100000) :
    Calls Tryz.prog 69 #[hiVal h (.slice a h.lines.length cap)] w fun e w' => e = .returned (.bool (bodyOk h)) ∧ Below w.heap.size w w' := by
  have hw0 : Below w.heap.size w (w.alloc (hiObj h (.slice a h.lines.length cap))) := (Below.refl _ _).alloc (Nat.le_refl _) _
  have hB0 := heap_alloc_new w (hiObj h (.slice a h.lines.length cap))
  have hr := restOf_int h a h.lines.length cap (w.alloc (hiObj h (.slice a h.lines.length cap)))
  have hz0 : (w.alloc (hiObj h (.slice a h.lines.length cap))).heap.size = w.heap.size + 1 := by simp
  have hX : Hid (∀ w1, Below (w.alloc (hiObj h (.slice a h.lines.length cap))).heap.size (w.alloc (hiObj h (.slice a h.lines.length cap))) w1 →
      Below w.heap.size w w1 ∧ w1.cell? ⟨w.heap.size, 4, none⟩ = some (.slice a h.lines.length cap) ∧ w.heap.size < w1.heap.size) := by
    intro w1 hb
    refine ⟨hw0.trans (hb.mono (by omega)), (hb.cell (p := ⟨w.heap.size, 4, none⟩) (by simp)).trans (cell_of hB0 rfl), by have := hb.size; omega⟩
  clear hw0 hB0 hz0
  go_enter Tryz.func69, Tryz.ntmps69
  go_wp2_with (go_at_call 106; refine hr.mono ?_; rintro e w1 ⟨rfl, hb1⟩; obtain ⟨hbw, c4, hlt⟩ := hX.out w1 hb1)
  clear hX hr hb1
  have hR0 := heap_alloc_new w1 (.cells #[.int .i64 h.fc, .int .i64 h.tc, .bool false] 86)
  have hbR : Below w.heap.size w (w1.alloc (.cells #[.int .i64 h.fc, .int .i64 h.tc, .bool false] 86)) := hbw.alloc hbw.size _
  go_loopg [11] h.lines.length (fun g t wr => ∃ k : Nat, g = h.lines.length - k ∧ k ≤ h.lines.length ∧ t = .int .i64 k ∧ wr.heap[w1.heap.size]? = some (.cells #[.int .i64 (h.fc - cntF (h.lines.take k)), .int .i64 (h.tc - cntT (h.lines.take k)), .bool (chg (h.lines.take k))] 86 (0, 0)) ∧ Hid ((h.lines.take k).all lnOk = true) ∧ (cntF (h.lines.take k) : Int) ≤ h.fc ∧ (cntT (h.lines.take k) : Int) ≤ h.tc ∧ Below w.heap.size w wr)
  case atStart => exact ⟨0, by omega, by omega, rfl, by rw [hR0]; simp [cntF, cntT, chg], rfl, by simpa [cntF] using hf0, by simpa [cntT] using ht0, hbR⟩
  case round =>
    obtain ⟨k, hgk, hkl, rfl, hR, hal, hc1, hc2, hbel⟩ := hrel
    clear hR0 hbR hbw c4
    have hsz := hbel.size
    have hRw : w1.heap.size < wr.heap.size := (Array.getElem?_eq_some_iff.1 hR).1
    have hG : Hid (gk = h.lines.length - k) := hgk
    clear hgk
    by_cases hk : k < h.lines.length
    · have hkI : (k : Int) < h.lines.length := by omega
      obtain ⟨bb, off, rfl, hbB, r0, r1⟩ := (hS.below hbel).at hk
      have htk := resttake_anyS (wr.alloc (.cells #[.int .u8 (h.lines[k].kind : Int), .string h.lines[k].text] 93)) ((Below.heap_alloc wr _ w1.heap.size hRw).trans hR) (hkk _ (List.getElem_mem hk)) (by omega) (by omega) (by omega) (by omega)
      have hcon := fun w => contains_any h.lines[k].text w
      have hno : Hid (takeOk h.lines[k].kind (h.fc - cntF (h.lines.take k)) (h.tc - cntT (h.lines.take k)) = false → bodyOk h = false) := take_bad hk
      have hye : Hid (takeOk h.lines[k].kind (h.fc - cntF (h.lines.take k)) (h.tc - cntT (h.lines.take k)) = true → _) := take_good hk
      have hnl : Hid (hasNl h.lines[k].text = true → bodyOk h = false) := fun hn => body_line hk (by unfold lnOk; rw [hn]; simp)
      have hca : Hid (kindOk h.lines[k].kind = true → hasNl h.lines[k].text = false → (h.lines.take (k + 1)).all lnOk = true) := fun x y => by rw [all_take hk, hal.out]; unfold lnOk; rw [x, y]; rfl
      have hch : Hid ((chg (h.lines.take k) || h.lines[k].kind != 32) = chg (h.lines.take (k + 1))) := (chg_take hk).symm
      have hB1 := heap_alloc_new wr (.cells #[.int .u8 (h.lines[k].kind : Int), .string h.lines[k].text] 93)
      have hbx : Hid (∀ w', (wr.alloc (.cells #[.int .u8 (h.lines[k].kind : Int), .string h.lines[k].text] 93)).grownBy w' (some w1.heap.size) → w'.cell? ⟨wr.heap.size, 1, none⟩ = some (.string h.lines[k].text) ∧ Below w.heap.size w w') := by
        intro w' hg
        refine ⟨cell_of ((hg.block wr.heap.size (by simp) (fun e => by have : wr.heap.size = w1.heap.size := Option.some.inj e; omega)).trans hB1) rfl, ?_⟩
        exact (hbel.alloc hsz _).grown hg (by simp; omega) (fun k e => by cases e; omega)
      generalize hsk : h.lines[k].kind = sk at *
      generalize h.lines[k].text = sx at *
      clear hsk hB1 hR hc1 hc2
      generalize h.fc - cntF (h.lines.take k) = F at *
      generalize h.tc - cntT (h.lines.take k) = T at *
      cases hq : takeOk sk F T with
      | false =>
        rw [hq] at htk
        have hB : Hid (bodyOk h = false) := hno.out hq
        clear hq hno hye hnl hca hch
        go_wp2_with (go_at_call 78; refine htk.mono ?_; rintro e w' ⟨rfl, -, hg'⟩; obtain ⟨x1, hbel'⟩ := hbx.out w' hg')
        go_ret
        exact ⟨by rw [hB.out] <;> rfl, hbel'⟩
      | true =>
        rw [hq] at htk
        obtain ⟨y1, y2, y3, y4, y5⟩ := hye.out hq
        have hY : Hid (kindOk sk = true ∧ F - kF sk = h.fc - cntF (h.lines.take (k + 1)) ∧ T - kT sk = h.tc - cntT (h.lines.take (k + 1)) ∧ (cntF (h.lines.take (k + 1)) : Int) ≤ h.fc ∧ (cntT (h.lines.take (k + 1)) : Int) ≤ h.tc) := ⟨y1, y2, y3, y4, y5⟩
        clear hq hno hye y1 y2 y3 y4 y5
        cases hn : hasNl sx with
        | true =>
          rw [hn] at hcon
          have hB : Hid (bodyOk h = false) := hnl.out hn
          clear hn hnl hca hch
          go_wp2_with (first | (go_at_call 78; refine htk.mono ?_; rintro e w' ⟨rfl, hR', hg'⟩; obtain ⟨x1, hbel'⟩ := hbx.out w' hg') | (go_at_call 107; refine (hcon _).mono ?_; rintro e w'' ⟨rfl, rfl⟩))
          go_ret
          exact ⟨by rw [hB.out] <;> rfl, hbel'⟩
        | false =>
          rw [hn] at hcon
          have hca2 : Hid ((h.lines.take (k + 1)).all lnOk = true) := hca.out hY.out.1 hn
          clear hn hnl hca
          go_wp2_with (first | (go_at_call 78; refine htk.mono ?_; rintro e w' ⟨rfl, hR', hg'⟩; obtain ⟨x1, hbel'⟩ := hbx.out w' hg') | (go_at_call 107; refine (hcon _).mono ?_; rintro e w'' ⟨rfl, rfl⟩))
          go_roundg (h.lines.length - (k + 1))
          case measure => have := hG.out; omega
          case rel =>
            refine ⟨k + 1, rfl, by omega, by go_num, ?_, hca2, hY.out.2.2.2.1, hY.out.2.2.2.2, hbel'⟩
            have := hR' (by trivial)
            rw [hY.out.2.1, hY.out.2.2.1, hch.out] at this
            exact this
    · have hkI : ¬ ((k : Int) < h.lines.length) := by omega
      have hE : Hid (h.lines.take k = h.lines) := List.take_of_length_le (by omega)
      rw [hE.out] at hR hal
      have hb := body_end hal.out
      have hd := done_any (h.fc - cntF h.lines) (h.tc - cntT h.lines) (chg h.lines) wr
      rw [hb] at hd
      have q0 : wr.cell? ⟨w1.heap.size, 0, none⟩ = some (.int .i64 (h.fc - cntF h.lines)) := cell_of hR rfl
      have q1 : wr.cell? ⟨w1.heap.size, 1, none⟩ = some (.int .i64 (h.tc - cntT h.lines)) := cell_of hR rfl
      have q2 : wr.cell? ⟨w1.heap.size, 2, none⟩ = some (.bool (chg h.lines)) := cell_of hR rfl
      clear hR hb hal
      generalize h.fc - (cntF h.lines : Int) = F at *
      generalize h.tc - (cntT h.lines : Int) = T at *
      generalize chg h.lines = C at *
      go_wp2_with (go_at_call 80; refine hd.mono ?_; rintro e w' ⟨rfl, hb'⟩)
      go_ret
      exact ⟨rfl, hbel.trans (hb'.mono hsz)⟩
set_option maxHeartbeats 4000000 in
theorem isRight_any {hs : List HI} {a : Option Addr} {cap : Nat} {w : World} (hH : HIAt w.heap.size w (.slice a hs.length cap) hs) (hL : Lim hs) :
    Calls Tryz.prog 31 #[.agg #[.slice a hs.length cap]] w fun e w' => e = .returned (.bool (rightI 0 0 hs)) ∧ Below w.heap.size w w' := by
  have hw0 : Below w.heap.size w ((w.alloc (.cells #[.slice a hs.length cap] 32)).alloc (.cells #[.int .i64 0, .int .i64 0] 84)) := ((Below.refl _ _).alloc (Nat.le_refl _) _).alloc (by simp) _
  have hS0 := heap_alloc_new (w.alloc (.cells #[.slice a hs.length cap] 32)) (.cells #[.int .i64 0, .int .i64 0] 84)
  rw [World.size_alloc] at hS0
  obtain ⟨hL1, hL2⟩ := hL
  go_enter Tryz.func31, Tryz.ntmps31
  go_wp2
  go_loopg [9] hs.length (fun g t wr => ∃ (k : Nat) (en gr : Int), g = hs.length - k ∧ k ≤ hs.length ∧ t = .int .i64 k ∧ wr.heap[w.heap.size + 1]? = some (.cells #[.int .i64 en, .int .i64 gr] 84 (0, 0)) ∧ Hid (rightI 0 0 hs = rightI en gr (hs.drop k)) ∧ -(100000 * (k : Int)) ≤ gr ∧ gr ≤ 100000 * (k : Int) ∧ Below w.heap.size w wr)
  case atStart => exact ⟨0, 0, 0, by omega, by omega, rfl, hS0, rfl, by omega, by omega, hw0⟩
  case round =>
    obtain ⟨k, en, gr, hgk, hkl, rfl, hS, hm, hg1, hg2, hbel⟩ := hrel
    clear hw0 hS0
    have hG : Hid (gk = hs.length - k) := hgk
    clear hgk
    have hsz := hbel.size
    have hSw : w.heap.size + 1 < wr.heap.size := (Array.getElem?_eq_some_iff.1 hS).1
    by_cases hk : k < hs.length
    · have hkI : (k : Int) < hs.length := by omega
      obtain ⟨b, off, a', c', rfl, hbB, r0, r1, r2, r3, r4, hst⟩ := (hH.below hbel).at hk
      obtain ⟨l1, -, -, -, -, l2⟩ := hL2 _ (List.getElem_mem hk)
      have hm2 : Hid (rightI 0 0 hs = (fitsI hs[k] en gr && bodyOk hs[k] && rightI (placeI hs[k].fr hs[k].fc + hs[k].fc) (gr + hs[k].tc - hs[k].fc) (hs.drop (k + 1)))) := by
        show _ = _
        rw [hm.out, List.drop_eq_getElem_cons hk, rightI]
      generalize hs[k] = h at r0 r1 r2 r3 r4 hst hm2 l1 l2
      have hbB' : b < wr.heap.size := by omega
      have hB1 := heap_alloc_new wr (hiObj h (.slice a' h.lines.length c'))
      have htk := take_anyS h a' h.lines.length c' (wr.alloc (hiObj h (.slice a' h.lines.length c'))) ((Below.heap_alloc wr _ (w.heap.size + 1) hSw).trans hS) (by omega) (by omega)
      have hX : Hid (∀ w', (wr.alloc (hiObj h (.slice a' h.lines.length c'))).grownBy w' (some (w.heap.size + 1)) → w'.heap[wr.heap.size]? = some (hiObj h (.slice a' h.lines.length c')) ∧ Below w.heap.size w w' ∧ w.heap.size + 1 < w'.heap.size ∧
          (fitsI h en gr = true → Calls Tryz.prog 69 #[hiVal h (.slice a' h.lines.length c')] w' fun e w'' => e = .returned (.bool (bodyOk h)) ∧ Below w'.heap.size w' w'')) := by
        intro w' hg
        have hb' : Below w.heap.size w w' := (hbel.alloc hsz _).grown hg (by simp; omega) (fun k e => by cases e; omega)
        refine ⟨(hg.block wr.heap.size (by simp) (fun e => by have : wr.heap.size = w.heap.size + 1 := Option.some.inj e; omega)).trans hB1, hb', by have := hg.size; simp at this; omega, fun hf => ?_⟩
        have hb2 : Below w.heap.size wr w' := ((Below.refl _ wr).alloc hsz _).grown hg (by simp; omega) (fun k e => by cases e; omega)
        obtain ⟨n1, n2, _⟩ := fitsI_iff.1 hf
        rw [numOk_iff] at n1 n2
        exact linesMatch_any ((hst.below hb2).mono hb'.size) l1 (fun s hs => (l2 s hs).1) n1.2.2.1 n2.2.2.1 n1.2.2.2.1 n2.2.2.2.1
      have hA : Hid (fitsI h en gr = true → -(100000 * ((k + 1 : Nat) : Int)) ≤ gr + h.tc - h.fc ∧ gr + h.tc - h.fc ≤ 100000 * ((k + 1 : Nat) : Int)) := by
        intro hf
        obtain ⟨n1, n2, _⟩ := fitsI_iff.1 hf
        rw [numOk_iff] at n1 n2
        exact ⟨by omega, by omega⟩
      unfold hiVal at htk hX
      unfold hiObj at htk hX hB1
      clear hg1 hg2 hB1 hS hst hH
      cases hf : fitsI h en gr with
      | false =>
        have hF : Hid (rightI 0 0 hs = false) := by show _ = _; rw [hm2.out, hf]; rfl
        rw [hf] at htk
        clear hf hm2 hm hA
        go_wp2_with (go_at_call 68; refine htk.mono ?_; rintro e w2 ⟨rfl, -, hg2'⟩; obtain ⟨hbx, hbw, hlt2, -⟩ := hX.out w2 hg2')
        go_ret
        exact ⟨by rw [hF.out] <;> rfl, hbw⟩
      | true =>
        rw [hf] at htk
        have hA2 : Hid _ := hA.out hf
        have hX2 : Hid (∀ w', (wr.alloc (.cells #[.int .i64 h.fr, .int .i64 h.fc, .int .i64 h.tr, .int .i64 h.tc, .slice a' h.lines.length c'] 61)).grownBy w' (some (w.heap.size + 1)) → w'.heap[wr.heap.size]? = some (.cells #[.int .i64 h.fr, .int .i64 h.fc, .int .i64 h.tr, .int .i64 h.tc, .slice a' h.lines.length c'] 61 (0, 0)) ∧ Below w.heap.size w w' ∧ w.heap.size + 1 < w'.heap.size ∧
          Calls Tryz.prog 69 #[.agg #[.int .i64 h.fr, .int .i64 h.fc, .int .i64 h.tr, .int .i64 h.tc, .slice a' h.lines.length c']] w' fun e w'' => e = .returned (.bool (bodyOk h)) ∧ Below w'.heap.size w' w'') := fun w' hg => ⟨(hX.out w' hg).1, (hX.out w' hg).2.1, (hX.out w' hg).2.2.1, (hX.out w' hg).2.2.2 hf⟩
        cases hbo : bodyOk h with
        | false =>
          have hF : Hid (rightI 0 0 hs = false) := by show _ = _; rw [hm2.out, hf, hbo]; rfl
          rw [hbo] at hX2
          clear hf hm2 hm hA hX hbo
          go_wp2_with (first | (go_at_call 68; refine htk.mono ?_; rintro e w2 ⟨rfl, hS2, hg2'⟩; obtain ⟨hbx, hbw, hlt2, hlm⟩ := hX2.out w2 hg2'; have y0 := cell_of (k := 0) hbx rfl; have y1 := cell_of (k := 1) hbx rfl; have y2 := cell_of (k := 2) hbx rfl; have y3 := cell_of (k := 3) hbx rfl; have y4 := cell_of (k := 4) hbx rfl) | (go_at_call 69; refine hlm.mono ?_; rintro e w3 ⟨rfl, hb3⟩))
          go_ret
          exact ⟨by rw [hF.out] <;> rfl, hbw.trans (hb3.mono hbw.size)⟩
        | true =>
          have hF : Hid (rightI 0 0 hs = rightI (placeI h.fr h.fc + h.fc) (gr + h.tc - h.fc) (hs.drop (k + 1))) := by show _ = _; rw [hm2.out, hf, hbo]; rfl
          rw [hbo] at hX2
          clear hf hm2 hm hA hX hbo
          generalize placeI h.fr h.fc + h.fc = PL at *
          go_wp2_with (first | (go_at_call 68; refine htk.mono ?_; rintro e w2 ⟨rfl, hS2, hg2'⟩; obtain ⟨hbx, hbw, hlt2, hlm⟩ := hX2.out w2 hg2'; have y0 := cell_of (k := 0) hbx rfl; have y1 := cell_of (k := 1) hbx rfl; have y2 := cell_of (k := 2) hbx rfl; have y3 := cell_of (k := 3) hbx rfl; have y4 := cell_of (k := 4) hbx rfl) | (go_at_call 69; refine hlm.mono ?_; rintro e w3 ⟨rfl, hb3⟩))
          have hS3 := (hb3.block (w.heap.size + 1) hlt2).trans (hS2 (by trivial))
          go_roundg (hs.length - (k + 1))
          case measure => have := hG.out; omega
          case rel => exact ⟨k + 1, _, _, rfl, by omega, by go_num, hS3, hF, hA2.out.1, hA2.out.2, hbw.trans (hb3.mono hbw.size)⟩
    · have hkI : ¬ ((k : Int) < hs.length) := by omega
      have hF : Hid (rightI 0 0 hs = true) := by show _ = _; rw [hm.out, List.drop_eq_nil_of_le (by omega)]; rfl
      clear hm
      go_wp2
      go_ret
      exact ⟨by rw [hF.out] <;> rfl, hbel⟩
end Go.Proofs.YtcclgodahlinbaaGreatDoor
namespace Go.Proofs
open Go.Shelf
set_option maxRecDepth 100000
theorem Tryz.laysM171 : Go.Proofs.LaysM.n171 Tryz.prog Tryz.lays171_ren := { Tryz.lays171 with
  i0 := by kernel_rfl
  i2 := by kernel_rfl
  i3 := by kernel_rfl
  i4 := by kernel_rfl
  i5 := by kernel_rfl
  i9 := by kernel_rfl
  i20 := by kernel_rfl
  i37 := by kernel_rfl
  i46 := by kernel_rfl
  i51 := by kernel_rfl
  i53 := by kernel_rfl
  i171 := by kernel_rfl
  i173 := by kernel_rfl
  i212 := by kernel_rfl
  i232 := by kernel_rfl
  i233 := by kernel_rfl
  m17 := by kernel_rfl
  m18 := by kernel_rfl
  m19 := by kernel_rfl }
open Go.RowKit Go.Sort Go.Lib in
theorem Tryz.strconv_Itoa (n : Int) (h0 : -9223372036854775808 ≤ n) (h1 : n ≤ 9223372036854775807) (w : World) (htab : Lib.TabIs Tryz.prog w "internal/strconv.uint64pow10" .u64 Lib.pow10Tab) :
    Calls Tryz.prog 133 #[.int .i64 n] w fun e w' => e = .returned (.string ⟨(Lib.itoa n).toArray⟩) ∧ ∃ k os, w' = grow (w.drewN k) os := Any.strconv_Itoa Tryz.laysM171 n h0 h1 w htab
open Go.RowKit in
theorem Tryz.strconv_Atoi_range (s : ByteArray) (hlim : s.size ≤ 281474976710656) (h : Lib.atoiAll s.data.toList = .range) (ev : Value) (w : World) (hv : w.cell? ⟨5, 0, none⟩ = some ev) (hev : ev = .nilIface ∨ ∃ te pe, ev = .iface te pe) :
    Calls Tryz.prog 154 #[.string s] w fun e w' => ∃ N t, e = .returned (.tuple #[.int .i64 (Lib.atoiSat s.data.toList), .iface t (.pointer (some ⟨N, 0, none⟩))]) ∧ Below w.heap.size w w' := by
  refine (Any.strconv_Atoi_range Tryz.laysC172 s hlim h ev w hv hev).mono ?_
  rintro e w' ⟨N, h1, _, _, h2⟩
  exact ⟨N, _, h1, h2⟩
end Go.Proofs
namespace Go.Proofs.YtcclgodahlinbaaGreatDoor
open Go
set_option maxRecDepth 100000
theorem dec_digit : ∀ (n : Nat) (c : UInt8), c ∈ Lib.decDigits n → 48 ≤ c.toNat ∧ c.toNat ≤ 57 := by
  intro n
  induction n using Nat.strongRecOn with
  | _ n ih =>
    intro c hc
    rw [Lib.decDigits] at hc
    by_cases h : n < 10
    · rw [dif_pos h, List.mem_singleton] at hc
      subst hc
      have : (UInt8.ofNat (48 + n)).toNat = 48 + n := by simp; omega
      omega
    · rw [dif_neg h, List.mem_append, List.mem_singleton] at hc
      rcases hc with hc | hc
      · exact ih (n / 10) (by omega) c hc
      · subst hc
        have : (UInt8.ofNat (48 + n % 10)).toNat = 48 + n % 10 := by simp; omega
        omega
theorem dec_pos (n : Nat) : 1 ≤ (Lib.decDigits n).length := by rw [Lib.decDigits_length]; exact Lib.nDigits_pos n
theorem dec_ne (n : Nat) : Lib.decDigits n ≠ [] := fun e => by have := dec_pos n; rw [e] at this; simp at this
theorem dec_len {n : Nat} (h : n ≤ 100000) : (Lib.decDigits n).length ≤ 6 := by
  have key : ∀ (k n : Nat), n < 10 ^ (k + 1) → (Lib.decDigits n).length ≤ k + 1 := by
    intro k
    induction k with
    | zero => intro n hn; rw [Lib.decDigits, dif_pos (by simpa using hn)]; simp
    | succ k ih =>
      intro n hn
      rw [Lib.decDigits]
      split
      · simp
      · have := ih (n / 10) (by rw [Nat.pow_succ] at hn; omega)
        simp; omega
  exact key 5 n (Nat.lt_of_le_of_lt h (by decide))
theorem dec_val : ∀ (n acc : Nat), ∃ p, Lib.decFrom acc (Lib.decDigits n) = some (acc * 10 ^ p + n) ∧ p = (Lib.decDigits n).length := by
  have app : ∀ (l m : List UInt8) (acc v : Nat), Lib.decFrom acc l = some v → Lib.decFrom acc (l ++ m) = Lib.decFrom v m := by
    intro l
    induction l with
    | nil => intro m acc v h; simp [Lib.decFrom] at h; subst h; rfl
    | cons b l ih =>
      intro m acc v h
      rw [List.cons_append, Lib.decFrom]
      rw [Lib.decFrom] at h
      split at h
      · exact ih m _ v h
      · cases h
  have one : ∀ d acc : Nat, d < 10 → Lib.decFrom acc [UInt8.ofNat (48 + d)] = some (acc * 10 + d) := by
    intro d acc hd
    have e : (UInt8.ofNat (48 + d)).toNat = 48 + d := by simp; omega
    have hv : Lib.digitVal (UInt8.ofNat (48 + d)) = some d := by
      unfold Lib.digitVal
      rw [e, if_pos (by omega)]
      congr 1
      omega
    rw [Lib.decFrom, hv]
    rfl
  intro n
  induction n using Nat.strongRecOn with
  | _ n ih =>
    intro acc
    rw [Lib.decDigits]
    by_cases h : n < 10
    · rw [dif_pos h, one n acc h]
      exact ⟨1, by simp, rfl⟩
    · rw [dif_neg h]
      obtain ⟨p, h1, h2⟩ := ih (n / 10) (by omega) acc
      refine ⟨p + 1, ?_, by simp [h2]⟩
      rw [app _ _ _ _ h1, one _ _ (by omega), Nat.pow_succ]
      congr 1
      rw [Nat.add_mul, Nat.mul_assoc]
      omega
theorem dec_nat (n : Nat) : Lib.decNat (Lib.decDigits n) = some n := by
  obtain ⟨p, h, _⟩ := dec_val n 0
  unfold Lib.decNat
  cases hd : Lib.decDigits n with
  | nil => exact absurd hd (dec_ne n)
  | cons b l => rw [hd] at h; simpa using h
theorem dec_inj {n m : Nat} (h : Lib.decDigits n = Lib.decDigits m) : n = m := by
  have a := dec_nat n
  rw [h, dec_nat m] at a
  exact (Option.some.inj a).symm
theorem dec_atoi {n : Nat} (h : n ≤ 100000) : Lib.atoiAll (Lib.decDigits n) = .ok (n : Int) := by
  have hl := dec_len h
  rw [Lib.atoiAll_short _ (by omega)]
  have hv := dec_nat n
  have hd := dec_digit n
  cases he : Lib.decDigits n with
  | nil => exact absurd he (dec_ne n)
  | cons b l =>
    rw [he] at hv hd
    have hb := hd b (by simp)
    unfold Lib.atoi
    have h1 : (b == 45) = false := by rw [beq_eq_false_iff_ne]; rintro rfl; simp at hb
    have h2 : (b == 43) = false := by rw [beq_eq_false_iff_ne]; rintro rfl; simp at hb
    simp only [h1, h2, Bool.false_eq_true, if_false, hv]
    rfl
def numP (d : List UInt8) : Int × Bool := match Lib.atoiAll d with
  | .ok v => (v, decide (0 ≤ v) && decide (Lib.itoa v = d))
  | .range => (Lib.atoiSat d, false)
  | _ => (0, false)
theorem numP_true {d : List UInt8} (h : (numP d).2 = true) : ∃ n : Nat, (numP d).1 = n ∧ d = Lib.decDigits n := by
  unfold numP at h ⊢
  cases ha : Lib.atoiAll d with
  | ok v =>
    rw [ha] at h
    simp only [Bool.and_eq_true, decide_eq_true_eq] at h
    obtain ⟨h0, h1⟩ := h
    obtain ⟨n, rfl⟩ := Int.eq_ofNat_of_zero_le h0
    exact ⟨n, rfl, by rw [← h1]; exact Lib.itoa_nonneg n⟩
  | _ => rw [ha] at h; cases h
theorem numP_yes {n : Nat} (h : n ≤ 100000) : numP (Lib.decDigits n) = ((n : Int), true) := by
  unfold numP
  rw [dec_atoi h]
  simp [Lib.itoa_nonneg]
def spanP (d : List UInt8) : Int × Int × Bool := ((numP (Lib.cut d [44]).1).1, (numP (Lib.cut d [44]).2.1).1, (Lib.cut d [44]).2.2 && (numP (Lib.cut d [44]).1).2 && (numP (Lib.cut d [44]).2.1).2)
theorem cut_true {s sep : List UInt8} (h : (Lib.cut s sep).2.2 = true) : s = (Lib.cut s sep).1 ++ sep ++ (Lib.cut s sep).2.1 := by
  unfold Lib.cut at h ⊢
  by_cases hi : 0 ≤ Lib.index s sep
  · rw [if_pos hi]
    obtain ⟨k, hk⟩ := Int.eq_ofNat_of_zero_le hi
    have ho : Lib.occAt s sep k = true := by
      rcases Lib.index_spec s sep with ⟨h1, _⟩ | ⟨i, h1, _, h2, _⟩
      · omega
      · obtain rfl : i = k := by omega
        exact h2
    simp only [hk, Int.toNat_natCast]
    unfold Lib.occAt at ho
    rw [List.isPrefixOf_iff_prefix] at ho
    obtain ⟨t, ht⟩ := ho
    have h2 : s.drop (k + sep.length) = t := by rw [← List.drop_drop, ← ht, List.drop_left' rfl]
    rw [h2, List.append_assoc, ht, List.take_append_drop]
  · rw [if_neg hi] at h
    cases h
theorem cut_at {a b sep : List UInt8} {c : UInt8} {t : List UInt8} (hs : sep = c :: t) (ha : c ∉ a) : Lib.cut (a ++ sep ++ b) sep = (a, b, true) := by
  have hi : Lib.index (a ++ sep ++ b) sep = a.length := by
    refine Lib.index_first (by simp) ?_ ?_
    · unfold Lib.occAt
      rw [List.append_assoc, List.drop_left' rfl]
      simp
    · intro j hj
      cases h : Lib.occAt (a ++ sep ++ b) sep j with
      | false => rfl
      | true =>
        exfalso
        have := Lib.occAt_head hs h
        rw [List.append_assoc, List.getElem?_append_left hj, List.getElem?_eq_getElem hj] at this
        exact ha (Option.some.inj this ▸ List.getElem_mem hj)
  unfold Lib.cut
  rw [hi, if_pos (by omega)]
  have e1 : ((a.length : Nat) : Int).toNat = a.length := by simp
  simp only [e1]
  rw [List.append_assoc, List.take_left' rfl]
  rw [← List.append_assoc, List.drop_left' (by simp)]
def spanL (f c : Nat) : List UInt8 := Lib.decDigits f ++ [44] ++ Lib.decDigits c
theorem dec_not {n : Nat} {c : UInt8} (hc : c.toNat < 48) : c ∉ Lib.decDigits n := fun hm => by have := dec_digit n c hm; omega
theorem spanL_not {f c : Nat} {x : UInt8} (hx : x.toNat < 44) : x ∉ spanL f c := by
  intro hm
  unfold spanL at hm
  rw [List.mem_append, List.mem_append] at hm
  rcases hm with (hm | hm) | hm
  · exact dec_not (by omega) hm
  · rw [List.mem_singleton] at hm; subst hm; simp at hx
  · exact dec_not (by omega) hm
theorem spanL_len {f c : Nat} (h1 : f ≤ 100000) (h2 : c ≤ 100000) : (spanL f c).length ≤ 13 := by
  have := dec_len h1; have := dec_len h2; simp [spanL]; omega
theorem spanP_true {d : List UInt8} (h : (spanP d).2.2 = true) : ∃ f c : Nat, (spanP d).1 = f ∧ (spanP d).2.1 = c ∧ d = spanL f c := by
  unfold spanP at h ⊢
  simp only [Bool.and_eq_true] at h
  obtain ⟨⟨h0, h1⟩, h2⟩ := h
  obtain ⟨f, f1, f2⟩ := numP_true h1
  obtain ⟨c, c1, c2⟩ := numP_true h2
  refine ⟨f, c, f1, c1, ?_⟩
  unfold spanL
  rw [← f2, ← c2]
  exact cut_true h0
theorem spanP_yes {f c : Nat} (h1 : f ≤ 100000) (h2 : c ≤ 100000) : spanP (spanL f c) = ((f : Int), (c : Int), true) := by
  have hc : Lib.cut (spanL f c) [44] = (Lib.decDigits f, Lib.decDigits c, true) := cut_at (sep := [44]) rfl (dec_not (by decide))
  unfold spanP
  rw [hc, numP_yes h1, numP_yes h2]
  rfl
def headL (a b c d : Nat) : List UInt8 := [64, 64, 32, 45] ++ spanL a b ++ [32, 43] ++ spanL c d ++ [32, 64, 64]
structure HP where
  fr : Int
  fc : Int
  tr : Int
  tc : Int
  ok : Bool
def headC (line : List UInt8) : List UInt8 × List UInt8 × Bool := Lib.cut (Lib.trimSuffix (Lib.trimPrefix line [64, 64, 32, 45]) [32, 64, 64]) [32, 43]
def headP (line : List UInt8) : HP :=
  ⟨(spanP (headC line).1).1, (spanP (headC line).1).2.1, (spanP (headC line).2.1).1, (spanP (headC line).2.1).2.1,
    Lib.hasPrefix line [64, 64, 32, 45] && Lib.hasSuffix (Lib.trimPrefix line [64, 64, 32, 45]) [32, 64, 64] && (headC line).2.2 && (spanP (headC line).1).2.2 && (spanP (headC line).2.1).2.2⟩
theorem headP_true {line : List UInt8} (h : (headP line).ok = true) : ∃ a b c d : Nat, (headP line).fr = a ∧ (headP line).fc = b ∧ (headP line).tr = c ∧ (headP line).tc = d ∧ line = headL a b c d := by
  unfold headP at h ⊢
  simp only [Bool.and_eq_true] at h ⊢
  obtain ⟨⟨⟨⟨h1, h2⟩, h3⟩, h4⟩, h5⟩ := h
  obtain ⟨a, b, a1, b1, e1⟩ := spanP_true h4
  obtain ⟨c, d, c1, d1, e2⟩ := spanP_true h5
  refine ⟨a, b, c, d, a1, b1, c1, d1, ?_⟩
  have e3 : Lib.trimSuffix (Lib.trimPrefix line [64, 64, 32, 45]) [32, 64, 64] = spanL a b ++ [32, 43] ++ spanL c d := by
    have := cut_true h3
    rw [← e1, ← e2]
    exact this
  have e4 : line = [64, 64, 32, 45] ++ Lib.trimPrefix line [64, 64, 32, 45] := by
    unfold Lib.trimPrefix
    rw [if_pos h1]
    unfold Lib.hasPrefix at h1
    rw [List.isPrefixOf_iff_prefix] at h1
    obtain ⟨t, rfl⟩ := h1
    rw [List.drop_left' rfl]
  have e5 : Lib.trimPrefix line [64, 64, 32, 45] = Lib.trimSuffix (Lib.trimPrefix line [64, 64, 32, 45]) [32, 64, 64] ++ [32, 64, 64] := by
    generalize Lib.trimPrefix line [64, 64, 32, 45] = m at h2 ⊢
    unfold Lib.trimSuffix
    rw [if_pos h2]
    unfold Lib.hasSuffix at h2
    rw [List.isSuffixOf_iff_suffix] at h2
    obtain ⟨t, rfl⟩ := h2
    rw [List.take_left' (by simp only [List.length_append]; omega)]
  rw [e4, e5, e3]
  simp [headL]
theorem headP_yes {a b c d : Nat} (h1 : a ≤ 100000) (h2 : b ≤ 100000) (h3 : c ≤ 100000) (h4 : d ≤ 100000) : headP (headL a b c d) = ⟨(a : Int), (b : Int), (c : Int), (d : Int), true⟩ := by
  have e0 : headL a b c d = [64, 64, 32, 45] ++ ((spanL a b ++ [32, 43] ++ spanL c d) ++ [32, 64, 64]) := by simp [headL]
  have p1 : Lib.hasPrefix (headL a b c d) [64, 64, 32, 45] = true := by rw [e0]; unfold Lib.hasPrefix; simp
  have p2 : Lib.trimPrefix (headL a b c d) [64, 64, 32, 45] = (spanL a b ++ [32, 43] ++ spanL c d) ++ [32, 64, 64] := by
    unfold Lib.trimPrefix; rw [if_pos p1, e0, List.drop_left' rfl]
  have p3 : Lib.hasSuffix ((spanL a b ++ [32, 43] ++ spanL c d) ++ [32, 64, 64]) [32, 64, 64] = true := by unfold Lib.hasSuffix; rw [List.isSuffixOf_iff_suffix]; exact ⟨_, rfl⟩
  have p4 : Lib.trimSuffix ((spanL a b ++ [32, 43] ++ spanL c d) ++ [32, 64, 64]) [32, 64, 64] = spanL a b ++ [32, 43] ++ spanL c d := by
    unfold Lib.trimSuffix; rw [if_pos p3, List.take_left' (by simp only [List.length_append]; omega)]
  have p5 : headC (headL a b c d) = (spanL a b, spanL c d, true) := by
    unfold headC
    rw [p2, p4]
    exact cut_at (sep := [32, 43]) rfl (spanL_not (by decide))
  unfold headP
  rw [p5, p2, p3, p1, spanP_yes h1 h2, spanP_yes h3 h4]
  rfl
theorem headL_len {a b c d : Nat} (h1 : a ≤ 100000) (h2 : b ≤ 100000) (h3 : c ≤ 100000) (h4 : d ≤ 100000) : (headL a b c d).length ≤ 35 := by
  have := spanL_len h1 h2; have := spanL_len h3 h4; simp [headL]; omega
end Go.Proofs.YtcclgodahlinbaaGreatDoor
namespace Go.Proofs.YtcclgodahlinbaaGreatDoor
open Go.RowKit Go
set_option maxRecDepth 100000
structure GlobP (w : World) : Prop where
  g : Glob w
  er : ∃ ev, w.cell? ⟨5, 0, none⟩ = some ev ∧ (ev = .nilIface ∨ ∃ te pe, ev = .iface te pe)
  tab : Lib.TabIs Tryz.prog w "internal/strconv.uint64pow10" .u64 Lib.pow10Tab
  sz : 6 ≤ w.heap.size
theorem tab_same {w w' : World} (h : Lib.TabIs Tryz.prog w "internal/strconv.uint64pow10" .u64 Lib.pow10Tab) (hs : ∀ g, g < 6 → w'.heap[g]? = w.heap[g]?) : Lib.TabIs Tryz.prog w' "internal/strconv.uint64pow10" .u64 Lib.pow10Tab := by
  have hg : Tryz.prog.globalNamed "internal/strconv.uint64pow10" = some 3 := by kernel_rfl
  unfold Lib.TabIs World.var? at *
  simp only [hg, Option.bind_some] at h ⊢
  rw [hs 3 (by decide)]
  exact h
theorem GlobP.below {w w' : World} {N : Nat} (h : GlobP w) (hb : Below N w w') (hN : 6 ≤ N) (hs : w.heap.size ≤ w'.heap.size) : GlobP w' := by
  obtain ⟨ev, he, hc⟩ := h.er
  have := h.sz
  exact ⟨h.g.below hb (by omega) hs, ⟨ev, (hb.cell (p := ⟨5, 0, none⟩) (by show 5 < N; omega)).trans he, hc⟩, tab_same h.tab fun g hg => hb.block g (by omega), by omega⟩
theorem GlobP.next {w w' : World} (h : GlobP w) (hb : Below w.heap.size w w') : GlobP w' := h.below hb h.sz hb.size
theorem below_grow (w : World) (k : Nat) (os : Array Obj) : Below w.heap.size w (Sort.grow (w.drewN k) os) :=
  ⟨rfl, rfl, rfl, by show w.heap.size ≤ (w.heap ++ os).size; simp, fun g hg => by show (w.heap ++ os)[g]? = _; rw [Array.getElem?_append_left hg]⟩
theorem itoa_any {n : Int} (h0 : -9223372036854775808 ≤ n) (h1 : n ≤ 9223372036854775807) {w : World} (hg : GlobP w) : Calls Tryz.prog 133 #[.int .i64 n] w fun e w' => e = .returned (.string ⟨(Lib.itoa n).toArray⟩) ∧ Below w.heap.size w w' := by
  refine (Tryz.strconv_Itoa n h0 h1 w hg.tab).mono ?_
  rintro e w' ⟨rfl, k, os, rfl⟩
  exact ⟨rfl, below_grow w k os⟩
theorem itoa_nat {n : Nat} (h1 : n ≤ 100000) {w : World} (hg : GlobP w) : Calls Tryz.prog 133 #[.int .i64 (n : Int)] w fun e w' => e = .returned (.string ⟨(Lib.decDigits n).toArray⟩) ∧ Below w.heap.size w w' := by
  have := itoa_any (n := (n : Int)) (by omega) (by omega) hg
  rwa [Lib.itoa_nonneg] at this
theorem atoi_any {d : List UInt8} (hl : d.length ≤ 100000) {w : World} (hg : GlobP w) : Calls Tryz.prog 154 #[.string ⟨d.toArray⟩] w fun e w' => ((∃ v, Lib.atoiAll d = .ok v ∧ e = .returned (.tuple #[.int .i64 v, .nilIface])) ∨ (numP d = ((numP d).1, false) ∧ ∃ t p, e = .returned (.tuple #[.int .i64 (numP d).1, .iface t p]))) ∧ Below w.heap.size w w' := by
  have hsz : (⟨d.toArray⟩ : ByteArray).size = d.length := by show d.toArray.size = _; simp
  cases ha : Lib.atoiAll d with
  | ok v =>
    refine (Tryz.strconv_Atoi_ok ⟨d.toArray⟩ (by omega) v (by simpa using ha) w).mono ?_
    rintro e w' ⟨rfl, h⟩
    refine ⟨.inl ⟨v, rfl, rfl⟩, ?_⟩
    rcases h with rfl | ⟨t, rfl⟩
    · exact Below.refl _ _
    · exact Lib.bytesWorld_below _ _ _
  | range =>
    obtain ⟨ev, he, hc⟩ := hg.er
    have hn : numP d = (Lib.atoiSat d, false) := by unfold numP; rw [ha]
    refine (Tryz.strconv_Atoi_range ⟨d.toArray⟩ (by omega) (by simpa using ha) ev w he hc).mono ?_
    rintro e w' ⟨N, t, rfl, hb⟩
    exact ⟨.inr ⟨by rw [hn], t, _, by rw [hn]⟩, hb⟩
  | _ =>
    obtain ⟨ev, he, hc⟩ := hg.g.es
    have hn : numP d = (0, false) := by unfold numP; rw [ha]
    refine (Tryz.strconv_Atoi_syntax ⟨d.toArray⟩ (by omega) (ha.trans rfl) ev w he hc).mono ?_
    rintro e w' ⟨N, rfl, _, _, hb⟩
    exact ⟨.inr ⟨by rw [hn], _, _, by rw [hn]⟩, hb⟩
set_option maxHeartbeats 2000000 in
theorem readNumber_any {d : List UInt8} (hl : d.length ≤ 100000) {w : World} (hg : GlobP w) : Calls Tryz.prog 150 #[.string ⟨d.toArray⟩] w fun e w' => e = .returned (.tuple #[.int .i64 (numP d).1, .bool (numP d).2]) ∧ Below w.heap.size w w' := by
  have m1 := atoi_any hl hg
  have m2 : Hid (∀ v w1, Lib.atoiAll d = .ok v → Below w.heap.size w w1 → Calls Tryz.prog 133 #[.int .i64 v] w1 fun e w' => e = .returned (.string ⟨(Lib.itoa v).toArray⟩) ∧ Below w1.heap.size w1 w') := by
    intro v w1 hv hb
    have := Lib.atoiAll_bounds hv
    exact itoa_any this.1 this.2 (hg.next hb)
  have m3 : Hid (∀ v, Lib.atoiAll d = .ok v → numP d = (v, decide (0 ≤ v) && decide (Lib.itoa v = d))) := fun v hv => by unfold numP; rw [hv]
  have m4 : Hid (∀ v, (((⟨(Lib.itoa v).toArray⟩ : ByteArray).toList == (⟨d.toArray⟩ : ByteArray).toList)) = decide (Lib.itoa v = d)) := by
    intro v
    rw [Lib.toList_data, Lib.toList_data]
    by_cases h : Lib.itoa v = d
    · simp [h]
    · simp [h]
  generalize hsd : (⟨d.toArray⟩ : ByteArray) = sd at *
  clear hsd
  go_enter Tryz.func150, Tryz.ntmps150
  go_wp2_with fail
  refine m1.mono ?_
  rintro e w1 ⟨h | ⟨hn, t, p, rfl⟩, hb⟩
  · obtain ⟨v, hv, rfl⟩ := h
    have hnm : Hid (numP d = (v, decide (0 ≤ v) && decide (Lib.itoa v = d))) := m3.out v hv
    have hI := m2.out v w1 hv hb
    have h4 : Hid _ := m4.out v
    clear hv m3 m2 m4 m1
    generalize hIT : (⟨(Lib.itoa v).toArray⟩ : ByteArray) = sI at *
    clear hIT
    by_cases h0 : 0 ≤ v
    · go_wp2_with (go_at_call 133; refine hI.mono ?_; rintro e w2 ⟨rfl, hb2⟩)
      go_ret2
      exact ⟨by rw [hnm.out, decide_eq_true h0, Bool.true_and, ← h4.out]; rfl, hb.trans (hb2.mono hb.size)⟩
    · go_wp2_with fail
      go_ret2
      exact ⟨by rw [hnm.out, decide_eq_false (show ¬ 0 ≤ v by omega), Bool.false_and]; rfl, hb⟩
  · have hnH : Hid (numP d = ((numP d).1, false)) := hn
    clear hn
    go_wp2_with fail
    go_ret2
    exact ⟨by rw [hnH.out]; rfl, hb⟩
theorem cut_call {a sep : List UInt8} (hl : a.length ≤ 100000) {w : World} (hg : GlobP w) :
    Calls Tryz.prog 34 #[.string ⟨a.toArray⟩, .string ⟨sep.toArray⟩] w fun e w' => e = .returned (.tuple #[.string ⟨(Lib.cut a sep).1.toArray⟩, .string ⟨(Lib.cut a sep).2.1.toArray⟩, .bool (Lib.cut a sep).2.2]) ∧ Below w.heap.size w w' := by
  obtain ⟨m, hm⟩ := hg.g.ml
  have hz : (⟨a.toArray⟩ : ByteArray).size = a.length := by show a.toArray.size = _; simp
  refine (Tryz.strings_Cut ⟨a.toArray⟩ ⟨sep.toArray⟩ m w (by omega) hm).mono ?_
  rintro e w' ⟨rfl, n, rfl⟩
  exact ⟨rfl, below_drewN _ n⟩
theorem cut_lens (a sep : List UInt8) : (Lib.cut a sep).1.length ≤ a.length ∧ (Lib.cut a sep).2.1.length ≤ a.length := by
  unfold Lib.cut
  split
  · exact ⟨by rw [List.length_take]; omega, by rw [List.length_drop]; omega⟩
  · exact ⟨Nat.le_refl _, by simp⟩
set_option maxHeartbeats 2000000 in
theorem readSpan_any {d : List UInt8} (hl : d.length ≤ 100000) {w : World} (hg : GlobP w) : Calls Tryz.prog 140 #[.string ⟨d.toArray⟩] w fun e w' => e = .returned (.tuple #[.int .i64 (spanP d).1, .int .i64 (spanP d).2.1, .bool (spanP d).2.2]) ∧ Below w.heap.size w w' := by
  have m0 := cut_call (sep := [44]) hl hg
  have hcl := cut_lens d [44]
  have m1 : Hid (∀ w1, Below w.heap.size w w1 → Calls Tryz.prog 150 #[.string ⟨(Lib.cut d [44]).1.toArray⟩] w1 fun e w' => e = .returned (.tuple #[.int .i64 (numP (Lib.cut d [44]).1).1, .bool (numP (Lib.cut d [44]).1).2]) ∧ Below w1.heap.size w1 w') := fun w1 hb => readNumber_any (by omega) (hg.next hb)
  have m2 : Hid (∀ w1, Below w.heap.size w w1 → Calls Tryz.prog 150 #[.string ⟨(Lib.cut d [44]).2.1.toArray⟩] w1 fun e w' => e = .returned (.tuple #[.int .i64 (numP (Lib.cut d [44]).2.1).1, .bool (numP (Lib.cut d [44]).2.1).2]) ∧ Below w1.heap.size w1 w') := fun w1 hb => readNumber_any (by omega) (hg.next hb)
  unfold spanP
  generalize (⟨d.toArray⟩ : ByteArray) = sd at *
  generalize (numP (Lib.cut d [44]).1) = n1 at *
  generalize (numP (Lib.cut d [44]).2.1) = n2 at *
  generalize (⟨(Lib.cut d [44]).1.toArray⟩ : ByteArray) = s1 at *
  generalize (⟨(Lib.cut d [44]).2.1.toArray⟩ : ByteArray) = s2 at *
  generalize (Lib.cut d [44]).2.2 = cb at *
  obtain ⟨n1, b1⟩ := n1
  obtain ⟨n2, b2⟩ := n2
  clear hcl
  go_enter Tryz.func140, Tryz.ntmps140
  go_wp2_with fail
  refine m0.mono ?_
  rintro e w1 ⟨rfl, hb1⟩
  go_wp2_with fail
  refine (m1.out w1 hb1).mono ?_
  rintro e w2 ⟨rfl, hb2⟩
  have hb12 := hb1.trans (hb2.mono hb1.size)
  go_wp2_with fail
  refine (m2.out w2 hb12).mono ?_
  rintro e w3 ⟨rfl, hb3⟩
  have hb := hb12.trans (hb3.mono hb12.size)
  cases cb
  · go_wp2_with fail
    go_ret3
    exact ⟨rfl, hb⟩
  · cases b1
    · go_wp2_with fail
      go_ret3
      exact ⟨rfl, hb⟩
    · go_wp2_with fail
      go_ret3
      exact ⟨rfl, hb⟩
def HP.hi (p : HP) : HI := ⟨p.fr, p.fc, p.tr, p.tc, []⟩
set_option maxHeartbeats 4000000 in
theorem readHeader_any {d : List UInt8} (hl : d.length ≤ 100000) {w : World} (hg : GlobP w) : Calls Tryz.prog 111 #[.string ⟨d.toArray⟩] w fun e w' => e = .returned (.tuple #[hiVal (headP d).hi (.slice none 0 0), .bool (headP d).ok]) ∧ Below w.heap.size w w' := by
  have hB0 := heap_alloc_new w hunk0
  have hb0 := (Below.refl w.heap.size w).alloc (Nat.le_refl _) hunk0
  have hg0 := hg.next hb0
  have hz0 : (w.alloc hunk0).heap.size = w.heap.size + 1 := by simp
  have l1 : (Lib.trimPrefix d [64, 64, 32, 45]).length ≤ 100000 := by
    unfold Lib.trimPrefix
    split
    · rw [List.length_drop]; omega
    · exact hl
  have l2 : (Lib.trimSuffix (Lib.trimPrefix d [64, 64, 32, 45]) [32, 64, 64]).length ≤ 100000 := by
    generalize Lib.trimPrefix d [64, 64, 32, 45] = m at l1
    unfold Lib.trimSuffix
    split
    · rw [List.length_take]; omega
    · exact l1
  have hcl := cut_lens (Lib.trimSuffix (Lib.trimPrefix d [64, 64, 32, 45]) [32, 64, 64]) [32, 43]
  have c1 := fun w => Tryz.strings_CutPrefix ⟨d.toArray⟩ ⟨[64, 64, 32, 45].toArray⟩ w
  have c2 := fun w => Tryz.strings_CutSuffix ⟨(Lib.trimPrefix d [64, 64, 32, 45]).toArray⟩ ⟨[32, 64, 64].toArray⟩ w (by rw [size_mk]; omega)
  have c3 := fun (w : World) (hg : GlobP w) => cut_call (a := Lib.trimSuffix (Lib.trimPrefix d [64, 64, 32, 45]) [32, 64, 64]) (sep := [32, 43]) (w := w) l2 hg
  have c4 := fun (w : World) (hg : GlobP w) => readSpan_any (d := (headC d).1) (w := w) (Nat.le_trans hcl.1 l2) hg
  have c5 := fun (w : World) (hg : GlobP w) => readSpan_any (d := (headC d).2.1) (w := w) (Nat.le_trans hcl.2 l2) hg
  have hH : headP d = ⟨(spanP (headC d).1).1, (spanP (headC d).1).2.1, (spanP (headC d).2.1).1, (spanP (headC d).2.1).2.1,
    Lib.hasPrefix d [64, 64, 32, 45] && Lib.hasSuffix (Lib.trimPrefix d [64, 64, 32, 45]) [32, 64, 64] && (headC d).2.2 && (spanP (headC d).1).2.2 && (spanP (headC d).2.1).2.2⟩ := rfl
  rw [hH]
  clear hH
  have e1 : (⟨d.toArray⟩ : ByteArray).data.toList = d := by simp
  have e2 : (⟨(Lib.trimPrefix d [64, 64, 32, 45]).toArray⟩ : ByteArray).data.toList = Lib.trimPrefix d [64, 64, 32, 45] := by simp
  rw [e1] at c1
  rw [e2] at c2
  have e3 : (⟨[64, 64, 32, 45].toArray⟩ : ByteArray).data.toList = [64, 64, 32, 45] := rfl
  have e4 : (⟨[32, 64, 64].toArray⟩ : ByteArray).data.toList = [32, 64, 64] := rfl
  rw [e3] at c1
  rw [e4] at c2
  have hC : Lib.cut (Lib.trimSuffix (Lib.trimPrefix d [64, 64, 32, 45]) [32, 64, 64]) [32, 43] = headC d := rfl
  rw [hC] at c3
  clear e1 e2 e3 e4 hC l1 l2 hcl
  generalize Lib.hasPrefix d [64, 64, 32, 45] = b1 at *
  generalize Lib.hasSuffix (Lib.trimPrefix d [64, 64, 32, 45]) [32, 64, 64] = b2 at *
  generalize (⟨(Lib.trimSuffix (Lib.trimPrefix d [64, 64, 32, 45]) [32, 64, 64]).toArray⟩ : ByteArray) = t2 at *
  generalize (⟨(Lib.trimPrefix d [64, 64, 32, 45]).toArray⟩ : ByteArray) = t1 at *
  generalize (⟨d.toArray⟩ : ByteArray) = t0 at *
  generalize spanP (headC d).1 = o at *
  generalize spanP (headC d).2.1 = f at *
  generalize (⟨(headC d).1.toArray⟩ : ByteArray) = t3 at *
  generalize (⟨(headC d).2.1.toArray⟩ : ByteArray) = t4 at *
  generalize (headC d).2.2 = b3 at *
  obtain ⟨o1, o2, b4⟩ := o
  obtain ⟨f1, f2, b5⟩ := f
  have hfin : Hid (∀ w1, Below (w.alloc hunk0).heap.size (w.alloc hunk0) w1 → w1.heap[w.heap.size]? = some hunk0 ∧ Below w.heap.size w w1 ∧ w.heap.size < w1.heap.size) := by
    intro w1 h1
    exact ⟨(h1.block w.heap.size (by omega)).trans hB0, hb0.trans (h1.mono (by omega)), by have := h1.size; omega⟩
  clear hB0 hb0
  go_enter Tryz.func111, Tryz.ntmps111
  go_wp2_with fail
  generalize w.alloc hunk0 = W0 at *
  refine (c1 _).mono ?_
  rintro e w' ⟨rfl, rfl⟩
  go_wp2_with fail
  refine (c2 _).mono ?_
  rintro e w' ⟨rfl, rfl⟩
  go_wp2_with fail
  refine (c3 _ hg0).mono ?_
  rintro e w1 ⟨rfl, hb1⟩
  have hg1 := hg0.next hb1
  go_wp2_with fail
  refine (c4 _ hg1).mono ?_
  rintro e w2 ⟨rfl, hb2⟩
  have hg2 := hg1.next hb2
  go_wp2_with fail
  refine (c5 _ hg2).mono ?_
  rintro e w3 ⟨rfl, hb3⟩
  obtain ⟨hB3, hbw, hlt⟩ := hfin.out w3 (hb_trans3 hb1 hb2 hb3)
  have z := fun k => frozen_of (k := k) hB3
  have r0 := cell_of (k := 0) hB3 rfl
  have r1 := cell_of (k := 1) hB3 rfl
  have r2 := cell_of (k := 2) hB3 rfl
  have r3 := cell_of (k := 3) hB3 rfl
  have r4 := cell_of (k := 4) hB3 rfl
  have hF := set5 hB3 (.cells #[.int .i64 o1, .int .i64 o2, .int .i64 f1, .int .i64 f2, .slice none 0 0] 61) (.int .i64 o1) (.int .i64 o2) (.int .i64 f1) (.int .i64 f2) (.slice none 0 0)
  have hbF := (((((hbw.setCell (p := ⟨w.heap.size, 0, none⟩) (Nat.le_refl _) (.int .i64 o1)).setCell (p := ⟨w.heap.size, 1, none⟩) (Nat.le_refl _) (.int .i64 o2)).setCell (p := ⟨w.heap.size, 2, none⟩) (Nat.le_refl _) (.int .i64 f1)).setCell (p := ⟨w.heap.size, 3, none⟩) (Nat.le_refl _) (.int .i64 f2)).setCell (p := ⟨w.heap.size, 4, none⟩) (Nat.le_refl _) (.slice none 0 0)).alloc (by simp; omega) (.cells #[.int .i64 o1, .int .i64 o2, .int .i64 f1, .int .i64 f2, .slice none 0 0] 61)
  have hlast : Hid (∀ b, b = (b1 && b2 && b3 && b4 && b5) → b = (b1 && b2 && b3 && b4 && b5)) := fun _ h => h
  have key : ∀ b, b = (b1 && b2 && b3 && b4 && b5) → (.tuple #[.agg #[.int .i64 o1, .int .i64 o2, .int .i64 f1, .int .i64 f2, .slice none 0 0], .bool b] : Value) = .tuple #[hiVal (HP.hi ⟨o1, o2, f1, f2, b1 && b2 && b3 && b4 && b5⟩) (.slice none 0 0), .bool (b1 && b2 && b3 && b4 && b5)] := fun b h => by rw [h]; rfl
  have hkey : Hid _ := key
  clear key hlast
  have r0' := cell_of (k := 0) hF rfl
  have r1' := cell_of (k := 1) hF rfl
  have r2' := cell_of (k := 2) hF rfl
  have r3' := cell_of (k := 3) hF rfl
  have r4' := cell_of (k := 4) hF rfl
  cases b1
  · go_wp2_with fail
    refine bodyPost_ret (v := .tuple #[.agg #[.int .i64 o1, .int .i64 o2, .int .i64 f1, .int .i64 f2, .slice none 0 0], .bool false]) ?_ rfl ⟨by rw [hkey.out false rfl], hbF⟩
    simp [results, Tryz.results111, go_sem, r0', r1', r2', r3', r4']
  · cases b2
    · go_wp2_with fail
      refine bodyPost_ret (v := .tuple #[.agg #[.int .i64 o1, .int .i64 o2, .int .i64 f1, .int .i64 f2, .slice none 0 0], .bool false]) ?_ rfl ⟨by rw [hkey.out false rfl], hbF⟩
      simp [results, Tryz.results111, go_sem, r0', r1', r2', r3', r4']
    · cases b3
      · go_wp2_with fail
        refine bodyPost_ret (v := .tuple #[.agg #[.int .i64 o1, .int .i64 o2, .int .i64 f1, .int .i64 f2, .slice none 0 0], .bool false]) ?_ rfl ⟨by rw [hkey.out false rfl], hbF⟩
        simp [results, Tryz.results111, go_sem, r0', r1', r2', r3', r4']
      · cases b4
        · go_wp2_with fail
          refine bodyPost_ret (v := .tuple #[.agg #[.int .i64 o1, .int .i64 o2, .int .i64 f1, .int .i64 f2, .slice none 0 0], .bool false]) ?_ rfl ⟨by rw [hkey.out false rfl], hbF⟩
          simp [results, Tryz.results111, go_sem, r0', r1', r2', r3', r4']
        · go_wp2_with fail
          refine bodyPost_ret (v := .tuple #[.agg #[.int .i64 o1, .int .i64 o2, .int .i64 f1, .int .i64 f2, .slice none 0 0], .bool b5]) ?_ rfl ⟨by rw [hkey.out b5 rfl], hbF⟩
          simp [results, Tryz.results111, go_sem, r0', r1', r2', r3', r4']
end Go.Proofs.YtcclgodahlinbaaGreatDoor
namespace Go.Proofs.YtcclgodahlinbaaGreatDoor
open Go
set_option maxRecDepth 100000
def dig (c : UInt8) : Bool := decide (48 ≤ c.toNat) && decide (c.toNat ≤ 57)
theorem dig_iff {c : UInt8} : dig c = true ↔ 48 ≤ c.toNat ∧ c.toNat ≤ 57 := by unfold dig; simp
theorem dig_val {c : UInt8} (h : dig c = true) : Lib.digitVal c = some (c.toNat - 48) := by
  unfold Lib.digitVal; rw [if_pos (dig_iff.1 h)]
def digs (l : List UInt8) : List UInt8 := l.takeWhile dig
theorem digs_dec {n : Nat} {E : List UInt8} (hE : ∀ c, E.head? = some c → dig c = false) : digs (Lib.decDigits n ++ E) = Lib.decDigits n := by
  unfold digs
  rw [List.takeWhile_append_of_pos (fun c hc => dig_iff.2 (dec_digit n c hc))]
  cases E with
  | nil => simp
  | cons c E => rw [List.takeWhile_cons_of_neg (by rw [hE c rfl]; simp)]; simp
theorem dec_zero_head {n : Nat} {t : List UInt8} : ∀ {l : List UInt8}, l = Lib.decDigits n → l = 48 :: t → n = 0 := by
  have key : ∀ n : Nat, 1 ≤ n → ∃ c r, Lib.decDigits n = c :: r ∧ c ≠ 48 := by
    intro n
    induction n using Nat.strongRecOn with
    | _ n ih =>
      intro hn
      rw [Lib.decDigits]
      by_cases h : n < 10
      · rw [dif_pos h]
        refine ⟨_, [], rfl, fun e => ?_⟩
        have e2 := congrArg UInt8.toNat e
        have : (UInt8.ofNat (48 + n)).toNat = 48 + n := by simp; omega
        rw [this] at e2
        simp at e2
        omega
      · rw [dif_neg h]
        obtain ⟨c, r, e, hc⟩ := ih (n / 10) (by omega) (by omega)
        exact ⟨c, r ++ [UInt8.ofNat (48 + n % 10)], by rw [e]; rfl, hc⟩
  intro l h1 h2
  rcases Nat.eq_zero_or_pos n with h | h
  · exact h
  · obtain ⟨c, r, e, hc⟩ := key n h
    rw [← h1, h2] at e
    cases e
    exact absurd rfl hc
theorem snocI {α : Type} {p : List α → Prop} (h0 : p []) (h1 : ∀ l a, p l → p (l ++ [a])) (l : List α) : p l := by
  have : ∀ m : List α, p m.reverse := by
    intro m
    induction m with
    | nil => exact h0
    | cons a m ih => rw [List.reverse_cons]; exact h1 _ _ ih
  have h := this l.reverse
  rwa [List.reverse_reverse] at h
theorem dec_of_val : ∀ (l : List UInt8) (n : Nat), l ≠ [] → (∀ c ∈ l, dig c = true) → Lib.decFrom 0 l = some n → (l.head? = some 48 → l.length = 1) → l = Lib.decDigits n := by
  intro l
  refine snocI (p := fun l => ∀ n, l ≠ [] → (∀ c ∈ l, dig c = true) → Lib.decFrom 0 l = some n → (l.head? = some 48 → l.length = 1) → l = Lib.decDigits n) ?_ ?_ l
  · intro n h; exact absurd rfl h
  · intro m b ih n _ hd hv h0
    have hb := hd b (by simp)
    have hbv := dig_val hb
    have hbr := dig_iff.1 hb
    have hlen : (m ++ [b])[m.length]? = some b := by simp
    cases hm : Lib.decFrom 0 m with
    | none =>
      exfalso
      have key : ∀ (m r : List UInt8) (acc : Nat), Lib.decFrom acc m = none → Lib.decFrom acc (m ++ r) = none := by
        intro m
        induction m with
        | nil => intro r acc h; simp [Lib.decFrom] at h
        | cons c m ihm =>
          intro r acc h
          rw [List.cons_append, Lib.decFrom]
          rw [Lib.decFrom] at h
          split
          · rename_i d hdv; rw [hdv] at h; exact ihm r _ h
          · rfl
      rw [key m [b] 0 hm] at hv
      cases hv
    | some k =>
      have hs := Lib.decFrom_take (m ++ [b]) m.length 0 k b _ (by rw [List.take_left' rfl]; exact hm) hlen hbv
      rw [List.take_of_length_le (by simp)] at hs
      rw [hs] at hv
      have hn : k * 10 + (b.toNat - 48) = n := Option.some.inj hv
      have hlast : UInt8.ofNat (48 + (b.toNat - 48)) = b := by rw [show 48 + (b.toNat - 48) = b.toNat by omega]; simp
      by_cases hm0 : m = []
      · subst hm0
        simp [Lib.decFrom] at hm
        subst hm
        rw [Lib.decDigits, dif_pos (by omega), ← hn, Nat.zero_mul, Nat.zero_add, hlast]
        rfl
      · have hhd : (m ++ [b]).head? = m.head? := by cases m with | nil => exact absurd rfl hm0 | cons c m => rfl
        have hno : m.head? ≠ some 48 := by
          intro e
          have := h0 (by rw [hhd]; exact e)
          simp at this
          exact hm0 this
        have e := ih k hm0 (fun c hc => hd c (by simp [hc])) hm (fun e => absurd e hno)
        have hk : 1 ≤ k := by
          rcases Nat.eq_zero_or_pos k with h | h
          · subst h
            exfalso
            rw [e, Lib.decDigits, dif_pos (by omega)] at hno
            exact hno rfl
          · exact h
        rw [Lib.decDigits, dif_neg (by omega), show n / 10 = k by omega, show n % 10 = b.toNat - 48 by omega, ← e, hlast]
def Fig (D : List UInt8) (n : Nat) (E : List UInt8) : Prop := n ≤ 100000 ∧ D = Lib.decDigits n ++ E ∧ ∀ c, E.head? = some c → dig c = false
theorem fig_yes {D : List UInt8} {j n : Nat} (hj : 1 ≤ j) (hv : Lib.decFrom 0 ((digs D).take j) = some n) (hl : j ≤ (digs D).length) (hend : j = (digs D).length ∨ j = 7) (hn : n ≤ 100000) (h0 : D.head? = some 48 → j = 1) :
    Fig D n (D.drop j) ∧ (Lib.decDigits n).length = j := by
  have hdg : ∀ c ∈ digs D, dig c = true := fun c hc => by
    have key : ∀ l : List UInt8, c ∈ l.takeWhile dig → dig c = true := by
      intro l
      induction l with
      | nil => intro h; simp at h
      | cons a l ih =>
        intro h
        by_cases ha : dig a = true
        · rw [List.takeWhile_cons_of_pos ha] at h
          rcases List.mem_cons.1 h with e | e
          · rw [e]; exact ha
          · exact ih e
        · rw [List.takeWhile_cons_of_neg ha] at h; simp at h
    exact key D hc
  have hpre : digs D <+: D := List.takeWhile_prefix _
  obtain ⟨T, hT⟩ := hpre
  have hne : (digs D).take j ≠ [] := fun e => by have := congrArg List.length e; rw [List.length_take, List.length_nil] at this; omega
  have hhd : ((digs D).take j).head? = D.head? := by
    cases hd : digs D with
    | nil => rw [hd] at hl; simp at hl; omega
    | cons c r =>
      obtain ⟨j, rfl⟩ : ∃ i, j = i + 1 := ⟨j - 1, by omega⟩
      rw [← hT, hd]; simp
  have e := dec_of_val _ n hne (fun c hc => hdg c (List.mem_of_mem_take hc)) hv (fun e => by rw [hhd] at e; rw [List.length_take]; have := h0 e; omega)
  have hlen : (Lib.decDigits n).length = j := by rw [← e, List.length_take]; omega
  have h6 := dec_len hn
  have hj2 : j = (digs D).length := by omega
  have e2 : digs D = Lib.decDigits n := by rw [← e, hj2, List.take_length]
  refine ⟨⟨hn, ?_, ?_⟩, hlen⟩
  · rw [← e2]
    have : D.drop j = T := by rw [← hT, List.drop_left' hj2.symm]
    rw [this, hT]
  · intro c hc
    have hT2 : D.drop j = T := by rw [← hT, List.drop_left' hj2.symm]
    rw [hT2] at hc
    cases hdc : dig c with
    | false => rfl
    | true =>
      exfalso
      cases T with
      | nil => cases hc
      | cons x T =>
        obtain rfl : x = c := Option.some.inj hc
        have h7 : D.takeWhile dig = digs D ++ x :: T.takeWhile dig := by
          conv => lhs; rw [← hT]
          rw [List.takeWhile_append_of_pos (fun x hx => hdg x hx), List.takeWhile_cons_of_pos hdc]
        have h8 := congrArg List.length h7
        have h9 : (D.takeWhile dig).length = (digs D).length := rfl
        rw [List.length_append, List.length_cons] at h8
        omega
theorem fig_no {D : List UInt8} {j n : Nat} (hv : Lib.decFrom 0 ((digs D).take j) = some n) (hend : j = (digs D).length ∨ j = 7) (hl : j ≤ (digs D).length) (hno : j = 0 ∨ 100000 < n ∨ (D.head? = some 48 ∧ 1 < j)) : ∀ m E, ¬ Fig D m E := by
  rintro m E ⟨h1, h2, h3⟩
  have hd : digs D = Lib.decDigits m := by rw [h2]; exact digs_dec h3
  have h6 := dec_len h1
  rw [hd] at hv hend hl
  have hj : j = (Lib.decDigits m).length := by omega
  rw [hj, List.take_length] at hv
  have hm := dec_nat m
  unfold Lib.decNat at hm
  rw [if_neg (by simp [dec_ne m]), hv] at hm
  have hnm : n = m := Option.some.inj hm
  rcases hno with h | h | ⟨h, hj1⟩
  · have := dec_pos m; omega
  · omega
  · cases hdm : Lib.decDigits m with
    | nil => exact dec_ne m hdm
    | cons c r =>
      rw [h2, hdm] at h
      simp at h
      subst h
      have hm0 : m = 0 := dec_zero_head rfl hdm
      subst hm0
      rw [hj, Lib.decDigits, dif_pos (by omega)] at hj1
      simp at hj1
def wordL : Nat → List UInt8
  | 0 => [64, 64, 32, 45]
  | 2 => [32, 43]
  | _ => [44]
def partL : Nat → List Nat → List UInt8
  | _, [] => []
  | i, n :: l => wordL i ++ Lib.decDigits n ++ partL (i + 1) l
theorem partL_snoc : ∀ (l : List Nat) (i n : Nat), partL i (l ++ [n]) = partL i l ++ (wordL (i + l.length) ++ Lib.decDigits n)
  | [], i, n => by simp [partL]
  | m :: l, i, n => by
    simp only [List.cons_append, partL, partL_snoc l (i + 1) n, List.length_cons]
    rw [show i + 1 + l.length = i + (l.length + 1) by omega]
    simp
theorem headL_part (a b c d : Nat) : headL a b c d = partL 0 [a, b, c, d] ++ [32, 64, 64] := by simp [headL, partL, wordL, spanL]
def headR : Nat → List Nat → List UInt8
  | i, l => partL i l ++ [32, 64, 64]
theorem headR_head (i : Nat) (hi : i ≤ 4) (l : List Nat) (hl : i = 0 → l ≠ [] → True) : 0 < i → ∀ c, (headR i l).head? = some c → dig c = false := by
  intro h0 c hc
  unfold headR at hc
  cases l with
  | nil => simp [partL] at hc; subst hc; decide
  | cons n l =>
    rcases (by omega : i = 1 ∨ i = 2 ∨ i = 3 ∨ i = 4) with rfl | rfl | rfl | rfl <;> simp [partL, wordL] at hc <;> subst hc <;> decide
def Agrees (L : List UInt8) (xs : List Nat) : Prop := ∀ a b c d : Nat, a ≤ 100000 → b ≤ 100000 → c ≤ 100000 → d ≤ 100000 → L = headL a b c d → xs = [a, b, c, d].take xs.length
theorem agrees_rest {L : List UInt8} {xs : List Nat} {at_ : Nat} (h1 : L.take at_ = partL 0 xs) {ys : List Nat} (hy : xs = ys.take xs.length) (hL : L = partL 0 ys ++ [32, 64, 64]) : L.drop at_ = headR xs.length (ys.drop xs.length) := by
  have key : ∀ (xs ys : List Nat) (i : Nat), xs = ys.take xs.length → partL i ys = partL i xs ++ partL (i + xs.length) (ys.drop xs.length) := by
    intro xs
    induction xs with
    | nil => intro ys i _; simp [partL]
    | cons x xs ih =>
      intro ys i h
      cases ys with
      | nil => simp at h
      | cons y ys =>
        simp only [List.length_cons, List.take_succ_cons, List.cons.injEq] at h
        obtain ⟨rfl, h⟩ := h
        simp only [partL, List.length_cons, List.drop_succ_cons]
        rw [ih ys (i + 1) h, show i + 1 + xs.length = i + (xs.length + 1) by omega]
        simp
  have hk := key xs ys 0 hy
  have h3 : L = L.take at_ ++ headR xs.length (ys.drop xs.length) := by
    rw [h1]
    conv => lhs; rw [hL, hk]
    unfold headR
    simp
  have h4 : L = L.take at_ ++ L.drop at_ := (List.take_append_drop _ _).symm
  exact List.append_cancel_left (h4.symm.trans h3)
end Go.Proofs.YtcclgodahlinbaaGreatDoor
namespace Go.Proofs.YtcclgodahlinbaaGreatDoor
open Go.RowKit Go
set_option maxRecDepth 100000
theorem digs_more {c : UInt8} : ∀ {D : List UInt8} {j : Nat}, j ≤ (digs D).length → D[j]? = some c → dig c = true → (digs D)[j]? = some c
  | [], j, _, h, _ => by simp at h
  | x :: D, j, hl, h, hc => by
    unfold digs at hl ⊢
    by_cases hx : dig x = true
    · rw [List.takeWhile_cons_of_pos hx] at hl ⊢
      cases j with
      | zero => simpa using h
      | succ j => simp at hl h ⊢; exact digs_more (D := D) hl h hc
    · rw [List.takeWhile_cons_of_neg hx] at hl
      simp at hl
      subst hl
      simp at h
      subst h
      exact absurd hc hx
theorem digs_end : ∀ {D : List UInt8} {j : Nat}, j ≤ (digs D).length → (∀ c, D[j]? = some c → dig c = false) → j = (digs D).length
  | [], j, hl, _ => by simpa [digs] using hl
  | x :: D, j, hl, h => by
    unfold digs at hl ⊢
    by_cases hx : dig x = true
    · rw [List.takeWhile_cons_of_pos hx] at hl ⊢
      cases j with
      | zero => have := h x (by simp); rw [hx] at this; cases this
      | succ j => simp at hl ⊢; exact digs_end (D := D) hl (fun c hc => h c (by simpa using hc))
    · rw [List.takeWhile_cons_of_neg hx] at hl ⊢
      simpa using hl
theorem drop_at {s : ByteArray} {p q : Nat} (hpq : p ≤ q) (hq : q < s.size) : (s.data.toList.drop p)[q - p]? = some (s[q]'hq) := by
  rw [List.getElem?_drop, show p + (q - p) = q by omega]
  have h2 : q < s.data.toList.length := hq
  rw [List.getElem?_eq_getElem h2]
  rfl
theorem drop_end {s : ByteArray} {p q : Nat} (hpq : p ≤ q) (hq : ¬ q < s.size) : (s.data.toList.drop p)[q - p]? = none := by
  rw [List.getElem?_drop, show p + (q - p) = q by omega]
  exact List.getElem?_eq_none (by show s.size ≤ q; omega)
def FigEnd (s : ByteArray) (p : Nat) (e : Ending) : Prop :=
  (∃ n : Nat, Fig (s.data.toList.drop p) n (s.data.toList.drop (p + (Lib.decDigits n).length)) ∧ e = .returned (.tuple #[.int .i64 (n : Int), .int .i64 ((p + (Lib.decDigits n).length : Nat) : Int)])) ∨
  ((∀ m E, ¬ Fig (s.data.toList.drop p) m E) ∧ e = .returned (.tuple #[.int .i64 (-1), .int .i64 (p : Int)]))
set_option maxHeartbeats 8000000 in
theorem figure_any (s : ByteArray) (p : Nat) (w : World) (hp : p ≤ s.size) (hs : s.size ≤ 4000000000) :
    Calls Tryz.prog 143 #[.string s, .int .i64 (p : Int)] w fun e w' => FigEnd s p e ∧ w = w' := by
  obtain ⟨D, hD⟩ : ∃ D, s.data.toList.drop p = D := ⟨_, rfl⟩
  go_enter Tryz.func143, Tryz.ntmps143
  go_wp2_with fail
  go_loopg [6, 7] 7 (fun g t6 t7 wr => ∃ (n q : Nat), g = 7 - (q - p) ∧ p ≤ q ∧ q ≤ s.size ∧ q - p ≤ 7 ∧ t6 = .int .i64 n ∧ t7 = .int .i64 q ∧ n < 10 ^ (q - p) ∧ Hid (q - p ≤ (digs D).length ∧ Lib.decFrom 0 ((digs D).take (q - p)) = some n) ∧ wr = w)
  case atStart => exact ⟨0, p, by omega, by omega, hp, by omega, rfl, rfl, by simp, ⟨by omega, by simp [Lib.decFrom]⟩, rfl⟩
  case round =>
    obtain ⟨n, q, hgk, hpq, hqs, hj7, rfl, rfl, hn, hI, rfl⟩ := hrel
    have hG : Hid (_ = 7 - (q - p)) := hgk
    clear hgk
    have hn7 : n < 10000000 := Nat.lt_of_lt_of_le hn (Nat.le_trans (Nat.pow_le_pow_right (by decide) hj7) (by decide))
    have hnH : Hid (n < 10 ^ (q - p)) := hn
    clear hn
    by_cases hgo : ∃ hq : q < s.size, dig (s[q]'hq) = true ∧ q - p < 7
    · obtain ⟨hq, hdg, hlt⟩ := hgo
      have hqI : (q : Int) < s.size := by omega
      have hd := dig_iff.1 hdg
      have h48 : (48 : Int) ≤ ((s[q]'hq).toNat : Nat) := by omega
      have h57 : (((s[q]'hq).toNat : Nat) : Int) ≤ 57 := by omega
      have hp7 : (q : Int) < (p : Int) + 7 := by omega
      have ws : IntKind.u8.wrap ((((s[q]'hq).toNat : Nat) : Int) - 48) = (((s[q]'hq).toNat : Nat) : Int) - 48 := by rw [IntKind.wrap_u8]; omega
      have hat : D[q - p]? = some (s[q]'hq) := by rw [← hD]; exact drop_at hpq hq
      have hm := digs_more hI.out.1 hat hdg
      have hv := Lib.decFrom_take (digs D) (q - p) 0 n _ _ hI.out.2 hm (dig_val hdg)
      have hI2 : Hid (q + 1 - p ≤ (digs D).length ∧ Lib.decFrom 0 ((digs D).take (q + 1 - p)) = some (10 * n + ((s[q]'hq).toNat - 48)) ∧ 10 * n + ((s[q]'hq).toNat - 48) < 10 ^ (q + 1 - p)) := by
        rw [show q + 1 - p = q - p + 1 by omega, hv]
        refine ⟨?_, by rw [Nat.mul_comm], ?_⟩
        · exact (List.getElem?_eq_some_iff.1 hm).1
        · have := hnH.out
          rw [Nat.pow_succ]
          omega
      have hcast : Hid (((10 * n + ((s[q]'hq).toNat - 48) : Nat) : Int) = 10 * (n : Int) + ((((s[q]'hq).toNat : Nat) : Int) - 48)) := by show _ = _; omega
      clear hat hm hv hI hnH hdg hd
      go_wp2_with fail
      go_roundg (7 - (q + 1 - p))
      · refine ⟨10 * n + ((s[q]'hq).toNat - 48), q + 1, rfl, by omega, by omega, by omega, ?_, by push_cast; rfl, hI2.out.2.2, ⟨hI2.out.1, hI2.out.2.1⟩, rfl⟩
        rw [hcast.out]
      · have := hG.out; omega
    · have hend : Hid (q - p = (digs D).length ∨ q - p = 7) := by
        by_cases h7 : q - p < 7
        · left
          refine digs_end hI.out.1 ?_
          intro c hc
          rw [← hD] at hc
          by_cases hq : q < s.size
          · rw [drop_at hpq hq] at hc
            obtain rfl := Option.some.inj hc
            rw [Bool.eq_false_iff]
            exact fun hd => hgo ⟨hq, hd, h7⟩
          · rw [drop_end hpq hq] at hc; cases hc
        · right; omega
      have hyes : Hid (1 ≤ q - p → n ≤ 100000 → (D.head? = some 48 → q - p = 1) → Fig D n (s.data.toList.drop (p + (Lib.decDigits n).length)) ∧ p + (Lib.decDigits n).length = q) := by
        intro h1 h2 h3
        obtain ⟨f1, f2⟩ := fig_yes h1 hI.out.2 hI.out.1 hend.out h2 h3
        rw [← hD, List.drop_drop, ← f2, hD] at f1
        exact ⟨f1, by omega⟩
      have hnon : Hid (q - p = 0 ∨ 100000 < n ∨ (D.head? = some 48 ∧ 1 < q - p) → ∀ m E, ¬ Fig D m E) := fun h => fig_no hI.out.2 hend.out hI.out.1 h
      have hfin1 : Hid (1 ≤ q - p → n ≤ 100000 → (D.head? = some 48 → q - p = 1) → FigEnd s p (.returned (.tuple #[.int .i64 (n : Int), .int .i64 (q : Int)]))) := by
        intro h1 h2 h3
        obtain ⟨f1, f2⟩ := hyes.out h1 h2 h3
        left
        refine ⟨n, by rw [hD]; exact f1, by rw [f2]⟩
      have hfin2 : Hid (q - p = 0 ∨ 100000 < n ∨ (D.head? = some 48 ∧ 1 < q - p) → FigEnd s p (.returned (.tuple #[.int .i64 (-1), .int .i64 (p : Int)]))) := fun h => .inr ⟨by rw [hD]; exact hnon.out h, rfl⟩
      have hhd : Hid (∀ hq : p < s.size, D.head? = some (s[p]'hq)) := by
        intro hq
        have := drop_at (s := s) (Nat.le_refl p) hq
        rw [Nat.sub_self, hD] at this
        rw [List.head?_eq_getElem?]
        exact this
      have hpos : Hid (1 ≤ q - p → p < s.size) := by intro h; omega
      have hout : Hid ((¬ (q : Int) < s.size) ∨ (∃ hq : q < s.size, ¬ (48 : Int) ≤ ((s[q]'hq).toNat : Nat)) ∨ (∃ hq : q < s.size, (48 : Int) ≤ ((s[q]'hq).toNat : Nat) ∧ ¬ (((s[q]'hq).toNat : Nat) : Int) ≤ 57) ∨ (∃ hq : q < s.size, (48 : Int) ≤ ((s[q]'hq).toNat : Nat) ∧ (((s[q]'hq).toNat : Nat) : Int) ≤ 57 ∧ ¬ (q : Int) < (p : Int) + 7)) := by
        unfold Hid
        by_cases hq : q < s.size
        · right
          by_cases h1 : (48 : Int) ≤ ((s[q]'hq).toNat : Nat)
          · by_cases h2 : (((s[q]'hq).toNat : Nat) : Int) ≤ 57
            · refine .inr (.inr ⟨hq, h1, h2, fun h3 => hgo ⟨hq, dig_iff.2 ⟨by omega, by omega⟩, by omega⟩⟩)
            · exact .inr (.inl ⟨hq, h1, h2⟩)
          · exact .inl ⟨hq, h1⟩
        · left; omega
      have hres : (q = p ∧ Hid (FigEnd s p (.returned (.tuple #[.int .i64 (-1), .int .i64 (p : Int)])))) ∨
          (p < q ∧ (100000 : Int) < n ∧ Hid (FigEnd s p (.returned (.tuple #[.int .i64 (-1), .int .i64 (p : Int)])))) ∨
          (p < q ∧ ¬ (100000 : Int) < n ∧ ∃ h0 : p < s.size, (((s[p]'h0).toNat : Int) == 48) = true ∧ (p : Int) + 1 < q ∧ Hid (FigEnd s p (.returned (.tuple #[.int .i64 (-1), .int .i64 (p : Int)])))) ∨
          (p < q ∧ ¬ (100000 : Int) < n ∧ ∃ h0 : p < s.size, (((s[p]'h0).toNat : Int) == 48) = true ∧ ¬ (p : Int) + 1 < q ∧ Hid (FigEnd s p (.returned (.tuple #[.int .i64 (n : Int), .int .i64 (q : Int)])))) ∨
          (p < q ∧ ¬ (100000 : Int) < n ∧ ∃ h0 : p < s.size, (((s[p]'h0).toNat : Int) == 48) = false ∧ Hid (FigEnd s p (.returned (.tuple #[.int .i64 (n : Int), .int .i64 (q : Int)])))) := by
        by_cases e1 : q = p
        · exact .inl ⟨e1, hfin2.out (.inl (by omega))⟩
        · right
          by_cases e2 : 100000 < n
          · exact .inl ⟨by omega, by omega, hfin2.out (.inr (.inl e2))⟩
          · right
            have h0 : p < s.size := hpos.out (by omega)
            have hh := hhd.out h0
            by_cases e3 : s[p]'h0 = 48
            · have e4 : (((s[p]'h0).toNat : Int) == 48) = true := by rw [e3]; rfl
              by_cases e5 : p + 1 < q
              · exact .inl ⟨by omega, by omega, h0, e4, by omega, hfin2.out (.inr (.inr ⟨by rw [hh, e3], by omega⟩))⟩
              · exact .inr (.inl ⟨by omega, by omega, h0, e4, by omega, hfin1.out (by omega) (by omega) (fun _ => by omega)⟩)
            · have e4 : (((s[p]'h0).toNat : Int) == 48) = false := by
                rw [beq_eq_false_iff_ne]
                intro e
                exact e3 (UInt8.toNat_inj.1 (by have : ((48 : UInt8).toNat : Int) = 48 := rfl; omega))
              exact .inr (.inr ⟨by omega, by omega, h0, e4, hfin1.out (by omega) (by omega) (fun e => by rw [hh] at e; exact absurd (Option.some.inj e) e3)⟩)
      clear hend hyes hnon hfin1 hfin2 hhd hpos hgo hI hnH hG
      rcases hres with ⟨rfl, hF⟩ | ⟨hlt, hn1, hF⟩ | ⟨hlt, hn1, h0, e4, e5, hF⟩ | ⟨hlt, hn1, h0, e4, e5, hF⟩ | ⟨hlt, hn1, h0, e4, hF⟩
      · rcases hout.out with ho | ⟨hq, ho⟩ | ⟨hq, ho, ho2⟩ | ⟨hq, ho, ho2, ho3⟩
        all_goals (go_wp2_with fail; go_ret2; exact ⟨hF.out, rfl⟩)
      all_goals have hne : ((q : Int) == (p : Int)) = false := by rw [beq_eq_false_iff_ne]; omega
      all_goals have hpI : (p : Int) < s.size := by omega
      · rcases hout.out with ho | ⟨hq, ho⟩ | ⟨hq, ho, ho2⟩ | ⟨hq, ho, ho2, ho3⟩
        all_goals (go_wp2_with fail; go_ret2; exact ⟨hF.out, rfl⟩)
      · rcases hout.out with ho | ⟨hq, ho⟩ | ⟨hq, ho, ho2⟩ | ⟨hq, ho, ho2, ho3⟩
        all_goals (go_wp2_with fail; go_ret2; exact ⟨hF.out, rfl⟩)
      · rcases hout.out with ho | ⟨hq, ho⟩ | ⟨hq, ho, ho2⟩ | ⟨hq, ho, ho2, ho3⟩
        all_goals (go_wp2_with fail; go_ret2; exact ⟨hF.out, rfl⟩)
      · rcases hout.out with ho | ⟨hq, ho⟩ | ⟨hq, ho, ho2⟩ | ⟨hq, ho, ho2, ho3⟩
        all_goals (go_wp2_with fail; go_ret2; exact ⟨hF.out, rfl⟩)
end Go.Proofs.YtcclgodahlinbaaGreatDoor
