import Derived.Test.YtcclgodahlinbaaGreatDoorWPut
namespace Go.Proofs.YtcclgodahlinbaaGreatDoor
open Go.RowKit Go
set_option maxRecDepth 100000

theorem RowS.below {w w' : World} {v : Value} {L : List ByteArray} (h : RowS w v L) (hb : Below w.heap.size w w') : RowS w' v L :=
  h.of_heap fun b _ _ hh => (hb.block b (Array.getElem?_eq_some_iff.1 hh).1).trans hh

/-- slices.Equal over two rows of strings -/
theorem equal_rows {w : World} {a1 a2 : Option Addr} {c1 c2 : Nat} {xs ys : List ByteArray} (h1 : RowS w (.slice a1 xs.length c1) xs) (h2 : RowS w (.slice a2 ys.length c2) ys) (hx : xs.length ≤ 1000000) (hy : ys.length ≤ 1000000) :
    Calls Tryz.prog 104 #[.slice a1 xs.length c1, .slice a2 ys.length c2] w fun e w' => e = .returned (.bool (decide (xs = ys))) ∧ ∃ q, w' = w.drewN q := by
  by_cases hl : xs.length = ys.length
  · by_cases h0 : xs.length = 0
    · have ex : xs = [] := List.eq_nil_of_length_eq_zero h0
      have ey : ys = [] := List.eq_nil_of_length_eq_zero (by omega)
      subst ex; subst ey
      refine (Tryz.slices_Equal_string_empty a1 a2 c1 0 c2 w (by decide)).mono ?_
      rintro e w' ⟨rfl, rfl⟩
      exact ⟨rfl, 0, rfl⟩
    · obtain ⟨b1, o1, rfl, _⟩ := h1.at (i := 0) (by omega)
      obtain ⟨b2, o2, rfl, _⟩ := h2.at (i := 0) (by omega)
      refine (Tryz.slices_Equal_string b1 o1 xs.length c1 b2 o2 ys.length c2 xs ys w (Nat.le_refl _) (Nat.le_refl _) (by omega) (by omega) (fun j hj => ?_) (fun j hj => ?_)).mono ?_
      · obtain ⟨_, _, e, hc⟩ := h1.at hj
        cases e; exact hc
      · obtain ⟨_, _, e, hc⟩ := h2.at hj
        cases e; exact hc
      · rintro e w' ⟨rfl, q, rfl⟩
        rw [List.take_length, List.take_length]
        exact ⟨rfl, q, rfl⟩
  · have hne : decide (xs = ys) = false := decide_eq_false fun e => hl (by rw [e])
    rw [hne]
    refine (Tryz.slices_Equal_string_lens a1 a2 _ c1 _ c2 w hl).mono ?_
    rintro e w' ⟨rfl, rfl⟩
    exact ⟨rfl, 0, rfl⟩

theorem run_subi {a : Option Addr} {n c : Nat} {lo : Nat} {hi : Int} {k : Nat} (hk : hi = k) (h1 : lo ≤ k) (h2 : k ≤ c) {v : Value} (hv : sliced a lo k c 1 = v) (w : World) :
    (Instr.slice 27 (.slice a n c) (some (.int .i64 (lo : Int))) (some (.int .i64 hi)) none).run Tryz.prog w = .ok v w := by rw [hk, run_sub h1 h2, hv]

theorem run_subii {a : Option Addr} {n c : Nat} {lo hi : Int} {j k : Nat} (hj : lo = j) (hk : hi = k) (h1 : j ≤ k) (h2 : k ≤ c) {v : Value} (hv : sliced a j k c 1 = v) (w : World) :
    (Instr.slice 27 (.slice a n c) (some (.int .i64 lo)) (some (.int .i64 hi)) none).run Tryz.prog w = .ok v w := by rw [hj, hk, run_sub h1 h2, hv]

set_option maxHeartbeats 1000000 in
theorem without_any {w : World} {ao af : Option Addr} {co cf f l : Nat} {lo lf : List ByteArray} (ho : RowS w (.slice ao lo.length co) lo) (hf : RowS w (.slice af lf.length cf) lf) (h1 : f + l ≤ lo.length) (h2 : f + l ≤ lf.length) (hb1 : lo.length ≤ 100000) (hb2 : lf.length ≤ 100000) :
    Calls Tryz.prog 62 #[.agg #[.slice ao lo.length co, .slice af lf.length cf], .int .i64 (f : Int), .int .i64 (l : Int)] w fun e w' =>
      ∃ ao' co' af' cf', e = .returned (.agg #[.slice ao' ((lo.drop f).take (lo.length - l - f)).length co', .slice af' ((lf.drop f).take (lf.length - l - f)).length cf']) ∧ RowS w' (.slice ao' ((lo.drop f).take (lo.length - l - f)).length co') ((lo.drop f).take (lo.length - l - f)) ∧
        RowS w' (.slice af' ((lf.drop f).take (lf.length - l - f)).length cf') ((lf.drop f).take (lf.length - l - f)) ∧ Below w.heap.size w w' := by
  obtain ⟨_, hc1⟩ : lo.length ≤ co ∧ True := by obtain ⟨_, _, e, hc⟩ := ho.slice; cases e; exact ⟨hc, trivial⟩
  obtain ⟨_, hc2⟩ : lf.length ≤ cf ∧ True := by obtain ⟨_, _, e, hc⟩ := hf.slice; cases e; exact ⟨hc, trivial⟩
  have so := ho.sub (lo := f) (hi := lo.length - l) (by omega) (by omega)
  have sf := hf.sub (lo := f) (hi := lf.length - l) (by omega) (by omega)
  have r1 := fun w => run_subi (a := ao) (n := lo.length) (c := co) (lo := f) (hi := (lo.length : Int) - l) (k := lo.length - l) (by omega) (by omega) (by omega) rfl w
  have r2 := fun w => run_subi (a := af) (n := lf.length) (c := cf) (lo := f) (hi := (lf.length : Int) - l) (k := lf.length - l) (by omega) (by omega) (by omega) rfl w
  obtain ⟨a3, c3, e3, _⟩ := so.slice
  obtain ⟨a4, c4, e4, _⟩ := sf.slice
  rw [e3] at r1 so
  rw [e4] at r2 sf
  clear e3 e4
  generalize (lo.drop f).take (lo.length - l - f) = M at *
  generalize (lf.drop f).take (lf.length - l - f) = N at *
  have x1 : IntKind.i64.wrap ((lo.length : Int) - l) = (lo.length : Int) - l := by rw [IntKind.wrap_i64]; omega
  have x2 : IntKind.i64.wrap ((lf.length : Int) - l) = (lf.length : Int) - l := by rw [IntKind.wrap_i64]; omega
  have hB0 := heap_alloc_new w (.cells #[.slice ao lo.length co, .slice af lf.length cf] 125)
  have hB1 := (Below.heap_alloc (w.alloc (.cells #[.slice ao lo.length co, .slice af lf.length cf] 125)) (.cells #[.slice none 0 0, .slice none 0 0] 125) w.heap.size (by simp)).trans hB0
  have hR := heap_alloc_new (w.alloc (.cells #[.slice ao lo.length co, .slice af lf.length cf] 125)) (.cells #[.slice none 0 0, .slice none 0 0] 125)
  rw [World.size_alloc] at hR
  have hbel : Below w.heap.size w ((w.alloc (.cells #[.slice ao lo.length co, .slice af lf.length cf] 125)).alloc (.cells #[.slice none 0 0, .slice none 0 0] 125)) := ((Below.refl _ _).alloc (Nat.le_refl _) _).alloc (by simp) _
  clear hB0
  go_enter Tryz.func62, Tryz.ntmps62
  go_wp2_with fail
  generalize (w.alloc (.cells #[.slice ao lo.length co, .slice af lf.length cf] 125)).alloc (.cells #[.slice none 0 0, .slice none 0 0] 125) = W0 at *
  have p0 : W0.cell? ⟨w.heap.size, 0, none⟩ = some (.slice ao lo.length co) := cell_of hB1 rfl
  have p1 : W0.cell? ⟨w.heap.size, 1, none⟩ = some (.slice af lf.length cf) := cell_of hB1 rfl
  have f0 : W0.frozen? ⟨w.heap.size + 1, 0, none⟩ = false := frozen_of hR
  have f1 : W0.frozen? ⟨w.heap.size + 1, 1, none⟩ = false := frozen_of hR
  have q0 : W0.cell? ⟨w.heap.size + 1, 0, none⟩ = some (.slice none 0 0) := cell_of hR rfl
  have q1 : W0.cell? ⟨w.heap.size + 1, 1, none⟩ = some (.slice none 0 0) := cell_of hR rfl
  refine wp_still_tail 19 mixed (by kernel_rfl) ?_
  simp only [List.take_succ_cons, List.take_zero, List.drop_succ_cons, List.drop_zero]
  repeat still_step
  refine wpStill_nil ?_
  go_wp2_with fail
  have hF := heap_setCell_same _ (w.heap.size + 1) 1 (.slice a4 N.length c4) _ _ _ (heap_setCell_same W0 (w.heap.size + 1) 0 (.slice a3 M.length c3) _ _ _ hR)
  have d0 := cell_of (k := 0) (v := .slice a3 M.length c3) hF rfl
  have d1 := cell_of (k := 1) (v := .slice a4 N.length c4) hF rfl
  have hw' := (hbel.setCell (p := ⟨w.heap.size + 1, 0, none⟩) (Nat.le_succ _) (.slice a3 M.length c3)).setCell (p := ⟨w.heap.size + 1, 1, none⟩) (Nat.le_succ _) (.slice a4 N.length c4)
  generalize (W0.setCell ⟨w.heap.size + 1, 0, none⟩ (.slice a3 M.length c3)).setCell ⟨w.heap.size + 1, 1, none⟩ (.slice a4 N.length c4) = WF at *
  refine bodyPost_ret (v := .agg #[.slice a3 M.length c3, .slice a4 N.length c4]) (by simp [results, Tryz.results62, go_sem, d0, d1]) rfl ⟨a3, c3, a4, c4, rfl, so.below hw'.drew, sf.below hw'.drew, hw'.drew⟩

/-- can a piece stand at a place? -/
def standM (L : List ByteArray) (en : Nat) (lo : List ByteArray) (at' : Int) : Bool := decide ((en : Int) ≤ at' ∧ at' + lo.length ≤ L.length ∧ (L.drop at'.toNat).take lo.length = lo)

set_option maxHeartbeats 1000000 in
theorem canStand_any {S : Nat} {t : List UInt8} {en mv : Int} {ei : Nat} {at' : Int} {w : World} {al ao : Option Addr} {vf : Value} {cl co : Nat} {L lo : List ByteArray}
    (h : SewA S (.slice al L.length cl) t en mv w) (hL : RowS w (.slice al L.length cl) L) (ho : RowS w (.slice ao lo.length co) lo) (he : en = ei) (hvf : ∃ a n c, vf = .slice a n c)
    (hb2 : lo.length ≤ 100000) (ha : -100000000 ≤ at' ∧ at' ≤ 100000000) :
    Calls Tryz.prog 64 #[.pointer (some ⟨S, 0, none⟩), .agg #[.slice ao lo.length co, vf], .int .i64 at'] w fun e w' => e = .returned (.bool (standM L ei lo at')) ∧ Below w.heap.size w w' := by
  subst he
  obtain ⟨a9, n9, c9, rfl⟩ := hvf
  obtain ⟨_, hcc⟩ : L.length ≤ cl ∧ True := by obtain ⟨_, _, e, hc⟩ := hL.slice; cases e; exact ⟨hc, trivial⟩
  have hlt := h.lt
  have w0h := h.alloc (.cells #[.slice ao lo.length co, .slice a9 n9 c9] 125)
  have w0L := hL.alloc (.cells #[.slice ao lo.length co, .slice a9 n9 c9] 125)
  have w0o := ho.alloc (.cells #[.slice ao lo.length co, .slice a9 n9 c9] 125)
  have hB0 := heap_alloc_new w (.cells #[.slice ao lo.length co, .slice a9 n9 c9] 125)
  have hbel0 : Below w.heap.size w (w.alloc (.cells #[.slice ao lo.length co, .slice a9 n9 c9] 125)) := (Below.refl _ _).alloc (Nat.le_refl _) _
  obtain ⟨s0, s3, s4, sf⟩ := w0h.cells
  have p0 : (w.alloc (.cells #[.slice ao lo.length co, .slice a9 n9 c9] 125)).cell? ⟨w.heap.size, 0, none⟩ = some (.slice ao lo.length co) := cell_of hB0 rfl
  have x1 : IntKind.i64.wrap (at' + lo.length) = at' + lo.length := by rw [IntKind.wrap_i64]; omega
  by_cases g1 : at' < (ei : Int)
  · have hr : standM L ei lo at' = false := decide_eq_false (by omega)
    rw [hr]
    have g1' : decide (at' < (ei : Int)) = true := decide_eq_true g1
    go_enter Tryz.func64, Tryz.ntmps64
    go_wp2_with fail
    generalize w.alloc (.cells #[.slice ao lo.length co, .slice a9 n9 c9] 125) = W0 at *
    go_quiet (fail)
    go_wp2_with fail
    go_ret
    exact ⟨rfl, Below.drewN' hbel0⟩
  · have g1' : decide (at' < (ei : Int)) = false := decide_eq_false g1
    by_cases g2 : (L.length : Int) < at' + lo.length
    · have hr : standM L ei lo at' = false := decide_eq_false (by omega)
      rw [hr]
      have g2' : decide ((L.length : Int) < at' + lo.length) = true := decide_eq_true g2
      go_enter Tryz.func64, Tryz.ntmps64
      go_wp2_with fail
      generalize w.alloc (.cells #[.slice ao lo.length co, .slice a9 n9 c9] 125) = W0 at *
      go_quiet (fail)
      go_wp2_with fail
      go_ret
      exact ⟨rfl, Below.drewN' hbel0⟩
    · have g2' : decide ((L.length : Int) < at' + lo.length) = false := decide_eq_false g2
      obtain ⟨k, hk⟩ : ∃ k : Nat, at' = k := ⟨at'.toNat, by omega⟩
      have hr : standM L ei lo at' = decide ((L.drop k).take lo.length = lo) := by
        subst hk
        unfold standM
        congr 1
        apply propext
        constructor
        · exact fun hh => hh.2.2
        · exact fun hh => ⟨by omega, by omega, hh⟩
      rw [hr]
      have hsub := w0L.sub (lo := k) (hi := k + lo.length) (by omega) (by omega)
      rw [Nat.add_sub_cancel_left] at hsub
      have r1 := fun w => run_subii (a := al) (n := L.length) (c := cl) (lo := at') (hi := at' + lo.length) (j := k) (k := k + lo.length) hk (by omega) (by omega) (by omega) rfl w
      have hml := sub_length L k lo.length (by omega)
      obtain ⟨a3, c3, e3, _⟩ := hsub.slice
      rw [e3] at r1 hsub
      clear e3
      generalize (L.drop k).take lo.length = M at *
      have hE : Hid (∀ W : World, RowS W (.slice a3 M.length c3) M → RowS W (.slice ao lo.length co) lo → Calls Tryz.prog 104 #[.slice a3 M.length c3, .slice ao lo.length co] W fun e w' => e = .returned (.bool (decide (M = lo))) ∧ ∃ q, w' = W.drewN q) := fun W h1 h2 => equal_rows h1 h2 (by omega) (by omega)
      clear hml hr hk
      go_enter Tryz.func64, Tryz.ntmps64
      go_wp2_with fail
      generalize w.alloc (.cells #[.slice ao lo.length co, .slice a9 n9 c9] 125) = W0 at *
      go_quiet (fail)
      go_wp2_with fail
      refine wp_still_tail 13 mixed (by kernel_rfl) ?_
      simp only [List.take_succ_cons, List.take_zero, List.drop_succ_cons, List.drop_zero]
      repeat still_step
      refine wpStill_nil ?_
      go_wp2_with (go_at_call 104; refine (hE.out _ (hsub.of_heap (fun b cur fr h => by simpa using h)) (w0o.of_heap (fun b cur fr h => by simpa using h))).mono ?_; rintro e w1 ⟨rfl, q, rfl⟩)
      go_ret
      exact ⟨rfl, Below.drewN' hbel0⟩
end Go.Proofs.YtcclgodahlinbaaGreatDoor
