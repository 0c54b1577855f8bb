import Derived.Test.YtcclgodahlinbaaGreatDoorWReadM
namespace Go.Proofs.YtcclgodahlinbaaGreatDoor
open Go.RowKit Go
set_option maxRecDepth 100000

set_option maxHeartbeats 1000000 in
theorem take_yesR {S en : Nat} {gr : Int} {vh vf vt vb : Value} (h : HunkM) (a : Option Addr) (n cap : Nat) (w : World) (hok : fitsM h en gr = true) (hS : w.heap[S]? = some (.cells #[vh, .int .i64 (en : Int), .int .i64 gr, vf, vt, vb] 88 (0, 0))) (hg1 : -1000000000 ≤ gr) (hg2 : gr ≤ 1000000000) :
    Calls Tryz.prog 68 #[.pointer (some ⟨S, 1, none⟩), hunkVal h (.slice a n cap)] w fun e w' =>
      e = .returned (.bool true) ∧ w'.heap[S]? = some (.cells #[vh, .int .i64 ((placeM h.fr h.fc + h.fc : Nat) : Int), .int .i64 (gr + h.tc - h.fc), vf, vt, vb] 88 (0, 0)) ∧ w.grownBy w' (some S) := by
  unfold fitsM at hok
  simp only [Bool.and_eq_true, decide_eq_true_eq] at hok
  obtain ⟨⟨⟨⟨⟨⟨⟨f1, f2⟩, f3⟩, f4⟩, f5⟩, f6⟩, f7⟩, f8⟩ := hok
  have c0 := cell_of (k := 1) hS rfl
  have c1 := cell_of (k := 2) hS rfl
  have z := fun k => frozen_of (k := k) hS
  have hSw : S < w.heap.size := (Array.getElem?_eq_some_iff.1 hS).1
  have m1 := fun w => mayStand_yes h.fr h.fc w f1 f2 f3
  have m2 := fun w => mayStand_yes h.tr h.tc w f4 f5 f6
  have p1 := fun w => placeOf_any h.fr h.fc w f1 f3
  have p2 : Hid (∀ ob n, Calls Tryz.prog 59 #[.int .i64 (h.tr : Int), .int .i64 (h.tc : Int)] ((w.alloc ob).drewN n) fun e w'' => e = .returned (.int .i64 (placeM h.tr h.tc : Nat)) ∧ ∃ k, w'' = (w.alloc ob).drewN k) :=
    fun ob n => (placeOf_any h.tr h.tc _ f4 f6).mono fun _ _ ⟨he, hm⟩ => ⟨he, n, hm.symm⟩
  have hpl : placeM h.fr h.fc ≤ 100000 := by unfold placeM; split <;> omega
  generalize placeM h.fr h.fc = PL at *
  generalize placeM h.tr h.tc = PT at *
  have f7' : ¬ ((PL : Int) < (en : Int)) := by omega
  have f7'' : decide ((PL : Int) < (en : Int)) = false := decide_eq_false f7'
  have f8' : ((PT : Int) == (PL : Int) + gr) = true := by simp [f8]
  have f8'' : ((PT : Int) != (PL : Int) + gr) = false := by simp [f8]
  have f8h : Hid ((PT : Int) = PL + gr) := f8
  clear f8
  go_enter Tryz.func68, Tryz.ntmps68
  go_wp2_with (first | (go_at_call 105; refine (m1 _).mono ?_; clear m1; rintro e w' ⟨rfl, rfl⟩) | (go_at_call 105; refine (m2 _).mono ?_; rintro e w' ⟨rfl, rfl⟩) | (go_at_call 59; refine (p1 _).mono ?_; rintro e w' ⟨rfl, rfl⟩))
  have w1 : IntKind.i64.wrap ((PL : Int) + gr) = (PL : Int) + gr := by rw [IntKind.wrap_i64]; omega
  have w2 : IntKind.i64.wrap ((h.tc : Int) - h.fc) = (h.tc : Int) - h.fc := by rw [IntKind.wrap_i64]; omega
  have w3 : IntKind.i64.wrap (gr + ((h.tc : Int) - h.fc)) = gr + ((h.tc : Int) - h.fc) := by rw [IntKind.wrap_i64]; omega
  go_quiet ((go_at_call 59; exact p2.out _ _))
  go_wp2_with fail
  refine wp_still_tail 12 mixed (by kernel_rfl) ?_
  simp only [List.take_succ_cons, List.take_zero, List.drop_succ_cons, List.drop_zero]
  repeat still_step
  refine wpStill_nil ?_
  go_wp2_with fail
  go_ret
  refine ⟨rfl, ?_, ?_⟩
  · have e1 : ((PL + h.fc : Nat) : Int) = (PL : Int) + h.fc := by omega
    have e2 : gr + h.tc - h.fc = gr + ((h.tc : Int) - h.fc) := by omega
    rw [e1, e2]
    exact heap_setCell_same _ _ _ _ _ _ _ (heap_setCell_same _ _ _ _ _ _ _ ((Below.heap_alloc w _ S hSw).trans hS))
  · exact grownBy_drew (grownBy_trans (grownBy_trans (grownBy_drewN (World.grownBy_alloc w _ (some S))) (grownBy_setCell _ _ _ _)) (grownBy_setCell _ _ _ _))

set_option maxHeartbeats 1000000 in
/-- a hunk that does not fit -/
theorem take_noR {S en : Nat} {gr : Int} {vh vf vt vb : Value} (h : HunkM) (a : Option Addr) (n cap : Nat) (w : World) (f1 : h.fr ≤ 100000) (f2 : h.fc ≤ 100000) (f3 : min h.fc 1 ≤ h.fr) (f4 : h.tr ≤ 100000) (f5 : h.tc ≤ 100000) (f6 : min h.tc 1 ≤ h.tr)
    (hno : placeM h.fr h.fc < en ∨ ((placeM h.tr h.tc : Nat) : Int) ≠ placeM h.fr h.fc + gr) (hS : w.heap[S]? = some (.cells #[vh, .int .i64 (en : Int), .int .i64 gr, vf, vt, vb] 88 (0, 0))) (hg1 : -1000000000 ≤ gr) (hg2 : gr ≤ 1000000000) :
    Calls Tryz.prog 68 #[.pointer (some ⟨S, 1, none⟩), hunkVal h (.slice a n cap)] w fun e w' => e = .returned (.bool false) ∧ Below w.heap.size w w' := by
  have c0 := cell_of (k := 1) hS rfl
  have c1 := cell_of (k := 2) hS rfl
  have z := fun k => frozen_of (k := k) hS
  have hSw : S < w.heap.size := (Array.getElem?_eq_some_iff.1 hS).1
  have m1 := fun w => mayStand_yes h.fr h.fc w f1 f2 f3
  have m2 := fun w => mayStand_yes h.tr h.tc w f4 f5 f6
  have p1 := fun w => placeOf_any h.fr h.fc w f1 f3
  have p2 : Hid (∀ ob n, Calls Tryz.prog 59 #[.int .i64 (h.tr : Int), .int .i64 (h.tc : Int)] ((w.alloc ob).drewN n) fun e w'' => e = .returned (.int .i64 (placeM h.tr h.tc : Nat)) ∧ ∃ k, w'' = (w.alloc ob).drewN k) :=
    fun ob n => (placeOf_any h.tr h.tc _ f4 f6).mono fun _ _ ⟨he, hm⟩ => ⟨he, n, hm.symm⟩
  have hpl : placeM h.fr h.fc ≤ 100000 := by unfold placeM; split <;> omega
  generalize placeM h.fr h.fc = PL at *
  generalize placeM h.tr h.tc = PT at *
  by_cases hc : PL < en
  · have f7' : ((PL : Int) < (en : Int)) := by omega
    have f7'' : decide ((PL : Int) < (en : Int)) = true := decide_eq_true f7'
    clear hno
    go_enter Tryz.func68, Tryz.ntmps68
    go_wp2_with (first | (go_at_call 105; refine (m1 _).mono ?_; clear m1; rintro e w' ⟨rfl, rfl⟩) | (go_at_call 105; refine (m2 _).mono ?_; rintro e w' ⟨rfl, rfl⟩) | (go_at_call 59; refine (p1 _).mono ?_; rintro e w' ⟨rfl, rfl⟩))
    have w1 : IntKind.i64.wrap ((PL : Int) + gr) = (PL : Int) + gr := by rw [IntKind.wrap_i64]; omega
    go_quiet ((go_at_call 59; exact p2.out _ _))
    go_wp2_with fail
    go_ret
    exact ⟨rfl, Below.drewN' ((Below.refl _ _).alloc (Nat.le_refl _) _)⟩
  · have f7' : ¬ ((PL : Int) < (en : Int)) := by omega
    have f7'' : decide ((PL : Int) < (en : Int)) = false := decide_eq_false f7'
    have f8 : ((PT : Nat) : Int) ≠ (PL : Int) + gr := by rcases hno with h | h; exact absurd h hc; exact h
    have f8' : ((PT : Int) == (PL : Int) + gr) = false := by simpa using f8
    have f8'' : ((PT : Int) != (PL : Int) + gr) = true := by simpa using f8
    clear f8 hno
    go_enter Tryz.func68, Tryz.ntmps68
    go_wp2_with (first | (go_at_call 105; refine (m1 _).mono ?_; clear m1; rintro e w' ⟨rfl, rfl⟩) | (go_at_call 105; refine (m2 _).mono ?_; rintro e w' ⟨rfl, rfl⟩) | (go_at_call 59; refine (p1 _).mono ?_; rintro e w' ⟨rfl, rfl⟩))
    have w1 : IntKind.i64.wrap ((PL : Int) + gr) = (PL : Int) + gr := by rw [IntKind.wrap_i64]; omega
    go_quiet ((go_at_call 59; exact p2.out _ _))
    go_wp2_with fail
    go_ret
    exact ⟨rfl, Below.drewN' ((Below.refl _ _).alloc (Nat.le_refl _) _)⟩

set_option maxHeartbeats 1000000 in
theorem resttake_yesR {R f t k : Nat} {b : Bool} {v0 v1 v2 : Value} (w : World) (hR : w.heap[R]? = some (.cells #[v0, v1, v2, .int .i64 (f : Int), .int .i64 (t : Int), .bool b] 88 (0, 0))) (hk : k = 32 ∨ k = 45 ∨ k = 43) (hf : kf k ≤ f) (ht : kt k ≤ t) (hf2 : f ≤ 1000000) (ht2 : t ≤ 1000000) :
    Calls Tryz.prog 78 #[.pointer (some ⟨R, 3, none⟩), .int .u8 (k : Nat)] w fun e w' =>
      e = .returned (.bool true) ∧ w'.heap[R]? = some (.cells #[v0, v1, v2, .int .i64 ((f - kf k : Nat) : Int), .int .i64 ((t - kt k : Nat) : Int), .bool (b || decide (k ≠ 32))] 88 (0, 0)) ∧ w.grownBy w' (some R) := by
  have c0 := cell_of (k := 3) hR rfl
  have c1 := cell_of (k := 4) hR rfl
  have c2 := cell_of (k := 5) hR rfl
  have z := fun k => frozen_of (k := k) hR
  rcases hk with rfl | rfl | rfl
  · have e1 : ((f - kf 32 : Nat) : Int) = (f : Int) - 1 := by simp [kf] at hf ⊢; omega
    have e2 : ((t - kt 32 : Nat) : Int) = (t : Int) - 1 := by simp [kt] at ht ⊢; omega
    have g1 : 0 ≤ (f : Int) - 1 := by simp [kf] at hf; omega
    have g2 : 0 ≤ (t : Int) - 1 := by simp [kt] at ht; omega
    have g3 : (1 : Int) ≤ f := by omega
    have g4 : (1 : Int) ≤ t := by omega
    rw [e1, e2]
    clear e1 e2 hf ht
    cases b
    · go_enter Tryz.func78, Tryz.ntmps78
      go_wp2
      go_ret
      exact ⟨rfl, heap_setCell_same _ _ _ _ _ _ _ (heap_setCell_same _ _ _ _ _ _ _ (heap_setCell_same _ _ _ _ _ _ _ hR)), grownBy_trans (grownBy_trans (grownBy_setCell _ _ _ _) (grownBy_setCell _ _ _ _)) (grownBy_setCell _ _ _ _)⟩
    · go_enter Tryz.func78, Tryz.ntmps78
      go_wp2
      go_ret
      exact ⟨rfl, heap_setCell_same _ _ _ _ _ _ _ (heap_setCell_same _ _ _ _ _ _ _ (heap_setCell_same _ _ _ _ _ _ _ hR)), grownBy_trans (grownBy_trans (grownBy_setCell _ _ _ _) (grownBy_setCell _ _ _ _)) (grownBy_setCell _ _ _ _)⟩
  · have e1 : ((f - kf 45 : Nat) : Int) = (f : Int) - 1 := by simp [kf] at hf ⊢; omega
    have e2 : ((t - kt 45 : Nat) : Int) = (t : Int) := by simp [kt]
    have g1 : 0 ≤ (f : Int) - 1 := by simp [kf] at hf; omega
    have g3 : (1 : Int) ≤ f := by omega
    rw [e1, e2]
    clear e1 e2 hf ht
    cases b
    · go_enter Tryz.func78, Tryz.ntmps78
      go_wp2
      go_ret
      exact ⟨rfl, heap_setCell_same _ _ _ _ _ _ _ (heap_setCell_same _ _ _ _ _ _ _ hR), grownBy_trans (grownBy_setCell _ _ _ _) (grownBy_setCell _ _ _ _)⟩
    · go_enter Tryz.func78, Tryz.ntmps78
      go_wp2
      go_ret
      exact ⟨rfl, heap_setCell_same _ _ _ _ _ _ _ (heap_setCell_same _ _ _ _ _ _ _ hR), grownBy_trans (grownBy_setCell _ _ _ _) (grownBy_setCell _ _ _ _)⟩
  · have e1 : ((f - kf 43 : Nat) : Int) = (f : Int) := by simp [kf]
    have e2 : ((t - kt 43 : Nat) : Int) = (t : Int) - 1 := by simp [kt] at ht ⊢; omega
    have g2 : 0 ≤ (t : Int) - 1 := by simp [kt] at ht; omega
    have g4 : (1 : Int) ≤ t := by omega
    rw [e1, e2]
    clear e1 e2 hf ht
    cases b
    · go_enter Tryz.func78, Tryz.ntmps78
      go_wp2
      go_ret
      exact ⟨rfl, heap_setCell_same _ _ _ _ _ _ _ (heap_setCell_same _ _ _ _ _ _ _ hR), grownBy_trans (grownBy_setCell _ _ _ _) (grownBy_setCell _ _ _ _)⟩
    · go_enter Tryz.func78, Tryz.ntmps78
      go_wp2
      go_ret
      exact ⟨rfl, heap_setCell_same _ _ _ _ _ _ _ (heap_setCell_same _ _ _ _ _ _ _ hR), grownBy_trans (grownBy_setCell _ _ _ _) (grownBy_setCell _ _ _ _)⟩

/-- full, done: of a rest that came by value -/
theorem full_no {f t : Nat} (b : Bool) (h : ¬ (f = 0 ∧ t = 0)) (w : World) : Calls Tryz.prog 76 #[.agg #[.int .i64 (f : Int), .int .i64 (t : Int), .bool b]] w fun e w' => e = .returned (.bool false) ∧ Below w.heap.size w w' := by
  by_cases hf : f = 0
  · have ht : ((t : Int) == 0) = false := by rw [beq_eq_false_iff_ne]; omega
    subst hf
    go_enter Tryz.func76, Tryz.ntmps76
    go_wp2
    go_ret
    exact ⟨rfl, (Below.refl _ _).alloc (Nat.le_refl _) _⟩
  · have ht : ((f : Int) == 0) = false := by rw [beq_eq_false_iff_ne]; omega
    go_enter Tryz.func76, Tryz.ntmps76
    go_wp2
    go_ret
    exact ⟨rfl, (Below.refl _ _).alloc (Nat.le_refl _) _⟩
set_option maxHeartbeats 400000 in
theorem done_no {f t : Nat} {b : Bool} (h : ¬ (f = 0 ∧ t = 0 ∧ b = true)) (w : World) : Calls Tryz.prog 80 #[.agg #[.int .i64 (f : Int), .int .i64 (t : Int), .bool b]] w fun e w' => e = .returned (.bool false) ∧ Below w.heap.size w w' := by
  by_cases hf : f = 0 ∧ t = 0
  · obtain ⟨rfl, rfl⟩ := hf
    obtain rfl : b = false := by cases b; rfl; exact absurd ⟨rfl, rfl, rfl⟩ h
    have hf := full_yes false (w.alloc (.cells #[.int .i64 0, .int .i64 0, .bool false] 86))
    go_enter Tryz.func80, Tryz.ntmps80
    go_wp2_with (go_at_call 76; refine hf.mono ?_; rintro e w' ⟨rfl, hb⟩; have c2 : w'.cell? ⟨w.heap.size, 2, none⟩ = some (.bool false) := (hb.cell (p := ⟨w.heap.size, 2, none⟩) (by simp)).trans (cell_of (heap_alloc_new w _) rfl))
    go_ret
    exact ⟨rfl, ((Below.refl _ _).alloc (Nat.le_refl _) _).trans (hb.mono (by simp))⟩
  · have hf := full_no b hf (w.alloc (.cells #[.int .i64 (f : Int), .int .i64 (t : Int), .bool b] 86))
    go_enter Tryz.func80, Tryz.ntmps80
    go_wp2_with (go_at_call 76; refine hf.mono ?_; rintro e w' ⟨rfl, hb⟩; have c2 : w'.cell? ⟨w.heap.size, 2, none⟩ = some (.bool b) := (hb.cell (p := ⟨w.heap.size, 2, none⟩) (by simp)).trans (cell_of (heap_alloc_new w _) rfl))
    go_ret
    exact ⟨rfl, ((Below.refl _ _).alloc (Nat.le_refl _) _).trans (hb.mono (by simp))⟩
/-! ### the reader -/
/-- a reader in a block of its own -/
structure RdM (S : Nat) (st : Rd) (v : Value) (hv : List HV) (w : World) : Prop where
  blk : w.heap[S]? = some (.cells #[v, .int .i64 (st.en : Int), .int .i64 st.gr, .int .i64 (st.f : Int), .int .i64 (st.t : Int), .bool st.b] 88 (0, 0))
  hso : HSo (S + 1) v hv w
  hs : hv.map (·.1) = st.hs
theorem RdM.lt {S : Nat} {st : Rd} {v : Value} {hv : List HV} {w : World} (h : RdM S st v hv w) : S < w.heap.size := (Array.getElem?_eq_some_iff.1 h.blk).1
theorem HSo.len {base : Nat} {v : Value} {hv : List HV} {w : World} (h : HSo base v hv w) : ∃ a cap, v = .slice a hv.length cap := by
  rcases h with ⟨rfl, rfl⟩ | ⟨g, cap, rfl, _, hs⟩
  · exact ⟨_, _, rfl⟩
  · exact ⟨_, _, rfl⟩
set_option maxHeartbeats 1000000 in
theorem ended_any {S : Nat} {st : Rd} {v : Value} {hv : List HV} {w : World} (h : RdM S st v hv w) :
    Calls Tryz.prog 36 #[.pointer (some ⟨S, 0, none⟩)] w fun e w' => (∃ r : Bool, e = .returned (.bool r) ∧ (r = true ↔ st.ended)) ∧ Below w.heap.size w w' := by
  obtain ⟨a, cap, rfl⟩ := h.hso.len
  have hlen : Hid (hv.length = st.hs.length) := by unfold Hid; rw [← h.hs, List.length_map]
  have c0 : w.cell? ⟨S, 0, none⟩ = some (.slice a hv.length cap) := cell_of (k := 0) h.blk rfl
  have c3 : w.cell? ⟨S, 3, none⟩ = some (.int .i64 (st.f : Int)) := cell_of (k := 3) h.blk rfl
  have c4 : w.cell? ⟨S, 4, none⟩ = some (.int .i64 (st.t : Int)) := cell_of (k := 4) h.blk rfl
  have c5 : w.cell? ⟨S, 5, none⟩ = some (.bool st.b) := cell_of (k := 5) h.blk rfl
  clear h
  generalize hv.length = n at *
  by_cases h0 : n = 0
  · subst h0
    have he : st.ended := .inl (List.eq_nil_of_length_eq_zero hlen.out.symm)
    have hE : Hid st.ended := he
    clear he
    go_enter Tryz.func36, Tryz.ntmps36
    go_wp2_with fail
    go_ret
    exact ⟨⟨true, rfl, by simp [hE.out]⟩, Below.refl _ _⟩
  · have e0 : ((n : Int) == 0) = false := by rw [beq_eq_false_iff_ne]; omega
    by_cases hd : st.f = 0 ∧ st.t = 0 ∧ st.b = true
    · have hE : Hid st.ended := .inr hd
      rw [hd.1] at c3
      rw [hd.2.1] at c4
      rw [hd.2.2] at c5
      have hdn := done_yes w
      clear hd
      go_enter Tryz.func36, Tryz.ntmps36
      go_wp2_with (go_at_call 80; refine hdn.mono ?_; rintro e w' ⟨rfl, hb⟩)
      go_ret
      exact ⟨⟨true, rfl, by simp [hE.out]⟩, hb⟩
    · have hE : Hid (¬ st.ended) := by
        rintro (e | e)
        · have := hlen.out; rw [e] at this; exact h0 this
        · exact hd e
      have hdn := done_no hd w
      generalize st.f = sf at *
      generalize st.t = sg at *
      generalize st.b = sb at *
      clear hd
      go_enter Tryz.func36, Tryz.ntmps36
      go_wp2_with (go_at_call 80; refine hdn.mono ?_; rintro e w' ⟨rfl, hb⟩)
      go_ret
      exact ⟨⟨false, rfl, by simp [hE.out]⟩, hb⟩
end Go.Proofs.YtcclgodahlinbaaGreatDoor
