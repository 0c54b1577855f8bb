import Derived.Test.YtcclgodahlinbaaGreatDoorWRow
namespace Go.Proofs.YtcclgodahlinbaaGreatDoor
open Go.RowKit Go
set_option maxRecDepth 100000

theorem SewA.lt {S : Nat} {vl : Value} {t : List UInt8} {en mv : Int} {w : World} (h : SewA S vl t en mv w) : S < w.heap.size := let ⟨_, _, h⟩ := h; h.lt
theorem SewA.tag {S : Nat} {vl : Value} {t : List UInt8} {en mv : Int} {w : World} (h : SewA S vl t en mv w) : ∃ cs, w.heap[S]? = some (.cells cs 76 (0, 0)) := let ⟨_, _, h⟩ := h; ⟨_, h.blk⟩
theorem SewA.cells {S : Nat} {vl : Value} {t : List UInt8} {en mv : Int} {w : World} (h : SewA S vl t en mv w) : w.cell? ⟨S, 0, none⟩ = some vl ∧ w.cell? ⟨S, 3, none⟩ = some (.int .i64 en) ∧ w.cell? ⟨S, 4, none⟩ = some (.int .i64 mv) ∧ ∀ k, w.frozen? ⟨S, k, none⟩ = false :=
  let ⟨_, _, h⟩ := h; ⟨cell_of h.blk rfl, cell_of h.blk rfl, cell_of h.blk rfl, fun _ => frozen_of h.blk⟩
theorem SewA.alloc {S : Nat} {vl : Value} {t : List UInt8} {en mv : Int} {w : World} (h : SewA S vl t en mv w) (o : Obj) : SewA S vl t en mv (w.alloc o) :=
  let ⟨ad, vb, h⟩ := h; ⟨ad, vb, (Below.heap_alloc w o S h.lt).trans h.blk, h.adr, h.own.alloc o⟩
theorem SewA.drew {S : Nat} {vl : Value} {t : List UInt8} {en mv : Int} {w : World} (h : SewA S vl t en mv w) : SewA S vl t en mv w.drew :=
  let ⟨ad, vb, h⟩ := h; ⟨ad, vb, h.blk, h.adr, h.own⟩
theorem SewA.set3 {S : Nat} {vl : Value} {t : List UInt8} {en mv : Int} {w : World} (h : SewA S vl t en mv w) (n : Int) : SewA S vl t n mv (w.setCell ⟨S, 3, none⟩ (.int .i64 n)) :=
  let ⟨ad, vb, h⟩ := h; ⟨ad, vb, heap_setCell_same _ _ _ _ _ _ _ h.blk, h.adr, h.own.kept (grownBy_setCell _ _ _ _) (.inr h.ne)⟩
theorem SewA.set4 {S : Nat} {vl : Value} {t : List UInt8} {en mv : Int} {w : World} (h : SewA S vl t en mv w) (n : Int) : SewA S vl t en n (w.setCell ⟨S, 4, none⟩ (.int .i64 n)) :=
  let ⟨ad, vb, h⟩ := h; ⟨ad, vb, heap_setCell_same _ _ _ _ _ _ _ h.blk, h.adr, h.own.kept (grownBy_setCell _ _ _ _) (.inr h.ne)⟩

theorem run_sub' {a : Option Addr} {n c : Nat} {lo hi : Nat} (h1 : lo ≤ hi) (h2 : hi ≤ c) {v : Value} (hv : sliced a lo hi c 1 = v) (w : World) :
    (Instr.slice 27 (.slice a n c) (some (.int .i64 (lo : Int))) (some (.int .i64 (hi : Int))) none).run Tryz.prog w = .ok v w := by rw [run_sub h1 h2, hv]

set_option maxHeartbeats 1000000 in
/-- put: the lines as they were up to the place, then the piece's fresh ones -/
theorem put_sew {S : Nat} {t : List UInt8} {en mv : Int} {ei at' : Nat} {w : World} {al ao af : Option Addr} {cl co cf : Nat} {L lo lf : List ByteArray}
    (h : SewA S (.slice al L.length cl) t en mv w) (hL : RowS w (.slice al L.length cl) L) (hf : RowS w (.slice af lf.length cf) lf) (he : en = ei) (h1 : ei ≤ at') (h2 : at' ≤ L.length)
    (hlo : lo.length ≤ 100000) (hcl : L.length ≤ 100000) (hlen : t.length + (textL L).length + (textL lf).length ≤ 50000000) :
    Calls Tryz.prog 65 #[.pointer (some ⟨S, 0, none⟩), .agg #[.slice ao lo.length co, .slice af lf.length cf], .int .i64 (at' : Int)] w fun e w' =>
      e = .returned (.tuple #[]) ∧ SewA S (.slice al L.length cl) (t ++ textL ((L.drop ei).take (at' - ei)) ++ textL lf) (at' + lo.length : Nat) mv w' ∧ Below S w w' ∧ Lib.OthersKept 5 (some S) w w' := by
  subst he
  obtain ⟨_, hcc⟩ : L.length ≤ cl ∧ True := by obtain ⟨_, _, e, hc⟩ := hL.slice; cases e; exact ⟨hc, trivial⟩
  have hlt := h.lt
  have hsub := hL.sub h1 h2
  have hrun := fun w => run_sub' (n := L.length) h1 (by omega : at' ≤ cl) rfl (a := al) w
  obtain ⟨a2, c2, e2, _⟩ := hsub.slice
  rw [e2] at hrun hsub
  have hle : (textL ((L.drop ei).take (at' - ei))).length ≤ (textL L).length := by
    conv => rhs; rw [← List.take_append_drop ei L, textL_append, List.length_append, ← List.take_append_drop (at' - ei) (L.drop ei), textL_append, List.length_append]
    omega
  generalize (L.drop ei).take (at' - ei) = M at *
  have w0h := h.alloc (.cells #[.slice ao lo.length co, .slice af lf.length cf] 125)
  have w0f := hf.alloc (.cells #[.slice ao lo.length co, .slice af lf.length cf] 125)
  have w0s := hsub.alloc (.cells #[.slice ao lo.length co, .slice af lf.length cf] 125)
  have hB0 := heap_alloc_new w (.cells #[.slice ao lo.length co, .slice af lf.length cf] 125)
  have hbel0 : Below S w (w.alloc (.cells #[.slice ao lo.length co, .slice af lf.length cf] 125)) := (Below.refl _ _).alloc (by omega) _
  have hoth0 := (Lib.OthersKept.refl 5 (some S) w).alloc (.cells #[.slice ao lo.length co, .slice af lf.length cf] 125)
  obtain ⟨s0, s3, s4, sf⟩ := w0h.cells
  have hW1 := write_sew w0h.drew (w0s : RowS (w.alloc (.cells #[.slice ao lo.length co, .slice af lf.length cf] 125)).drew (.slice a2 M.length c2) M) (by omega)
  have p0 : (w.alloc (.cells #[.slice ao lo.length co, .slice af lf.length cf] 125)).cell? ⟨w.heap.size, 0, none⟩ = some (.slice ao lo.length co) := cell_of hB0 rfl
  have p1 : (w.alloc (.cells #[.slice ao lo.length co, .slice af lf.length cf] 125)).cell? ⟨w.heap.size, 1, none⟩ = some (.slice af lf.length cf) := cell_of hB0 rfl
  go_enter Tryz.func65, Tryz.ntmps65
  go_wp2_with fail
  generalize w.alloc (.cells #[.slice ao lo.length co, .slice af lf.length cf] 125) = W0 at *
  refine wp_still_tail 11 mixed (by kernel_rfl) ?_
  simp only [List.take_succ_cons, List.take_zero, List.drop_succ_cons, List.drop_zero]
  repeat still_step
  refine wpStill_nil ?_
  obtain ⟨cs0, hcs0⟩ := w0h.tag
  have hpk : Hid (∀ w1 : World, Lib.OthersKept 5 (some S) W0.drew w1 → w1.heap[w.heap.size]? = some (.cells #[.slice ao lo.length co, .slice af lf.length cf] 125 (0, 0))) := fun w1 hk => hk _ _ hB0 (by intro e; cases e; omega) (by intro c z e; injection e with _ e; exact absurd e (by decide))
  have hsum : IntKind.i64.wrap ((at' : Int) + lo.length) = (at' : Int) + lo.length := by rw [IntKind.wrap_i64]; omega
  go_wp2_with (first | (go_at_call 66; refine hW1.mono ?_; clear hW1; rintro e w1 ⟨rfl, h1', b1, k1⟩; have q1 : w1.cell? ⟨w.heap.size, 1, none⟩ = some (.slice af lf.length cf) := cell_of (hpk.out _ k1) rfl; have hr1 := RowS.kept (w := W0.drew) w0f hcs0 k1; have hW2 := write_sew h1' hr1 (by rw [List.length_append]; omega)) | (go_at_call 66; refine hW2.mono ?_; rintro e w2 ⟨rfl, h2', b2, k2⟩; have q0 : w2.cell? ⟨w.heap.size, 0, none⟩ = some (.slice ao lo.length co) := cell_of (hpk.out _ (k1.trans k2)) rfl; obtain ⟨s0', s3', s4', sf'⟩ := h2'.cells))
  go_end0
  refine ⟨rfl, ?_, (hbel0.drew.trans (b1.trans b2)).setCell (p := ⟨S, 3, none⟩) (Nat.le_refl _) _, (hoth0.drew.trans (k1.trans k2)).setCell ⟨S, 3, none⟩ rfl _⟩
  have := h2'.set3 ((at' : Int) + lo.length)
  rwa [Int.natCast_add]

set_option maxHeartbeats 1000000 in
theorem bstring_sew {S : Nat} {vl : Value} {t : List UInt8} {en mv : Int} {w : World} (h : SewA S vl t en mv w) :
    Calls Tryz.prog 67 #[.pointer (some ⟨S, 1, none⟩)] w fun e w' => e = .returned (.string ⟨t.toArray⟩) ∧ Below S w w' ∧ Lib.OthersKept 5 (some S) w w' := by
  obtain ⟨ad, vb, h⟩ := h
  have hlt := h.lt
  have hUN := fun (W : World) (q : Option Addr) => Lib.run_unsafeString_none (P := Tryz.prog) W 172 3 9 q
  have c2 : w.drew.cell? ⟨S, 2, none⟩ = some vb := cell_of (w := w.drew) h.blk rfl
  have hown := h.own
  rw [Lib.byteCells_length] at hown
  rcases hown.2 with ⟨rfl, h0⟩ | ⟨g, cap, cur, rfl, hbg, hg, hnc, hcm, hcs, htake⟩
  · obtain rfl : t = [] := List.eq_nil_of_length_eq_zero h0
    have hSD : (Builtin.unsafeSliceData_ #[72] 172 #[.slice none 0 0]).run Tryz.prog w.drew = .ok (.pointer none) w.drew := rfl
    go_enter Tryz.func67, Tryz.ntmps67
    go_wp2
    go_region
    all_goals (go_wp2; go_ret; exact ⟨rfl, Below.drew (Below.refl S w), (Lib.OthersKept.refl _ _ w).drew⟩)
  · by_cases ht0 : t = []
    · subst ht0
      by_cases hc0 : cap = 0
      · subst hc0
        have hSD : (Builtin.unsafeSliceData_ #[72] 172 #[.slice (some ⟨g, 0, none⟩) 0 0]).run Tryz.prog w.drew = .ok (.pointer (some ⟨w.heap.size, 0, none⟩)) (w.drew.alloc (.view ⟨g, 0, none⟩ 5)) :=
          Lib.run_unsafeSliceData_zero w.drew _ _ _ Tryz.underlying172 _ _ (5, cur.size) (by have hg' : w.drew.heap[g]? = some (.cells cur 5 (0, 0)) := hg; simp [World.shape?, hg'])
        have c2w : w.cell? ⟨S, 2, none⟩ = some (.slice (some ⟨g, 0, none⟩) 0 0) := c2
        have c2' : (w.drew.alloc (.view ⟨g, 0, none⟩ 5)).cell? ⟨S, 2, none⟩ = some (.slice (some ⟨g, 0, none⟩) 0 0) := (World.cell?_of_block (Below.heap_alloc w.drew _ S hlt)).trans c2
        go_enter Tryz.func67, Tryz.ntmps67
        go_wp2
        go_region
        all_goals (go_wp2; go_ret; exact ⟨rfl, ((Below.refl S w).drew).alloc (by show S ≤ w.heap.size; omega) _, ((Lib.OthersKept.refl _ _ w).drew).alloc _⟩)
      · have hSD : (Builtin.unsafeSliceData_ #[72] 172 #[.slice (some ⟨g, 0, none⟩) 0 cap]).run Tryz.prog w.drew = .ok (.pointer (some ⟨g, 0, none⟩)) w.drew := Lib.run_unsafeSliceData_row _ _ _ _ _ _ (by omega)
        go_enter Tryz.func67, Tryz.ntmps67
        go_wp2
        go_region
        all_goals (go_wp2; go_ret; exact ⟨rfl, (Below.refl S w).drew, (Lib.OthersKept.refl _ _ w).drew⟩)
    · have hl0 : t.length ≠ 0 := by simpa using ht0
      have hSD : (Builtin.unsafeSliceData_ #[72] 172 #[.slice (some ⟨g, 0, none⟩) t.length cap]).run Tryz.prog w.drew = .ok (.pointer (some ⟨g, 0, none⟩)) w.drew :=
        Lib.run_unsafeSliceData_row _ _ _ _ _ _ (by omega)
      have hUS : (Builtin.unsafeString_ #[172, 3] 9 #[.pointer (some ⟨g, 0, none⟩), .int .i64 t.length]).run Tryz.prog w.drew = .ok (.string ⟨t.toArray⟩) (w.drew.freeze ⟨g, 0, none⟩ t.length) := by
        refine Lib.run_unsafeString_row w.drew 172 3 9 5 Tryz.underlying172 (by kernel_rfl) g cur.size (by have hg' : w.drew.heap[g]? = some (.cells cur 5 (0, 0)) := hg; simp [World.shape?, hg']) t ht0 (by omega) (by unfold maxLen at hcm; omega) ?_
        intro j x hx
        have := hown.cells (g := g) rfl j (.int .u8 x.toNat) (by simp [Lib.byteCells, hx])
        exact this
      go_enter Tryz.func67, Tryz.ntmps67
      go_wp2
      go_region
      all_goals (go_wp2; go_ret; exact ⟨rfl, Lib.below_freeze (Below.drew (Below.refl S w)) (p := ⟨g, 0, none⟩) (by show S ≤ g; omega) _, ((Lib.OthersKept.refl _ _ w).drew).freeze ⟨g, 0, none⟩ _ ⟨cur, _, hg⟩⟩)
set_option maxHeartbeats 1000000 in
theorem sewtext_any {S : Nat} {t : List UInt8} {en mv : Int} {ei : Nat} {w : World} {al : Option Addr} {cl : Nat} {L : List ByteArray}
    (h : SewA S (.slice al L.length cl) t en mv w) (hL : RowS w (.slice al L.length cl) L) (he : en = ei) (h1 : ei ≤ L.length) (hlen : t.length + (textL L).length ≤ 50000000) :
    Calls Tryz.prog 30 #[.pointer (some ⟨S, 0, none⟩)] w fun e w' => e = .returned (.string ⟨(t ++ textL (L.drop ei)).toArray⟩) ∧ Below S w w' ∧ Lib.OthersKept 5 (some S) w w' := by
  subst he
  have hsub := hL.sub h1 (Nat.le_refl _)
  have hrun := fun w => run_sub_l (n := L.length) (c := cl) h1 (a := al) w
  have e0 : (L.drop ei).take (L.length - ei) = L.drop ei := List.take_of_length_le (by rw [List.length_drop]; omega)
  rw [e0] at hsub
  obtain ⟨a2, c2, e2, _⟩ := hsub.slice
  rw [e2] at hrun hsub
  have hle : (textL (L.drop ei)).length ≤ (textL L).length := by
    conv => rhs; rw [← List.take_append_drop ei L, textL_append, List.length_append]
    omega
  generalize L.drop ei = M at *
  clear e0 e2
  obtain ⟨s0, s3, s4, sf⟩ := h.cells
  have hW1 := write_sew h.drew (hsub : RowS w.drew (.slice a2 M.length c2) M) (by omega)
  go_enter Tryz.func30, Tryz.ntmps30
  go_wp2_with fail
  refine wp_still_tail 10 mixed (by kernel_rfl) ?_
  simp only [List.take_succ_cons, List.take_zero, List.drop_succ_cons, List.drop_zero]
  repeat still_step
  refine wpStill_nil ?_
  go_wp2_with (first | (go_at_call 66; refine hW1.mono ?_; rintro e w1 ⟨rfl, h1', b1, k1⟩) | (go_at_call 67; refine (bstring_sew h1').mono ?_; rintro e w2 ⟨rfl, b2, k2⟩))
  go_ret
  exact ⟨rfl, (Below.refl S w).drew.trans (b1.trans b2), (Lib.OthersKept.refl _ _ w).drew.trans (k1.trans k2)⟩
end Go.Proofs.YtcclgodahlinbaaGreatDoor
