import Derived.Test.YtcclgodahlinbaaGreatDoorWIndex
namespace Go.Proofs.YtcclgodahlinbaaGreatDoor
open Go.RowKit Go
set_option maxRecDepth 100000
attribute [local go_sem] run_store_complex

theorem SMv.drew {X : List (Nat × Obj)} {base S : Nat} {vo vf vop vled : Value} {st : Dn.Srch} {w : World} (h : SMv X base S vo vf st vop vled w) : SMv X base S vo vf st vop vled w.drew :=
  ⟨h.le, h.blk, h.op, h.led, h.ne1, h.ne2, h.ne3, h.fr⟩

theorem idx_quiet {S m capf x y n : Nat} {af : Option Addr} {w : World} (hc : w.cell? ⟨S, 1, none⟩ = some (.slice af m capf)) (hm : m < 210) (hx : x < 210) (hy : y < 210) :
    Calls Tryz.prog 50 #[.pointer (some ⟨S, 0, none⟩), .complex .f64 (fl x) (fl y)] (w.drewN n) fun e w'' => e = .returned (.int .i64 (Dn.idx m x y : Nat)) ∧ ∃ k, w'' = w.drewN k :=
  (index_at S m capf x y af (w.drewN n) hc hm hx hy).mono fun _ _ ⟨he, hm⟩ => ⟨he, n, hm.symm⟩

set_option maxHeartbeats 1000000 in
theorem change_sm {X : List (Nat × Obj)} {base S m capf : Nat} {af : Option Addr} {vo : Value} {st : Dn.Srch} {w : World} (p : Dn.Spot) (dx dy kind sr si : Nat) (h : SM X base S vo (.slice af m capf) st w)
    (hadd : ∀ w, (binOp .add 107 (.complex .f64 (fl p.x) (fl p.y)) (.complex .f64 sr si)).run Tryz.prog w = .ok (.complex .f64 (fl (p.x + dx)) (fl (p.y + dy))) w)
    (hm : m < 210) (hx : p.x + dx < 210) (hy : p.y + dy < 210) (hl : Dn.idx m (p.x + dx) (p.y + dy) < st.led.length) (hll : st.led.length ≤ 100000) (hf : p.far < 1000000) (ht : st.turns < 1000000) (hb : st.op.length < 1000000) :
    Calls Tryz.prog 97 #[.pointer (some ⟨S, 0, none⟩), .agg #[.complex .f64 (fl p.x) (fl p.y), .int .i64 p.far, .int .i64 p.turn, .int .u8 p.kind], .complex .f64 sr si, .int .u8 kind] w fun e w' =>
      e = .returned (.tuple #[]) ∧ SM X base S vo (.slice af m capf) (Dn.changeM m st p dx dy kind) w' ∧ Below base w w' := by
  obtain ⟨vop, vled, hsm⟩ := h
  obtain ⟨g, cap, rfl, hbg, hgw, _⟩ := owns_slice hsm.led (show 0 < st.led.length by omega)
  have hS := hsm.size
  have c1 := cell_of (k := 1) (v := .slice af m capf) hsm.blk rfl
  have c3 := cell_of (k := 3) (v := .int .i64 (st.turns : Int)) hsm.blk rfl
  have c4 := cell_of (k := 4) (v := .slice (some ⟨g, 0, none⟩) st.led.length cap) hsm.blk rfl
  have hSw : S < w.heap.size := hS.2
  have cl := owns_led hsm.led hl
  have hf3 : w.frozen? ⟨S, 3, none⟩ = false := frozen_of hsm.blk
  have hlI : ((Dn.idx m (p.x + dx) (p.y + dy) : Nat) : Int) < st.led.length := by omega
  have hq : Hid (∀ o n, Calls Tryz.prog 50 #[.pointer (some ⟨S, 0, none⟩), .complex .f64 (fl (p.x + dx)) (fl (p.y + dy))] ((w.alloc o).drewN n) fun e w'' => e = .returned (.int .i64 (Dn.idx m (p.x + dx) (p.y + dy) : Nat)) ∧ ∃ k, w'' = (w.alloc o).drewN k) :=
    fun o n => idx_quiet (w := w.alloc o) (cell_of (k := 1) (v := .slice af m capf) (hsm.alloc o).blk rfl) hm hx hy
  generalize hI : Dn.idx m (p.x + dx) (p.y + dy) = I at *
  have hat : st.at m (p.x + dx) (p.y + dy) = st.led.getD I 0 := by unfold Dn.Srch.at; rw [hI]
  by_cases h0 : st.led.getD I 0 = 0
  · have hch : Dn.changeM m st p dx dy kind = { op := Dn.pushM st.op ⟨p.x + dx, p.y + dy, p.far + 1, st.turns + 1, kind⟩, turns := st.turns + 1, led := st.led } := by unfold Dn.changeM; rw [if_pos (by rw [hat]; exact h0)]
    rw [hch]
    clear hch hat hI
    rw [h0] at cl
    clear h0
    have cl' : w.cell? ⟨g, I, none⟩ = some (.int .u8 0) := cl
    clear cl
    go_enter Tryz.func97, Tryz.ntmps97
    go_wp2_with fail
    go_quiet ((go_at_call 50; exact hq.out _ _))
    go_wp2_with fail
    have h1 := (((hsm.alloc (.cells #[.complex .f64 (fl p.x) (fl p.y), .int .i64 p.far, .int .i64 p.turn, .int .u8 p.kind] 112)).drewN (k := nq)).setTurn (st.turns + 1)).drew
    have e : ((st.turns + 1 : Nat) : Int) = (st.turns : Int) + 1 := by omega
    have e2 : ((p.far + 1 : Nat) : Int) = (p.far : Int) + 1 := by omega
    rw [e] at h1
    have hP := hpush_sm (st := { st with turns := st.turns + 1 }) ⟨p.x + dx, p.y + dy, p.far + 1, st.turns + 1, kind⟩ ⟨_, _, h1⟩ hb
    simp only [e, e2] at hP
    clear h1 hq
    have hbel : Below base w (((w.alloc (.cells #[.complex .f64 (fl p.x) (fl p.y), .int .i64 p.far, .int .i64 p.turn, .int .u8 p.kind] 112)).drewN nq).setCell ⟨S, 3, none⟩ (.int .i64 ((st.turns : Int) + 1))).drew :=
      ((Below.drewN' ((Below.refl base w).alloc (by omega) _)).setCell (p := ⟨S, 3, none⟩) hsm.le _).drew
    have hwr : IntKind.i64.wrap ((p.far : Int) + 1) = (p.far : Int) + 1 := by rw [IntKind.wrap_i64]; omega
    refine wp_still_tail 18 mixed (by kernel_rfl) ?_
    simp only [List.take_succ_cons, List.take_zero, List.drop_succ_cons, List.drop_zero]
    repeat still_step
    refine wpStill_nil ?_
    go_wp2_with (go_at_call 49; refine hP.mono ?_; rintro e w' ⟨rfl, hs2, hb2⟩)
    go_end0
    exact ⟨rfl, hs2, hbel.trans hb2⟩
  · have hch : Dn.changeM m st p dx dy kind = st := by unfold Dn.changeM; rw [if_neg (by rw [hat]; exact h0)]
    rw [hch]
    clear hch hat hI
    generalize st.led.getD I 0 = K at *
    have hb1 : (((K : Nat) : Int) == 0) = false := by simpa using h0
    have hb2 : (((K : Nat) : Int) != 0) = true := by simpa using h0
    clear h0
    go_enter Tryz.func97, Tryz.ntmps97
    go_wp2_with fail
    go_quiet ((go_at_call 50; exact hq.out _ _))
    go_wp2_with fail
    exact bodyPost_ret (results_none rfl _ _ _) rfl ⟨rfl, ⟨_, _, (hsm.alloc _).drewN⟩, Below.drewN' ((Below.refl _ _).alloc (by omega) _)⟩
end Go.Proofs.YtcclgodahlinbaaGreatDoor
