import Derived.Test.YtcclgodahlinbaaGreatDoorWChange
namespace Go.Proofs.YtcclgodahlinbaaGreatDoor
open Go.RowKit Go
set_option maxRecDepth 100000
attribute [local go_sem] run_store_complex

/-- a list of texts, read -/
def Strs (B : Nat) (w : World) (v : Value) (l : List ByteArray) : Prop :=
  (l = [] ∧ ∃ a c, v = .slice a 0 c) ∨ ∃ b off cap, v = .slice (some ⟨b, off, none⟩) l.length cap ∧ b < B ∧ ∀ i, i < l.length → w.cell? ⟨b, off + i, none⟩ = some (.string (l.getD i ByteArray.empty))

theorem Strs.slice {B : Nat} {w : World} {v : Value} {l : List ByteArray} (h : Strs B w v l) : ∃ a cap, v = .slice a l.length cap := by
  rcases h with ⟨rfl, a, c, rfl⟩ | ⟨b, off, cap, rfl, _⟩
  · exact ⟨a, c, rfl⟩
  · exact ⟨_, _, rfl⟩
theorem Strs.at {B n cap : Nat} {w : World} {a : Option Addr} {l : List ByteArray} (h : Strs B w (.slice a n cap) l) {i : Nat} (hi : i < l.length) :
    ∃ b off, a = some ⟨b, off, none⟩ ∧ b < B ∧ w.cell? ⟨b, off + i, none⟩ = some (.string (l.getD i ByteArray.empty)) := by
  rcases h with ⟨rfl, _⟩ | ⟨b, off, cap, e, hb, hc⟩
  · simp at hi
  · cases e; exact ⟨b, off, rfl, hb, hc i hi⟩
theorem Strs.below {B : Nat} {w w' : World} {v : Value} {l : List ByteArray} (h : Strs B w v l) (hb : Below B w w') : Strs B w' v l := by
  rcases h with h | ⟨b, off, cap, e, hB, hc⟩
  · exact .inl h
  · exact .inr ⟨b, off, cap, e, hB, fun i hi => (hb.cell (p := ⟨b, off + i, none⟩) hB).trans (hc i hi)⟩

theorem SMv.cons {X : List (Nat × Obj)} {base S B : Nat} {vo vf : Value} {st : Dn.Srch} {vop vled : Value} {w : World} {O : Obj} (h : SMv X base S vo vf st vop vled w) (hB : w.heap[B]? = some O) (h1 : B ≠ S) (h2 : vop.ownBlock ≠ some B) (h3 : vled.ownBlock ≠ some B) :
    SMv ((B, O) :: X) base S vo vf st vop vled w :=
  ⟨h.le, h.blk, h.op, h.led, h.ne1, h.ne2, h.ne3, fun x hx => by
    rcases List.mem_cons.1 hx with rfl | hx
    · exact ⟨hB, h1, h2, h3⟩
    · exact h.fr x hx⟩
theorem SM.tail {X : List (Nat × Obj)} {base S : Nat} {vo vf : Value} {st : Dn.Srch} {w : World} {x : Nat × Obj} (h : SM (x :: X) base S vo vf st w) : SM X base S vo vf st w := by
  obtain ⟨a, b, h⟩ := h
  exact ⟨a, b, h.le, h.blk, h.op, h.led, h.ne1, h.ne2, h.ne3, fun x hx => h.fr x (List.mem_cons_of_mem _ hx)⟩
theorem SM.head {X : List (Nat × Obj)} {base S : Nat} {vo vf : Value} {st : Dn.Srch} {w : World} {x : Nat × Obj} (h : SM (x :: X) base S vo vf st w) : w.heap[x.1]? = some x.2 := by
  obtain ⟨a, b, h⟩ := h
  exact (h.fr x (List.mem_cons_self ..)).1
theorem SM.field0 {X : List (Nat × Obj)} {base S : Nat} {vo vf : Value} {st : Dn.Srch} {w : World} (h : SM X base S vo vf st w) : w.cell? ⟨S, 0, none⟩ = some vo ∧ w.cell? ⟨S, 1, none⟩ = some vf := by
  obtain ⟨a, b, h⟩ := h
  exact ⟨cell_of h.blk rfl, cell_of h.blk rfl⟩

theorem Below.of_drew {B : Nat} {w w' : World} (h : Below B w.drew w') : Below B w w' := ⟨h.os, h.tape, h.output, h.size, h.block⟩
theorem str_ne {a b : ByteArray} (h : ¬ a = b) : (a.toList == b.toList) = false := by
  rw [beq_eq_false_iff_ne]
  intro e
  apply h
  apply ByteArray.ext
  apply Array.toList_inj.1
  simpa [ByteArray.toList_eq] using e

theorem changeM_led (m : Nat) (st : Dn.Srch) (p : Dn.Spot) (dx dy k : Nat) : (Dn.changeM m st p dx dy k).led = st.led := by unfold Dn.changeM; split <;> rfl
theorem changeM_turns (m : Nat) (st : Dn.Srch) (p : Dn.Spot) (dx dy k : Nat) : (Dn.changeM m st p dx dy k).turns ≤ st.turns + 1 := by unfold Dn.changeM; split <;> simp
theorem changeM_op (m : Nat) (st : Dn.Srch) (p : Dn.Spot) (dx dy k : Nat) : (Dn.changeM m st p dx dy k).op.length ≤ st.op.length + 1 := by unfold Dn.changeM; split <;> simp [Dn.pushM_length]

theorem same_true {o f : List ByteArray} {x y : Nat} (hx : x < o.length) (hy : y < f.length) (h : o.getD x ByteArray.empty = f.getD y ByteArray.empty) : Dn.same o f x y = true := by
  unfold Dn.same
  rw [decide_eq_true_eq]
  refine ⟨hx, hy, ?_⟩
  simp only [List.getD, List.getElem?_eq_getElem hx, List.getElem?_eq_getElem hy, Option.getD_some] at h ⊢
  rw [h]
theorem same_false {o f : List ByteArray} {x y : Nat} (h : ¬ (x < o.length ∧ y < f.length ∧ o.getD x ByteArray.empty = f.getD y ByteArray.empty)) : Dn.same o f x y = false := by
  unfold Dn.same
  rw [decide_eq_false_iff_not]
  rintro ⟨hx, hy, e⟩
  exact h ⟨hx, hy, by simp only [List.getD]; rw [e]⟩

abbrev spotObj (p : Dn.Spot) : Obj := .cells #[.complex .f64 (fl p.x) (fl p.y), .int .i64 p.far, .int .i64 p.turn, .int .u8 p.kind] 112

set_option maxHeartbeats 2000000 in
theorem settle_sm {X : List (Nat × Obj)} {base S capo capf : Nat} {ao af : Option Addr} {o f : List ByteArray} {st : Dn.Srch} {w : World} (p : Dn.Spot) (h : SM X base S (.slice ao o.length capo) (.slice af f.length capf) st w)
    (ho : Strs base w (.slice ao o.length capo) o) (hf : Strs base w (.slice af f.length capf) f)
    (hn : o.length < 209) (hm : f.length < 209) (hx : p.x ≤ o.length) (hy : p.y ≤ f.length) (hlen : st.led.length = (o.length + 1) * (f.length + 1)) (hfar : p.far < 900000) (ht : st.turns < 900000) (hb : st.op.length < 900000) :
    Calls Tryz.prog 51 #[.pointer (some ⟨S, 0, none⟩), .agg #[.complex .f64 (fl p.x) (fl p.y), .int .i64 p.far, .int .i64 p.turn, .int .u8 p.kind]] w fun e w' =>
      e = .returned (.tuple #[]) ∧ SM X base S (.slice ao o.length capo) (.slice af f.length capf) (Dn.settleM o f st p) w' ∧ Below base w w' := by
  have hl : Dn.idx f.length p.x p.y < st.led.length := by rw [hlen]; exact Dn.idx_lt hx hy
  have hll : st.led.length ≤ 100000 := by rw [hlen]; have : (o.length + 1) * (f.length + 1) ≤ 209 * 209 := Nat.mul_le_mul (by omega) (by omega); omega
  have hlen' : Hid (st.led.length = (o.length + 1) * (f.length + 1)) := hlen
  clear hlen
  obtain ⟨vop, vled, hsm⟩ := h
  obtain ⟨g, cap, rfl, hbg, hgw, _⟩ := owns_slice hsm.led (show 0 < st.led.length by omega)
  have hS := hsm.size
  have hSw : S < w.heap.size := hS.2
  have c0 := cell_of (k := 0) (v := .slice ao o.length capo) hsm.blk rfl
  have c1 := cell_of (k := 1) (v := .slice af f.length capf) hsm.blk rfl
  have c4 := cell_of (k := 4) (v := .slice (some ⟨g, 0, none⟩) st.led.length cap) hsm.blk rfl
  have cl := owns_led hsm.led hl
  have fl' := owns_frozen hsm.led
  have hlI : ((Dn.idx f.length p.x p.y : Nat) : Int) < st.led.length := by omega
  have hq : Hid (∀ ob k, Calls Tryz.prog 50 #[.pointer (some ⟨S, 0, none⟩), .complex .f64 (fl p.x) (fl p.y)] ((w.alloc ob).drewN k) fun e w'' => e = .returned (.int .i64 (Dn.idx f.length p.x p.y : Nat)) ∧ ∃ k, w'' = (w.alloc ob).drewN k) :=
    fun ob k => idx_quiet (w := w.alloc ob) (cell_of (k := 1) (v := .slice af f.length capf) (hsm.alloc ob).blk rfl) (by omega) (by omega) (by omega)
  have hq2 : Hid (∀ k, Calls Tryz.prog 50 #[.pointer (some ⟨S, 0, none⟩), .complex .f64 (fl p.x) (fl p.y)] ((w.alloc (.cells #[.complex .f64 (fl p.x) (fl p.y), .int .i64 p.far, .int .i64 p.turn, .int .u8 p.kind] 112)).drewN k) fun e w'' => e = .returned (.int .i64 (Dn.idx f.length p.x p.y : Nat)) ∧ (w.alloc (.cells #[.complex .f64 (fl p.x) (fl p.y), .int .i64 p.far, .int .i64 p.turn, .int .u8 p.kind] 112)).drewN k = w'') :=
    fun k => index_at S f.length capf p.x p.y af _ (cell_of (k := 1) (v := .slice af f.length capf) (hsm.alloc _).blk rfl) (by omega) (by omega) (by omega)
  have hq3 : Hid (∀ k, Calls Tryz.prog 50 #[.pointer (some ⟨S, 0, none⟩), .complex .f64 (fl p.x) (fl p.y)] ((w.alloc (.cells #[.complex .f64 (fl p.x) (fl p.y), .int .i64 p.far, .int .i64 p.turn, .int .u8 p.kind] 112)).drewN k) fun e w'' => e = .returned (.int .i64 (Dn.idx f.length p.x p.y : Nat)) ∧ w'' = (w.alloc (.cells #[.complex .f64 (fl p.x) (fl p.y), .int .i64 p.far, .int .i64 p.turn, .int .u8 p.kind] 112)).drewN k) :=
    fun k => (hq2.out k).mono fun _ _ h => ⟨h.1, h.2.symm⟩
  generalize hI : Dn.idx f.length p.x p.y = I at *
  have hat : st.at f.length p.x p.y = st.led.getD I 0 := by unfold Dn.Srch.at; rw [hI]
  by_cases h0 : st.led.getD I 0 = 0
  · have hset : Hid (Dn.settleM o f st p = (if Dn.same o f p.x p.y = true then { st with led := st.led.set I p.kind, op := Dn.pushM st.op ⟨p.x + 1, p.y + 1, p.far, p.turn, 32⟩ }
        else if p.y < f.length then Dn.changeM f.length (if p.x < o.length then Dn.changeM f.length { st with led := st.led.set I p.kind } p 1 0 45 else { st with led := st.led.set I p.kind }) p 0 1 43
          else (if p.x < o.length then Dn.changeM f.length { st with led := st.led.set I p.kind } p 1 0 45 else { st with led := st.led.set I p.kind }))) := by
      unfold Hid Dn.settleM
      rw [if_pos (by rw [hat]; exact h0), hI]
    rw [h0] at cl
    clear h0
    have cl' : w.cell? ⟨g, I, none⟩ = some (.int .u8 0) := cl
    clear cl
    go_enter Tryz.func51, Tryz.ntmps51
    go_wp2_with fail
    go_quiet ((go_at_call 50; exact hq.out _ _))
    go_wp2_with fail
    revert nq
    intro nq1
    refine wp_still_tail 11 mixed (by kernel_rfl) ?_
    simp only [List.take_succ_cons, List.take_zero, List.drop_succ_cons, List.drop_zero]
    repeat still_step
    still_call (hq3.out _)
    repeat still_step
    refine wpStill_nil ?_
    have x1 := fun w => conv_fl (show p.x < 210 by omega) w
    have x2 := fun w => conv_fl (show p.y < 210 by omega) w
    go_wp2_with fail
    go_quiet (fail)
    go_wp2_with fail
    clear x1 x2 hq hq2 hq3
    have hsmW := (((hsm.alloc (.cells #[.complex .f64 (fl p.x) (fl p.y), .int .i64 p.far, .int .i64 p.turn, .int .u8 p.kind] 112)).drewN (k := nq1 + 1)).setLed rfl I p.kind).drewN (k := nq)
    have hBW : ((((w.alloc (.cells #[.complex .f64 (fl p.x) (fl p.y), .int .i64 p.far, .int .i64 p.turn, .int .u8 p.kind] 112)).drewN (nq1 + 1)).setCell ⟨g, I, none⟩ (.int .u8 p.kind)).drewN nq).heap[w.heap.size]? = some (.cells #[.complex .f64 (fl p.x) (fl p.y), .int .i64 p.far, .int .i64 p.turn, .int .u8 p.kind] 112 (0, 0)) :=
      (heap_setCell_other ((w.alloc (.cells #[.complex .f64 (fl p.x) (fl p.y), .int .i64 p.far, .int .i64 p.turn, .int .u8 p.kind] 112)).drewN (nq1 + 1)) g w.heap.size I _ (by omega)).trans (heap_alloc_new w _)
    have hbelW : Below base w ((((w.alloc (.cells #[.complex .f64 (fl p.x) (fl p.y), .int .i64 p.far, .int .i64 p.turn, .int .u8 p.kind] 112)).drewN (nq1 + 1)).setCell ⟨g, I, none⟩ (.int .u8 p.kind)).drewN nq) :=
      Below.drewN' ((Below.drewN' ((Below.refl base w).alloc (by omega) _)).setCell (p := ⟨g, I, none⟩) hbg _)
    generalize ((((w.alloc (.cells #[.complex .f64 (fl p.x) (fl p.y), .int .i64 p.far, .int .i64 p.turn, .int .u8 p.kind] 112)).drewN (nq1 + 1)).setCell ⟨g, I, none⟩ (.int .u8 p.kind)).drewN nq) = W at hsmW hBW hbelW ⊢
    clear c0 c1 c4 fl' cl' hat hI
    have hvB : vop.ownBlock ≠ some w.heap.size := fun e => Nat.lt_irrefl _ (hsm.op.lt _ e).2
    have hS1 : w.heap.size ≠ S := by omega
    have hg1 : (Value.slice (some ⟨g, 0, none⟩) st.led.length cap).ownBlock ≠ some w.heap.size := fun e => by have : g = w.heap.size := Option.some.inj e; omega
    have hsmX := hsmW.cons hBW hS1 hvB hg1
    have hoW := ho.below hbelW
    have hfW := hf.below hbelW
    clear ho hf hvB hS1 hg1
    generalize hBB : w.heap.size = B at *
    have d0 := cell_of (k := 0) (v := .slice ao o.length capo) hsmW.blk rfl
    have d1 := cell_of (k := 1) (v := .slice af f.length capf) hsmW.blk rfl
    have b0 := cell_of (k := 0) hBW rfl
    have b1 := cell_of (k := 1) hBW rfl
    have b2 := cell_of (k := 2) hBW rfl
    have b3 := cell_of (k := 3) hBW rfl
    have hll1 : (st.led.set I p.kind).length = st.led.length := List.length_set
    by_cases hxn : p.x < o.length
    · have hxI : (p.x : Int) < o.length := by omega
      obtain ⟨bo, oo, rfl, _, ro⟩ := hoW.at hxn
      by_cases hym : p.y < f.length
      · have hyI : (p.y : Int) < f.length := by omega
        obtain ⟨bf, of', rfl, _, rf⟩ := hfW.at hym
        generalize hta : o.getD p.x ByteArray.empty = ta at ro
        generalize htb : f.getD p.y ByteArray.empty = tb at rf
        by_cases hab : ta = tb
        · subst hab
          have hsame := same_true hxn hym (hta.trans htb.symm)
          have hfin := hset.out
          rw [if_pos hsame] at hfin
          have hfin' : Hid _ := hfin
          clear hset hfin hsame hta htb
          have hk := fun w => cadd_keep (show p.x < 210 by omega) (show p.y < 210 by omega) w
          go_quiet (fail)
          go_wp2_with fail
          have hP := hpush_sm (st := { st with led := st.led.set I p.kind }) ⟨p.x + 1, p.y + 1, p.far, p.turn, 32⟩ ⟨_, _, (hsmX.drewN (k := nq)).drew⟩ (show st.op.length < 1000000 by omega)
          refine wp_still_tail 13 mixed (by kernel_rfl) ?_
          simp only [List.take_succ_cons, List.take_zero, List.drop_succ_cons, List.drop_zero]
          repeat still_step
          refine wpStill_nil ?_
          go_wp2_with (go_at_call 49; refine hP.mono ?_; rintro e w' ⟨rfl, hs2, hb2⟩)
          refine bodyPost_ret (results_none rfl _ _ _) rfl ⟨rfl, ?_, hbelW.trans (Below.of_drewN (Below.of_drew hb2))⟩
          rw [hfin'.out]; exact hs2.tail
        · have hsame := same_false (o := o) (f := f) (x := p.x) (y := p.y) (fun h => hab (hta.symm.trans (h.2.2.trans htb)))
          have hab1 := str_ne hab
          have hfin := hset.out
          rw [if_neg (by rw [hsame]; simp), if_pos hym, if_pos hxn] at hfin
          have hfin' : Hid (Dn.settleM o f st p = Dn.changeM f.length (Dn.changeM f.length { st with led := st.led.set I p.kind } p 1 0 45) p 0 1 43) := hfin
          clear hset hfin hsame hta htb
          go_quiet (fail)
          have hC := change_sm (st := { st with led := st.led.set I p.kind }) p 1 0 45 4607182418800017408 0 ⟨_, _, hsmX.drewN (k := nq)⟩ (fun w => cadd_drop (by omega) (by omega) w) (by omega) (by omega) (by omega) (by show _ < (st.led.set I p.kind).length; rw [List.length_set, hlen'.out]; exact Dn.idx_lt (by omega) (by omega)) (by show (st.led.set I p.kind).length ≤ _; rw [List.length_set]; exact hll) (by omega) (by show st.turns < _; omega) (by show st.op.length < _; omega)
          have hD : Hid (∀ w1, SM ((B, (.cells #[.complex .f64 (fl p.x) (fl p.y), .int .i64 p.far, .int .i64 p.turn, .int .u8 p.kind] 112 (0, 0))) :: X) base S (.slice (some ⟨bo, oo, none⟩) o.length capo) (.slice (some ⟨bf, of', none⟩) f.length capf) (Dn.changeM f.length { st with led := st.led.set I p.kind } p 1 0 45) w1 →
              Calls Tryz.prog 97 #[.pointer (some ⟨S, 0, none⟩), .agg #[.complex .f64 (fl p.x) (fl p.y), .int .i64 p.far, .int .i64 p.turn, .int .u8 p.kind], .complex .f64 0 4607182418800017408, .int .u8 43] w1 fun e w' =>
                e = .returned (.tuple #[]) ∧ SM ((B, (.cells #[.complex .f64 (fl p.x) (fl p.y), .int .i64 p.far, .int .i64 p.turn, .int .u8 p.kind] 112 (0, 0))) :: X) base S (.slice (some ⟨bo, oo, none⟩) o.length capo) (.slice (some ⟨bf, of', none⟩) f.length capf) (Dn.changeM f.length (Dn.changeM f.length { st with led := st.led.set I p.kind } p 1 0 45) p 0 1 43) w' ∧ Below base w1 w') := by
            intro w1 hs1
            have k1 := changeM_led f.length { st with led := st.led.set I p.kind } p 1 0 45
            have k2 := changeM_turns f.length { st with led := st.led.set I p.kind } p 1 0 45
            have k3 := changeM_op f.length { st with led := st.led.set I p.kind } p 1 0 45
            exact change_sm p 0 1 43 0 4607182418800017408 hs1 (fun w => cadd_add (by omega) (by omega) w) (by omega) (by omega) (by omega) (by rw [k1, List.length_set, hlen'.out]; exact Dn.idx_lt (by omega) (by omega)) (by rw [k1, List.length_set]; exact hll) (by omega) (by simp only at k2; omega) (by simp only at k3; omega)
          go_wp2_with (first | (go_at_call 97; refine hC.mono ?_; clear hC; rintro e w1 ⟨rfl, hs1, hb1⟩; have e0 := hs1.field0.1; have e1 := hs1.field0.2; have a0 := cell_of (k := 0) hs1.head rfl; have a1 := cell_of (k := 1) hs1.head rfl; have a2 := cell_of (k := 2) hs1.head rfl; have a3 := cell_of (k := 3) hs1.head rfl; have hD1 := hD.out w1 hs1; clear hD) | (go_at_call 97; refine hD1.mono ?_; clear hD1; rintro e w2 ⟨rfl, hs2, hb2⟩))
          go_end0
          refine ⟨rfl, ?_, (hbelW.trans (Below.of_drewN hb1)).trans hb2⟩
          rw [hfin'.out]; exact hs2.tail
      · have hsame := same_false (o := o) (f := f) (x := p.x) (y := p.y) (fun h => hym h.2.1)
        have hyI : decide ((p.y : Int) < (f.length : Int)) = false := decide_eq_false (by omega)
        have hyI' : ¬ ((p.y : Int) < (f.length : Int)) := by omega
        have hfin := hset.out
        rw [if_neg (by rw [hsame]; simp), if_neg hym, if_pos hxn] at hfin
        have hfin' : Hid (Dn.settleM o f st p = Dn.changeM f.length { st with led := st.led.set I p.kind } p 1 0 45) := hfin
        clear hset hfin hsame
        go_quiet (fail)
        have hC := change_sm (st := { st with led := st.led.set I p.kind }) p 1 0 45 4607182418800017408 0 ⟨_, _, hsmX.drewN (k := nq)⟩ (fun w => cadd_drop (by omega) (by omega) w) (by omega) (by omega) (by omega) (by show _ < (st.led.set I p.kind).length; rw [List.length_set, hlen'.out]; exact Dn.idx_lt (by omega) (by omega)) (by show (st.led.set I p.kind).length ≤ _; rw [List.length_set]; exact hll) (by omega) (by show st.turns < _; omega) (by show st.op.length < _; omega)
        go_wp2_with (go_at_call 97; refine hC.mono ?_; clear hC; rintro e w1 ⟨rfl, hs1, hb1⟩; have e0 := hs1.field0.1; have e1 := hs1.field0.2)
        go_end0
        refine ⟨rfl, ?_, hbelW.trans (Below.of_drewN hb1)⟩
        rw [hfin'.out]; exact hs1.tail
    · have hsame := same_false (o := o) (f := f) (x := p.x) (y := p.y) (fun h => hxn h.1)
      have hxI : decide ((p.x : Int) < (o.length : Int)) = false := decide_eq_false (by omega)
      have hxI' : ¬ ((p.x : Int) < (o.length : Int)) := by omega
      by_cases hym : p.y < f.length
      · have hyI : (p.y : Int) < f.length := by omega
        have hfin := hset.out
        rw [if_neg (by rw [hsame]; simp), if_pos hym, if_neg hxn] at hfin
        have hfin' : Hid (Dn.settleM o f st p = Dn.changeM f.length { st with led := st.led.set I p.kind } p 0 1 43) := hfin
        clear hset hfin hsame
        go_quiet (fail)
        have hC := change_sm (st := { st with led := st.led.set I p.kind }) p 0 1 43 0 4607182418800017408 ⟨_, _, hsmX.drewN (k := nq)⟩ (fun w => cadd_add (by omega) (by omega) w) (by omega) (by omega) (by omega) (by show _ < (st.led.set I p.kind).length; rw [List.length_set, hlen'.out]; exact Dn.idx_lt (by omega) (by omega)) (by show (st.led.set I p.kind).length ≤ _; rw [List.length_set]; exact hll) (by omega) (by show st.turns < _; omega) (by show st.op.length < _; omega)
        go_wp2_with (go_at_call 97; refine hC.mono ?_; clear hC; rintro e w1 ⟨rfl, hs1, hb1⟩)
        go_end0
        refine ⟨rfl, ?_, hbelW.trans (Below.of_drewN hb1)⟩
        rw [hfin'.out]; exact hs1.tail
      · have hyI : ¬ ((p.y : Int) < f.length) := by omega
        have hfin := hset.out
        rw [if_neg (by rw [hsame]; simp), if_neg hym, if_neg hxn] at hfin
        have hfin' : Hid (Dn.settleM o f st p = { st with led := st.led.set I p.kind }) := hfin
        clear hset hfin hsame
        go_quiet (fail)
        go_wp2_with fail
        go_end0
        refine ⟨rfl, ?_, Below.drewN' hbelW⟩
        rw [hfin'.out]; exact ⟨_, _, hsmW.drewN⟩
  · have hset : Dn.settleM o f st p = st := by unfold Dn.settleM; rw [if_neg (by rw [hat]; exact h0)]
    rw [hset]
    clear hset hat hI
    generalize st.led.getD I 0 = K at *
    have hb1 : (((K : Nat) : Int) == 0) = false := by simpa using h0
    have hb2 : (((K : Nat) : Int) != 0) = true := by simpa using h0
    clear h0
    go_enter Tryz.func51, Tryz.ntmps51
    go_wp2_with fail
    go_quiet ((go_at_call 50; exact hq.out _ _))
    go_wp2_with fail
    exact bodyPost_ret (results_none rfl _ _ _) rfl ⟨rfl, ⟨_, _, (hsm.alloc _).drewN⟩, Below.drewN' ((Below.refl _ _).alloc (by omega) _)⟩
end Go.Proofs.YtcclgodahlinbaaGreatDoor
