import Derived.Test.YtcclgodahlinbaaGreatDoorPatchesuptoT01
import Derived.Deep.LoopGhost
import Derived.Deep.OwnRows
import Derived.Shelf.Strings.Builder1
import Derived.Shelf.Strings.BuilderF
import Derived.Shelf.Strings.BuilderK
import Derived.Shelf.LaysM
import Derived.Shelf.Strconv.Clone
import Derived.Shelf.Strings.Search1
import Derived.Shelf.Strings.Search2
import Derived.Shelf.Strings.Search3
import Derived.Shelf.Strings.Count
import Derived.Shelf.Strings.Prefix
import Derived.Shelf.Strings.Split
import Derived.Shelf.Slices.Equal
import Derived.Shelf.Slices.Empties2
import Derived.Test.YtcclgodahlinbaaGreatDoorProg
import Derived.Lib.AtoiAllCases
import Derived.Lib.ItoaMem
import Derived.Lib.CutLaws
import Derived.Deep.Cut
namespace Go.Proofs.YtcclgodahlinbaaGreatDoor
open Go.RowKit Go
set_option maxRecDepth 100000
attribute [local go_sem] run_store_complex
def Strs (B : Nat) (w : World) (v : Value) (l : List ByteArray) : Prop :=
  (l = [] ∧ ∃ a c, v = .slice a 0 c) ∨ ∃ b off cap, v = .slice (some ⟨b, off, none⟩) l.length cap ∧ b < B ∧ ∀ i, i < l.length → w.cell? ⟨b, off + i, none⟩ = some (.string (l.getD i ByteArray.empty))
theorem Strs.at {B n cap : Nat} {w : World} {a : Option Addr} {l : List ByteArray} (h : Strs B w (.slice a n cap) l) {i : Nat} (hi : i < l.length) :
    ∃ b off, a = some ⟨b, off, none⟩ ∧ b < B ∧ w.cell? ⟨b, off + i, none⟩ = some (.string (l.getD i ByteArray.empty)) := by
  rcases h with ⟨rfl, _⟩ | ⟨b, off, cap, e, hb, hc⟩
  · simp at hi
  · cases e; exact ⟨b, off, rfl, hb, hc i hi⟩
theorem Strs.below {B : Nat} {w w' : World} {v : Value} {l : List ByteArray} (h : Strs B w v l) (hb : Below B w w') : Strs B w' v l := by
  rcases h with h | ⟨b, off, cap, e, hB, hc⟩
  · exact .inl h
  · exact .inr ⟨b, off, cap, e, hB, fun i hi => (hb.cell (p := ⟨b, off + i, none⟩) hB).trans (hc i hi)⟩
theorem SMv.cons {X : List (Nat × Obj)} {base S B : Nat} {vo vf : Value} {st : Dn.Srch} {vop vled : Value} {w : World} {O : Obj} (h : SMv X base S vo vf st vop vled w) (hB : w.heap[B]? = some O) (h1 : B ≠ S) (h2 : vop.ownBlock ≠ some B) (h3 : vled.ownBlock ≠ some B) :
    SMv ((B, O) :: X) base S vo vf st vop vled w :=
  ⟨h.le, h.blk, h.op, h.led, h.ne1, h.ne2, h.ne3, fun x hx => by
    rcases List.mem_cons.1 hx with rfl | hx
    · exact ⟨hB, h1, h2, h3⟩
    · exact h.fr x hx⟩
theorem SM.tail {X : List (Nat × Obj)} {base S : Nat} {vo vf : Value} {st : Dn.Srch} {w : World} {x : Nat × Obj} (h : SM (x :: X) base S vo vf st w) : SM X base S vo vf st w := by
  obtain ⟨a, b, h⟩ := h
  exact ⟨a, b, h.le, h.blk, h.op, h.led, h.ne1, h.ne2, h.ne3, fun x hx => h.fr x (List.mem_cons_of_mem _ hx)⟩
theorem SM.head {X : List (Nat × Obj)} {base S : Nat} {vo vf : Value} {st : Dn.Srch} {w : World} {x : Nat × Obj} (h : SM (x :: X) base S vo vf st w) : w.heap[x.1]? = some x.2 := by
  obtain ⟨a, b, h⟩ := h
  exact (h.fr x (List.mem_cons_self ..)).1
theorem SM.field0 {X : List (Nat × Obj)} {base S : Nat} {vo vf : Value} {st : Dn.Srch} {w : World} (h : SM X base S vo vf st w) : w.cell? ⟨S, 0, none⟩ = some vo ∧ w.cell? ⟨S, 1, none⟩ = some vf := by
  obtain ⟨a, b, h⟩ := h
  exact ⟨cell_of h.blk rfl, cell_of h.blk rfl⟩
theorem Below.of_drew {B : Nat} {w w' : World} (h : Below B w.drew w') : Below B w w' := ⟨h.os, h.tape, h.output, h.size, h.block⟩
theorem str_ne {a b : ByteArray} (h : ¬ a = b) : (a.toList == b.toList) = false := by
  rw [beq_eq_false_iff_ne]
  intro e
  apply h
  apply ByteArray.ext
  apply Array.toList_inj.1
  simpa [ByteArray.toList_eq] using e
theorem changeM_led (m : Nat) (st : Dn.Srch) (p : Dn.Spot) (dx dy k : Nat) : (Dn.changeM m st p dx dy k).led = st.led := by unfold Dn.changeM; split <;> rfl
theorem changeM_turns (m : Nat) (st : Dn.Srch) (p : Dn.Spot) (dx dy k : Nat) : (Dn.changeM m st p dx dy k).turns ≤ st.turns + 1 := by unfold Dn.changeM; split <;> simp
theorem changeM_op (m : Nat) (st : Dn.Srch) (p : Dn.Spot) (dx dy k : Nat) : (Dn.changeM m st p dx dy k).op.length ≤ st.op.length + 1 := by unfold Dn.changeM; split <;> simp [Dn.pushM_length]
theorem same_true {o f : List ByteArray} {x y : Nat} (hx : x < o.length) (hy : y < f.length) (h : o.getD x ByteArray.empty = f.getD y ByteArray.empty) : Dn.same o f x y = true := by
  unfold Dn.same
  rw [decide_eq_true_eq]
  refine ⟨hx, hy, ?_⟩
  simp only [List.getD, List.getElem?_eq_getElem hx, List.getElem?_eq_getElem hy, Option.getD_some] at h ⊢
  rw [h]
theorem same_false {o f : List ByteArray} {x y : Nat} (h : ¬ (x < o.length ∧ y < f.length ∧ o.getD x ByteArray.empty = f.getD y ByteArray.empty)) : Dn.same o f x y = false := by
  unfold Dn.same
  rw [decide_eq_false_iff_not]
  rintro ⟨hx, hy, e⟩
  exact h ⟨hx, hy, by simp only [List.getD]; rw [e]⟩
set_option maxHeartbeats 2000000 in
theorem settle_sm {X : List (Nat × Obj)} {base S capo capf : Nat} {ao af : Option Addr} {o f : List ByteArray} {st : Dn.Srch} {w : World} (p : Dn.Spot) (h : SM X base S (.slice ao o.length capo) (.slice af f.length capf) st w)
    (ho : Strs base w (.slice ao o.length capo) o) (hf : Strs base w (.slice af f.length capf) f)
    (hn : o.length < 209) (hm : f.length < 209) (hx : p.x ≤ o.length) (hy : p.y ≤ f.length) (hlen : st.led.length = (o.length + 1) * (f.length + 1)) (hfar : p.far < 900000) (ht : st.turns < 900000) (hb : st.op.length < 900000) :
    Calls Tryz.prog 51 #[.pointer (some ⟨S, 0, none⟩), .agg #[.complex .f64 (fl p.x) (fl p.y), .int .i64 p.far, .int .i64 p.turn, .int .u8 p.kind]] w fun e w' =>
      e = .returned (.tuple #[]) ∧ SM X base S (.slice ao o.length capo) (.slice af f.length capf) (Dn.settleM o f st p) w' ∧ Below base w w' := by
  have hl : Dn.idx f.length p.x p.y < st.led.length := by rw [hlen]; exact Dn.idx_lt hx hy
  have hll : st.led.length ≤ 100000 := by rw [hlen]; have : (o.length + 1) * (f.length + 1) ≤ 209 * 209 := Nat.mul_le_mul (by omega) (by omega); omega
  have hlen' : Hid (st.led.length = (o.length + 1) * (f.length + 1)) := hlen
  clear hlen
  obtain ⟨vop, vled, hsm⟩ := h
  obtain ⟨g, cap, rfl, hbg, hgw, _⟩ := owns_slice hsm.led (show 0 < st.led.length by omega)
  have hS := hsm.size
  have hSw : S < w.heap.size := hS.2
  have c0 := cell_of (k := 0) (v := .slice ao o.length capo) hsm.blk rfl
  have c1 := cell_of (k := 1) (v := .slice af f.length capf) hsm.blk rfl
  have c4 := cell_of (k := 4) (v := .slice (some ⟨g, 0, none⟩) st.led.length cap) hsm.blk rfl
  have cl := owns_led hsm.led hl
  have fl' := owns_frozen hsm.led
  have hlI : ((Dn.idx f.length p.x p.y : Nat) : Int) < st.led.length := by omega
  have hq : Hid (∀ ob k, Calls Tryz.prog 50 #[.pointer (some ⟨S, 0, none⟩), .complex .f64 (fl p.x) (fl p.y)] ((w.alloc ob).drewN k) fun e w'' => e = .returned (.int .i64 (Dn.idx f.length p.x p.y : Nat)) ∧ ∃ k, w'' = (w.alloc ob).drewN k) :=
    fun ob k => idx_quiet (w := w.alloc ob) (cell_of (k := 1) (v := .slice af f.length capf) (hsm.alloc ob).blk rfl) (by omega) (by omega) (by omega)
  have hq2 : Hid (∀ k, Calls Tryz.prog 50 #[.pointer (some ⟨S, 0, none⟩), .complex .f64 (fl p.x) (fl p.y)] ((w.alloc (.cells #[.complex .f64 (fl p.x) (fl p.y), .int .i64 p.far, .int .i64 p.turn, .int .u8 p.kind] 112)).drewN k) fun e w'' => e = .returned (.int .i64 (Dn.idx f.length p.x p.y : Nat)) ∧ (w.alloc (.cells #[.complex .f64 (fl p.x) (fl p.y), .int .i64 p.far, .int .i64 p.turn, .int .u8 p.kind] 112)).drewN k = w'') :=
    fun k => index_at S f.length capf p.x p.y af _ (cell_of (k := 1) (v := .slice af f.length capf) (hsm.alloc _).blk rfl) (by omega) (by omega) (by omega)
  have hq3 : Hid (∀ k, Calls Tryz.prog 50 #[.pointer (some ⟨S, 0, none⟩), .complex .f64 (fl p.x) (fl p.y)] ((w.alloc (.cells #[.complex .f64 (fl p.x) (fl p.y), .int .i64 p.far, .int .i64 p.turn, .int .u8 p.kind] 112)).drewN k) fun e w'' => e = .returned (.int .i64 (Dn.idx f.length p.x p.y : Nat)) ∧ w'' = (w.alloc (.cells #[.complex .f64 (fl p.x) (fl p.y), .int .i64 p.far, .int .i64 p.turn, .int .u8 p.kind] 112)).drewN k) :=
    fun k => (hq2.out k).mono fun _ _ h => ⟨h.1, h.2.symm⟩
  generalize hI : Dn.idx f.length p.x p.y = I at *
  have hat : st.at f.length p.x p.y = st.led.getD I 0 := by unfold Dn.Srch.at; rw [hI]
  by_cases h0 : st.led.getD I 0 = 0
  · have hset : Hid (Dn.settleM o f st p = (if Dn.same o f p.x p.y = true then { st with led := st.led.set I p.kind, op := Dn.pushM st.op ⟨p.x + 1, p.y + 1, p.far, p.turn, 32⟩ }
        else if p.y < f.length then Dn.changeM f.length (if p.x < o.length then Dn.changeM f.length { st with led := st.led.set I p.kind } p 1 0 45 else { st with led := st.led.set I p.kind }) p 0 1 43
          else (if p.x < o.length then Dn.changeM f.length { st with led := st.led.set I p.kind } p 1 0 45 else { st with led := st.led.set I p.kind }))) := by
      unfold Hid Dn.settleM
      rw [if_pos (by rw [hat]; exact h0), hI]
    rw [h0] at cl
    clear h0
    have cl' : w.cell? ⟨g, I, none⟩ = some (.int .u8 0) := cl
    clear cl
    go_enter Tryz.func51, Tryz.ntmps51
    go_wp2_with fail
    go_quiet ((go_at_call 50; exact hq.out _ _))
    go_wp2_with fail
    revert nq
    intro nq1
    refine wp_still_tail 11 mixed (by kernel_rfl) ?_
    simp only [List.take_succ_cons, List.take_zero, List.drop_succ_cons, List.drop_zero]
    repeat still_step
    still_call (hq3.out _)
    repeat still_step
    refine wpStill_nil ?_
    have x1 := fun w => conv_fl (show p.x < 210 by omega) w
    have x2 := fun w => conv_fl (show p.y < 210 by omega) w
    go_wp2_with fail
    go_quiet (fail)
    go_wp2_with fail
    clear x1 x2 hq hq2 hq3
    have hsmW := (((hsm.alloc (.cells #[.complex .f64 (fl p.x) (fl p.y), .int .i64 p.far, .int .i64 p.turn, .int .u8 p.kind] 112)).drewN (k := nq1 + 1)).setLed rfl I p.kind).drewN (k := nq)
    have hBW : ((((w.alloc (.cells #[.complex .f64 (fl p.x) (fl p.y), .int .i64 p.far, .int .i64 p.turn, .int .u8 p.kind] 112)).drewN (nq1 + 1)).setCell ⟨g, I, none⟩ (.int .u8 p.kind)).drewN nq).heap[w.heap.size]? = some (.cells #[.complex .f64 (fl p.x) (fl p.y), .int .i64 p.far, .int .i64 p.turn, .int .u8 p.kind] 112 (0, 0)) :=
      (heap_setCell_other ((w.alloc (.cells #[.complex .f64 (fl p.x) (fl p.y), .int .i64 p.far, .int .i64 p.turn, .int .u8 p.kind] 112)).drewN (nq1 + 1)) g w.heap.size I _ (by omega)).trans (heap_alloc_new w _)
    have hbelW : Below base w ((((w.alloc (.cells #[.complex .f64 (fl p.x) (fl p.y), .int .i64 p.far, .int .i64 p.turn, .int .u8 p.kind] 112)).drewN (nq1 + 1)).setCell ⟨g, I, none⟩ (.int .u8 p.kind)).drewN nq) :=
      Below.drewN' ((Below.drewN' ((Below.refl base w).alloc (by omega) _)).setCell (p := ⟨g, I, none⟩) hbg _)
    generalize ((((w.alloc (.cells #[.complex .f64 (fl p.x) (fl p.y), .int .i64 p.far, .int .i64 p.turn, .int .u8 p.kind] 112)).drewN (nq1 + 1)).setCell ⟨g, I, none⟩ (.int .u8 p.kind)).drewN nq) = W at hsmW hBW hbelW ⊢
    clear c0 c1 c4 fl' cl' hat hI
    have hvB : vop.ownBlock ≠ some w.heap.size := fun e => Nat.lt_irrefl _ (hsm.op.lt _ e).2
    have hS1 : w.heap.size ≠ S := by omega
    have hg1 : (Value.slice (some ⟨g, 0, none⟩) st.led.length cap).ownBlock ≠ some w.heap.size := fun e => by have : g = w.heap.size := Option.some.inj e; omega
    have hsmX := hsmW.cons hBW hS1 hvB hg1
    have hoW := ho.below hbelW
    have hfW := hf.below hbelW
    clear ho hf hvB hS1 hg1
    generalize hBB : w.heap.size = B at *
    have d0 := cell_of (k := 0) (v := .slice ao o.length capo) hsmW.blk rfl
    have d1 := cell_of (k := 1) (v := .slice af f.length capf) hsmW.blk rfl
    have b0 := cell_of (k := 0) hBW rfl
    have b1 := cell_of (k := 1) hBW rfl
    have b2 := cell_of (k := 2) hBW rfl
    have b3 := cell_of (k := 3) hBW rfl
    have hll1 : (st.led.set I p.kind).length = st.led.length := List.length_set
    by_cases hxn : p.x < o.length
    · have hxI : (p.x : Int) < o.length := by omega
      obtain ⟨bo, oo, rfl, _, ro⟩ := hoW.at hxn
      by_cases hym : p.y < f.length
      · have hyI : (p.y : Int) < f.length := by omega
        obtain ⟨bf, of', rfl, _, rf⟩ := hfW.at hym
        generalize hta : o.getD p.x ByteArray.empty = ta at ro
        generalize htb : f.getD p.y ByteArray.empty = tb at rf
        by_cases hab : ta = tb
        · subst hab
          have hsame := same_true hxn hym (hta.trans htb.symm)
          have hfin := hset.out
          rw [if_pos hsame] at hfin
          have hfin' : Hid _ := hfin
          clear hset hfin hsame hta htb
          have hk := fun w => cadd_keep (show p.x < 210 by omega) (show p.y < 210 by omega) w
          go_quiet (fail)
          go_wp2_with fail
          have hP := hpush_sm (st := { st with led := st.led.set I p.kind }) ⟨p.x + 1, p.y + 1, p.far, p.turn, 32⟩ ⟨_, _, (hsmX.drewN (k := nq)).drew⟩ (show st.op.length < 1000000 by omega)
          refine wp_still_tail 13 mixed (by kernel_rfl) ?_
          simp only [List.take_succ_cons, List.take_zero, List.drop_succ_cons, List.drop_zero]
          repeat still_step
          refine wpStill_nil ?_
          go_wp2_with (go_at_call 49; refine hP.mono ?_; rintro e w' ⟨rfl, hs2, hb2⟩)
          refine bodyPost_ret (results_none rfl _ _ _) rfl ⟨rfl, ?_, hbelW.trans (Below.of_drewN (Below.of_drew hb2))⟩
          rw [hfin'.out]; exact hs2.tail
        · have hsame := same_false (o := o) (f := f) (x := p.x) (y := p.y) (fun h => hab (hta.symm.trans (h.2.2.trans htb)))
          have hab1 := str_ne hab
          have hfin := hset.out
          rw [if_neg (by rw [hsame]; simp), if_pos hym, if_pos hxn] at hfin
          have hfin' : Hid (Dn.settleM o f st p = Dn.changeM f.length (Dn.changeM f.length { st with led := st.led.set I p.kind } p 1 0 45) p 0 1 43) := hfin
          clear hset hfin hsame hta htb
          go_quiet (fail)
          have hC := change_sm (st := { st with led := st.led.set I p.kind }) p 1 0 45 4607182418800017408 0 ⟨_, _, hsmX.drewN (k := nq)⟩ (fun w => cadd_drop (by omega) (by omega) w) (by omega) (by omega) (by omega) (by show _ < (st.led.set I p.kind).length; rw [List.length_set, hlen'.out]; exact Dn.idx_lt (by omega) (by omega)) (by show (st.led.set I p.kind).length ≤ _; rw [List.length_set]; exact hll) (by omega) (by show st.turns < _; omega) (by show st.op.length < _; omega)
          have hD : Hid (∀ w1, SM ((B, (.cells #[.complex .f64 (fl p.x) (fl p.y), .int .i64 p.far, .int .i64 p.turn, .int .u8 p.kind] 112 (0, 0))) :: X) base S (.slice (some ⟨bo, oo, none⟩) o.length capo) (.slice (some ⟨bf, of', none⟩) f.length capf) (Dn.changeM f.length { st with led := st.led.set I p.kind } p 1 0 45) w1 →
              Calls Tryz.prog 97 #[.pointer (some ⟨S, 0, none⟩), .agg #[.complex .f64 (fl p.x) (fl p.y), .int .i64 p.far, .int .i64 p.turn, .int .u8 p.kind], .complex .f64 0 4607182418800017408, .int .u8 43] w1 fun e w' =>
                e = .returned (.tuple #[]) ∧ SM ((B, (.cells #[.complex .f64 (fl p.x) (fl p.y), .int .i64 p.far, .int .i64 p.turn, .int .u8 p.kind] 112 (0, 0))) :: X) base S (.slice (some ⟨bo, oo, none⟩) o.length capo) (.slice (some ⟨bf, of', none⟩) f.length capf) (Dn.changeM f.length (Dn.changeM f.length { st with led := st.led.set I p.kind } p 1 0 45) p 0 1 43) w' ∧ Below base w1 w') := by
            intro w1 hs1
            have k1 := changeM_led f.length { st with led := st.led.set I p.kind } p 1 0 45
            have k2 := changeM_turns f.length { st with led := st.led.set I p.kind } p 1 0 45
            have k3 := changeM_op f.length { st with led := st.led.set I p.kind } p 1 0 45
            exact change_sm p 0 1 43 0 4607182418800017408 hs1 (fun w => cadd_add (by omega) (by omega) w) (by omega) (by omega) (by omega) (by rw [k1, List.length_set, hlen'.out]; exact Dn.idx_lt (by omega) (by omega)) (by rw [k1, List.length_set]; exact hll) (by omega) (by simp only at k2; omega) (by simp only at k3; omega)
          go_wp2_with (first | (go_at_call 97; refine hC.mono ?_; clear hC; rintro e w1 ⟨rfl, hs1, hb1⟩; have e0 := hs1.field0.1; have e1 := hs1.field0.2; have a0 := cell_of (k := 0) hs1.head rfl; have a1 := cell_of (k := 1) hs1.head rfl; have a2 := cell_of (k := 2) hs1.head rfl; have a3 := cell_of (k := 3) hs1.head rfl; have hD1 := hD.out w1 hs1; clear hD) | (go_at_call 97; refine hD1.mono ?_; clear hD1; rintro e w2 ⟨rfl, hs2, hb2⟩))
          go_end0
          refine ⟨rfl, ?_, (hbelW.trans (Below.of_drewN hb1)).trans hb2⟩
          rw [hfin'.out]; exact hs2.tail
      · have hsame := same_false (o := o) (f := f) (x := p.x) (y := p.y) (fun h => hym h.2.1)
        have hyI : decide ((p.y : Int) < (f.length : Int)) = false := decide_eq_false (by omega)
        have hyI' : ¬ ((p.y : Int) < (f.length : Int)) := by omega
        have hfin := hset.out
        rw [if_neg (by rw [hsame]; simp), if_neg hym, if_pos hxn] at hfin
        have hfin' : Hid (Dn.settleM o f st p = Dn.changeM f.length { st with led := st.led.set I p.kind } p 1 0 45) := hfin
        clear hset hfin hsame
        go_quiet (fail)
        have hC := change_sm (st := { st with led := st.led.set I p.kind }) p 1 0 45 4607182418800017408 0 ⟨_, _, hsmX.drewN (k := nq)⟩ (fun w => cadd_drop (by omega) (by omega) w) (by omega) (by omega) (by omega) (by show _ < (st.led.set I p.kind).length; rw [List.length_set, hlen'.out]; exact Dn.idx_lt (by omega) (by omega)) (by show (st.led.set I p.kind).length ≤ _; rw [List.length_set]; exact hll) (by omega) (by show st.turns < _; omega) (by show st.op.length < _; omega)
        go_wp2_with (go_at_call 97; refine hC.mono ?_; clear hC; rintro e w1 ⟨rfl, hs1, hb1⟩; have e0 := hs1.field0.1; have e1 := hs1.field0.2)
        go_end0
        refine ⟨rfl, ?_, hbelW.trans (Below.of_drewN hb1)⟩
        rw [hfin'.out]; exact hs1.tail
    · have hsame := same_false (o := o) (f := f) (x := p.x) (y := p.y) (fun h => hxn h.1)
      have hxI : decide ((p.x : Int) < (o.length : Int)) = false := decide_eq_false (by omega)
      have hxI' : ¬ ((p.x : Int) < (o.length : Int)) := by omega
      by_cases hym : p.y < f.length
      · have hyI : (p.y : Int) < f.length := by omega
        have hfin := hset.out
        rw [if_neg (by rw [hsame]; simp), if_pos hym, if_neg hxn] at hfin
        have hfin' : Hid (Dn.settleM o f st p = Dn.changeM f.length { st with led := st.led.set I p.kind } p 0 1 43) := hfin
        clear hset hfin hsame
        go_quiet (fail)
        have hC := change_sm (st := { st with led := st.led.set I p.kind }) p 0 1 43 0 4607182418800017408 ⟨_, _, hsmX.drewN (k := nq)⟩ (fun w => cadd_add (by omega) (by omega) w) (by omega) (by omega) (by omega) (by show _ < (st.led.set I p.kind).length; rw [List.length_set, hlen'.out]; exact Dn.idx_lt (by omega) (by omega)) (by show (st.led.set I p.kind).length ≤ _; rw [List.length_set]; exact hll) (by omega) (by show st.turns < _; omega) (by show st.op.length < _; omega)
        go_wp2_with (go_at_call 97; refine hC.mono ?_; clear hC; rintro e w1 ⟨rfl, hs1, hb1⟩)
        go_end0
        refine ⟨rfl, ?_, hbelW.trans (Below.of_drewN hb1)⟩
        rw [hfin'.out]; exact hs1.tail
      · have hyI : ¬ ((p.y : Int) < f.length) := by omega
        have hfin := hset.out
        rw [if_neg (by rw [hsame]; simp), if_neg hym, if_neg hxn] at hfin
        have hfin' : Hid (Dn.settleM o f st p = { st with led := st.led.set I p.kind }) := hfin
        clear hset hfin hsame
        go_quiet (fail)
        go_wp2_with fail
        go_end0
        refine ⟨rfl, ?_, Below.drewN' hbelW⟩
        rw [hfin'.out]; exact ⟨_, _, hsmW.drewN⟩
  · have hset : Dn.settleM o f st p = st := by unfold Dn.settleM; rw [if_neg (by rw [hat]; exact h0)]
    rw [hset]
    clear hset hat hI
    generalize st.led.getD I 0 = K at *
    have hb1 : (((K : Nat) : Int) == 0) = false := by simpa using h0
    have hb2 : (((K : Nat) : Int) != 0) = true := by simpa using h0
    clear h0
    go_enter Tryz.func51, Tryz.ntmps51
    go_wp2_with fail
    go_quiet ((go_at_call 50; exact hq.out _ _))
    go_wp2_with fail
    exact bodyPost_ret (results_none rfl _ _ _) rfl ⟨rfl, ⟨_, _, (hsm.alloc _).drewN⟩, Below.drewN' ((Below.refl _ _).alloc (by omega) _)⟩
end Go.Proofs.YtcclgodahlinbaaGreatDoor
namespace Go.Proofs.YtcclgodahlinbaaGreatDoor
open Go.RowKit Go
set_option maxRecDepth 100000
theorem fl_ord_all : (List.range 210).all (fun k => (FloatKind.f64.format.order (fl k) 0 == some .eq) == decide (k = 0)) = true := by kernel_rfl
theorem fl_ord {k : Nat} (h : k < 210) : (FloatKind.f64.format.order (fl k) 0 == some .eq) = decide (k = 0) := by
  have := List.all_eq_true.1 fl_ord_all k (List.mem_range.2 h)
  exact eq_of_beq this
set_option maxHeartbeats 400000 in
theorem thing_add (S b off n cap x y : Nat) (t : ByteArray) (w : World) (hc : w.cell? ⟨S, 1, none⟩ = some (.slice (some ⟨b, off, none⟩) n cap)) (hy : y < n) (hn : n < 210) (ht : w.cell? ⟨b, off + y, none⟩ = some (.string t)) :
    Calls Tryz.prog 99 #[.pointer (some ⟨S, 0, none⟩), .complex .f64 (fl x) (fl y), .int .u8 43] w fun e w' => e = .returned (.string t) ∧ w = w' := by
  have h2 := fun w => conv_fl (show y < 210 by omega) w
  have hyI : (y : Int) < n := by omega
  go_enter Tryz.func99, Tryz.ntmps99
  go_wp2
  go_ret
  exact ⟨rfl, rfl⟩
set_option maxHeartbeats 400000 in
theorem thing_old (S b off n cap x y k : Nat) (t : ByteArray) (w : World) (hc : w.cell? ⟨S, 0, none⟩ = some (.slice (some ⟨b, off, none⟩) n cap)) (hx : x < n) (hn : n < 210) (ht : w.cell? ⟨b, off + x, none⟩ = some (.string t)) (hk : k = 32 ∨ k = 45) :
    Calls Tryz.prog 99 #[.pointer (some ⟨S, 0, none⟩), .complex .f64 (fl x) (fl y), .int .u8 (k : Nat)] w fun e w' => e = .returned (.string t) ∧ w = w' := by
  have h2 := fun w => conv_fl (show x < 210 by omega) w
  have hxI : (x : Int) < n := by omega
  have hk' : (((k : Nat) : Int) == 43) = false := by simp; omega
  clear hk
  go_enter Tryz.func99, Tryz.ntmps99
  go_wp2
  go_ret
  exact ⟨rfl, rfl⟩
abbrev StepB := Dn.StepM ByteArray
def stepCells (l : List StepB) : List Value := l.flatMap fun s => [.int .u8 (s.kind : Nat), .string s.text]
theorem stepCells_cons (s : StepB) (l : List StepB) : stepCells (s :: l) = .int .u8 (s.kind : Nat) :: .string s.text :: stepCells l := rfl
theorem stepCells_append (a b : List StepB) : stepCells (a ++ b) = stepCells a ++ stepCells b := by simp [stepCells]
theorem stepCells_length (l : List StepB) : (stepCells l).length = l.length * 2 := by
  induction l with
  | nil => rfl
  | cons s l ih => rw [stepCells_cons]; simp [ih]; omega
theorem stepCells_get (l : List StepB) : ∀ (i : Nat) (h : i < l.length), (stepCells l)[i * 2]? = some (.int .u8 (l[i].kind : Nat)) ∧ (stepCells l)[i * 2 + 1]? = some (.string l[i].text) := by
  induction l with
  | nil => intro i h; simp at h
  | cons s l ih =>
    intro i h
    cases i with
    | zero => simp [stepCells_cons]
    | succ i =>
      have := ih i (by simpa using h)
      rw [stepCells_cons, show (i + 1) * 2 = i * 2 + 1 + 1 by omega]
      simpa using this
theorem stepCells_set (l : List StepB) (s : StepB) : ∀ (i : Nat), i < l.length → ((stepCells l).set (i * 2) (.int .u8 (s.kind : Nat))).set (i * 2 + 1) (.string s.text) = stepCells (l.set i s) := by
  induction l with
  | nil => intro i h; simp at h
  | cons t l ih =>
    intro i h
    cases i with
    | zero => simp [stepCells_cons]
    | succ i =>
      have := ih i (by simpa using h)
      rw [List.set_cons_succ, stepCells_cons, stepCells_cons, ← this, show (i + 1) * 2 = i * 2 + 1 + 1 by omega]
      simp
theorem owns_step {w : World} {base n cap g : Nat} {l : List StepB} (h : w.ownsRow base 120 2 (.slice (some ⟨g, 0, none⟩) n cap) n (stepCells l)) {i : Nat} (hi : i < l.length) :
    w.cell? ⟨g, i * 2, none⟩ = some (.int .u8 (l[i].kind : Nat)) ∧ w.cell? ⟨g, i * 2 + 1, none⟩ = some (.string l[i].text) := by
  obtain ⟨hl, hr⟩ := h
  rcases hr with ⟨e, _⟩ | ⟨g', cap', cur, e, hb, hg, h1, h2, h3, h4⟩
  · cases e
  · cases e
    obtain ⟨a, b⟩ := stepCells_get l i hi
    rw [← h4] at a b
    have f : ∀ (j : Nat) (u : Value), (cur.toList.take (n * 2))[j]? = some u → cur[j]? = some u := by
      intro j u hu
      rw [List.getElem?_take] at hu
      split at hu
      · simpa using hu
      · cases hu
    exact ⟨cell_of hg (f _ _ a), cell_of hg (f _ _ b)⟩
def setStep (w : World) (g i : Nat) (s : StepB) : World := (w.setCell ⟨g, i * 2, none⟩ (.int .u8 (s.kind : Nat))).setCell ⟨g, i * 2 + 1, none⟩ (.string s.text)
theorem grownBy_setStep (w : World) (g i : Nat) (s : StepB) : w.grownBy (setStep w g i s) (some g) := grownBy_trans (grownBy_setCell _ _ _ _) (grownBy_setCell _ _ _ _)
theorem setStep_row {w : World} {base g n cap i : Nat} {l : List StepB} (s : StepB) (hn : n = l.length) (hi : i < l.length)
    (h : w.ownsRow base 120 2 (.slice (some ⟨g, 0, none⟩) n cap) n (stepCells l)) :
    (setStep w g i s).ownsRow base 120 2 (.slice (some ⟨g, 0, none⟩) n cap) n (stepCells (l.set i s)) := by
  subst hn
  obtain ⟨hl, hr⟩ := h
  rcases hr with ⟨e, _⟩ | ⟨g', cap', cur, e, hb, hg, h1, h2, h3, h4⟩
  · cases e
  · cases e
    refine ⟨by rw [stepCells_length]; simp, .inr ⟨g, cap, _, rfl, hb, heap_setCell_same _ _ _ _ _ _ _ (heap_setCell_same _ _ _ _ _ _ _ hg), h1, h2, by simpa using h3, ?_⟩⟩
    rw [← stepCells_set l s i hi, ← h4]
    simp [List.take_set]
def Turned (l l' : List StepB) (i : Nat) : Prop := l'.length = l.length ∧ ∀ t, t < l.length → l'[t]? = if t < i ∨ l.length - i ≤ t then l[l.length - 1 - t]? else l[t]?
theorem turned_start (l : List StepB) : Turned l l 0 := ⟨rfl, fun t ht => by rw [if_neg (by omega)]⟩
theorem turned_end {l l' : List StepB} {i : Nat} (h : Turned l l' i) (hi : l.length ≤ 2 * i + 1) : l' = l.reverse := by
  apply List.ext_getElem?
  intro t
  by_cases ht : t < l.length
  · rw [h.2 t ht, List.getElem?_reverse ht]
    split
    · rfl
    · congr 1; omega
  · rw [List.getElem?_eq_none (by rw [h.1]; omega), List.getElem?_eq_none (by simp; omega)]
theorem turned_step {l l' : List StepB} {i : Nat} (h : Turned l l' i) (hi : 2 * i + 1 < l.length) (a b : StepB) (ha : l'[i]? = some a) (hb : l'[l.length - 1 - i]? = some b) :
    Turned l ((l'.set i b).set (l.length - 1 - i) a) (i + 1) := by
  obtain ⟨h1, h2⟩ := h
  have e1 := h2 i (by omega)
  rw [if_neg (by omega), ha] at e1
  have e2 := h2 (l.length - 1 - i) (by omega)
  rw [if_neg (by omega), hb] at e2
  refine ⟨by simp [h1], fun t ht => ?_⟩
  rw [List.getElem?_set, List.getElem?_set]
  by_cases c1 : l.length - 1 - i = t
  · subst c1
    rw [if_pos rfl, if_pos (by simp [h1]; omega), if_pos (by omega), show l.length - 1 - (l.length - 1 - i) = i by omega]
    exact e1
  · rw [if_neg c1]
    by_cases c2 : i = t
    · subst c2
      rw [if_pos rfl, if_pos (by rw [h1]; omega), if_pos (by omega)]
      exact e2
    · rw [if_neg c2, h2 t ht]
      by_cases c3 : t < i ∨ l.length - i ≤ t
      · rw [if_pos c3, if_pos (by omega)]
      · rw [if_neg c3, if_neg (by omega)]
set_option maxHeartbeats 1000000 in
theorem reverse_row {base g n cap : Nat} {l : List StepB} {w : World} (h : w.ownsRow base 120 2 (.slice (some ⟨g, 0, none⟩) n cap) n (stepCells l)) (hn : n = l.length) (hb : n < 1000000) (hbase : base ≤ g) (hbw : base ≤ w.heap.size) :
    Calls Tryz.prog 100 #[.slice (some ⟨g, 0, none⟩) n cap] w fun e w' =>
      e = .returned (.tuple #[]) ∧ w'.ownsRow base 120 2 (.slice (some ⟨g, 0, none⟩) n cap) n (stepCells l.reverse) ∧ Below base w w' := by
  have hn' : Hid (n = l.length) := hn
  clear hn
  go_enter Tryz.func100, Tryz.ntmps100
  go_wp2
  go_loopw [2, 3] (fun ti tj wr => ∃ (i : Nat) (l' : List StepB), ti = .int .i64 i ∧ tj = .int .i64 ((n : Int) - 1 - i) ∧ 2 * i ≤ n + 1 ∧ Hid (Turned l l' i) ∧ wr.ownsRow base 120 2 (.slice (some ⟨g, 0, none⟩) n cap) n (stepCells l') ∧ Below base w wr) (fun ti _ _ => n - (intOf ti).toNat)
  case atStart => exact ⟨0, l, rfl, by simp, by omega, turned_start l, h, Below.refl _ _⟩
  case round =>
    obtain ⟨i, l', rfl, rfl, hi, hT, hrow, hbel⟩ := hrel
    by_cases hend : 2 * i + 1 < n
    · have hl' : l'.length = n := by have := hT.out.1; have := hn'.out; omega
      have p1 := owns_step hrow (i := i) (by omega)
      have p2 := owns_step hrow (i := n - 1 - i) (by omega)
      obtain ⟨a, ha⟩ : ∃ a, l'[i]'(by omega) = a := ⟨_, rfl⟩
      obtain ⟨b, hb'⟩ : ∃ b, l'[n - 1 - i]'(by omega) = b := ⟨_, rfl⟩
      rw [ha] at p1
      rw [hb'] at p2
      obtain ⟨j, hj⟩ : ∃ j, n - 1 - i = j := ⟨_, rfl⟩
      have hji : (n : Int) - 1 - i = j := by omega
      have ha' : Hid (l'[i]? = some a) := by unfold Hid; rw [← ha]; exact List.getElem?_eq_getElem _
      have hb2 : Hid (l'[n - 1 - i]? = some b) := by unfold Hid; rw [← hb']; exact List.getElem?_eq_getElem _
      clear ha hb'
      rw [hj] at p2
      have hjn : Hid (n - 1 - i = j) := hj
      clear hj
      obtain ⟨q0, q1⟩ := p1
      obtain ⟨r0, r1⟩ := p2
      have hf := owns_frozen hrow
      have hij : ¬ i = j := by omega
      have hij' : ¬ j = i := by omega
      have c1 : (i : Int) < (j : Int) := by omega
      have c2 : (i : Int) < (n : Int) := by omega
      have c3 : (j : Int) < (n : Int) := by omega
      rw [hji]
      have hl2 : Hid (l'.length = n) := hl'
      clear hl'
      go_wp2_with fail
      go_region
      go_wp2_with fail
      have h1 := setStep_row (i := i) b hl2.out.symm (by have := hl2.out; omega) hrow
      have h2 := setStep_row (l := l'.set i b) (i := j) a (by rw [List.length_set]; exact hl2.out.symm) (by rw [List.length_set]; have := hl2.out; omega) h1
      have hg := grownBy_trans (grownBy_setStep wr g i b) (grownBy_setStep (setStep wr g i b) g j a)
      have h3 := hbel.grown hg (by have := hbel.size; omega) (fun k e => by cases e; exact hbase)
      have hT2 := turned_step hT.out (by have := hn'.out; omega) a b ha'.out (by have := hb2.out; rw [← hn'.out]; exact this)
      rw [← hn'.out, hjn.out] at hT2
      go_roundw
      case rel => exact ⟨i + 1, _, by go_num, by go_num, by omega, hT2, h2, h3.drew⟩
      case measure => simp [intOf]; omega
    · have c1 : ¬ ((i : Int) < (n : Int) - 1 - i) := by omega
      go_wp2_with fail
      go_end0
      have := turned_end hT.out (by have := hn'.out; omega)
      subst this
      exact ⟨rfl, hrow, hbel⟩
end Go.Proofs.YtcclgodahlinbaaGreatDoor
namespace Go.Proofs.YtcclgodahlinbaaGreatDoor
open Go.RowKit Go
set_option maxRecDepth 100000
theorem SM.kept {base S : Nat} {vo vf : Value} {st : Dn.Srch} {w w1 : World} {row : Option Nat} (h : SM [] base S vo vf st w) (hg : w.grownBy w1 row)
    (hr : ∀ k, row = some k → ∃ cur, w.heap[k]? = some (.cells cur 120 (0, 0))) : SM [] base S vo vf st w1 := by
  obtain ⟨vop, vled, h⟩ := h
  have k1 : some S ≠ row := by
    intro e
    obtain ⟨cur, hc⟩ := hr S e.symm
    rw [h.blk] at hc
    cases hc
  have k2 : ∀ {e size n : Nat} {v : Value} {xs : List Value}, w.ownsRow base e size v n xs → e ≠ 120 → v.ownBlock = none ∨ v.ownBlock ≠ row := by
    intro e size n v xs ho hne
    cases hv : v.ownBlock with
    | none => exact .inl rfl
    | some g =>
      right
      intro e'
      obtain ⟨cur, hc⟩ := hr g e'.symm
      obtain ⟨cur', hc'⟩ := owns_block ho hv
      rw [hc] at hc'
      cases hc'
      exact hne rfl
  exact ⟨vop, vled, h.le, (hg.block S h.size.2 k1).trans h.blk, h.op.kept hg (k2 h.op (by decide)), h.led.kept hg (k2 h.led (by decide)), h.ne1, h.ne2, h.ne3, fun x hx => by simp at hx⟩
theorem SM.alloc {X : List (Nat × Obj)} {base S : Nat} {vo vf : Value} {st : Dn.Srch} {w : World} (h : SM X base S vo vf st w) (o : Obj) : SM X base S vo vf st (w.alloc o) := by
  obtain ⟨a, b, h⟩ := h; exact ⟨a, b, h.alloc o⟩
theorem SM.drewN {X : List (Nat × Obj)} {base S k : Nat} {vo vf : Value} {st : Dn.Srch} {w : World} (h : SM X base S vo vf st w) : SM X base S vo vf st (w.drewN k) := by
  obtain ⟨a, b, h⟩ := h; exact ⟨a, b, h.drewN⟩
theorem info_step : (Tryz.prog.info? 120).map (fun i => (i.zero, i.size, i.bytes)) = some (some (.agg #[.int .u8 0, .string ByteArray.empty]), 2, 24) := by kernel_rfl
def slen : Value → Nat | .slice _ l _ => l | _ => 0
set_option maxHeartbeats 400000 in
theorem reverse_nil (a : Option Addr) (cap : Nat) (w : World) : Calls Tryz.prog 100 #[.slice a 0 cap] w fun e w' => e = .returned (.tuple #[]) ∧ w = w' := by
  go_enter Tryz.func100, Tryz.ntmps100
  go_wp2
  refine wp_loop_rounds 1 ?_
  rw [rounds_succ]
  go_wp2
  go_end0
  exact ⟨rfl, rfl⟩
theorem backM_step {o f : List ByteArray} {st : Dn.Srch} (x y : Nat) (h : ¬ (x = 0 ∧ y = 0)) :
    Dn.backM o f st (x + y) x y = if st.at f.length x y = 32 then ⟨32, o.getD (x - 1) default⟩ :: Dn.backM o f st (x + y - 1) (x - 1) (y - 1)
      else if st.at f.length x y = 45 then ⟨45, o.getD (x - 1) default⟩ :: Dn.backM o f st (x + y - 1) (x - 1) y
      else ⟨st.at f.length x y, f.getD (y - 1) default⟩ :: Dn.backM o f st (x + y - 1) x (y - 1) := by
  obtain ⟨k, hk⟩ : ∃ k, x + y = k + 1 := ⟨x + y - 1, by omega⟩
  rw [hk, Dn.backM, if_neg h]
  rfl
theorem backM_fuel {o f : List ByteArray} {st : Dn.Srch} (hi : Dn.Inv o f st) : ∀ (k k' x y : Nat), x + y ≤ k → x + y ≤ k' → x ≤ o.length → y ≤ f.length → st.at f.length x y ≠ 0 → Dn.backM o f st k x y = Dn.backM o f st k' x y := by
  intro k
  induction k with
  | zero =>
    intro k' x y h h' _ _ _
    have : x = 0 := by omega
    have : y = 0 := by omega
    subst_vars
    cases k' with
    | zero => rfl
    | succ k' => simp [Dn.backM]
  | succ k ih =>
    intro k' x y h h' hx hy hr
    by_cases h0 : x = 0 ∧ y = 0
    · rw [Dn.backM, if_pos h0]
      cases k' with
      | zero => rfl
      | succ k' => rw [Dn.backM, if_pos h0]
    · obtain ⟨k'', rfl⟩ : ∃ k'', k' = k'' + 1 := ⟨k' - 1, by omega⟩
      rw [Dn.backM, Dn.backM, if_neg h0, if_neg h0]
      rcases hi.known x y hx hy hr with ⟨a, b, c⟩ | ⟨a, b, c, d, e⟩ | ⟨a, b, c⟩ | ⟨a, b, c⟩
      · omega
      · rw [if_pos a, if_pos a, ih k'' _ _ (by omega) (by omega) (by omega) (by omega) e]
      · rw [if_neg (by omega), if_pos a, if_neg (by omega), if_pos a, ih k'' _ _ (by omega) (by omega) (by omega) (by omega) c]
      · rw [if_neg (by omega), if_neg (by omega), if_neg (by omega), if_neg (by omega), ih k'' _ _ (by omega) (by omega) (by omega) (by omega) c]
set_option maxHeartbeats 2000000 in
theorem stepsTo_sm {base S capo capf : Nat} {ao af : Option Addr} {o f : List ByteArray} {st : Dn.Srch} {w : World} (h : SM [] base S (.slice ao o.length capo) (.slice af f.length capf) st w)
    (ho : Strs base w (.slice ao o.length capo) o) (hf : Strs base w (.slice af f.length capf) f) (hn : o.length < 209) (hm : f.length < 209) (hinv : Dn.Inv o f st) (he : st.at f.length o.length f.length ≠ 0) (hbw : base ≤ w.heap.size) :
    Calls Tryz.prog 53 #[.pointer (some ⟨S, 0, none⟩), .complex .f64 (fl o.length) (fl f.length)] w fun e w' =>
      ∃ v, e = .returned v ∧ w'.ownsRow base 120 2 v (Dn.backM o f st (o.length + f.length) o.length f.length).length (stepCells (Dn.backM o f st (o.length + f.length) o.length f.length).reverse) ∧ Below base w w' := by
  have hll : st.led.length ≤ 100000 := by rw [hinv.len]; have : (o.length + 1) * (f.length + 1) ≤ 209 * 209 := Nat.mul_le_mul (by omega) (by omega); omega
  obtain ⟨i0, hi, hz0, hz1, hz2⟩ := info_parts info_step
  generalize hL : Dn.backM o f st (o.length + f.length) o.length f.length = L
  have hL' : Hid (Dn.backM o f st (o.length + f.length) o.length f.length = L) := hL
  clear hL
  go_enter Tryz.func53, Tryz.ntmps53
  go_wp2
  go_loopw [1, 5] (fun t1 v wr => ∃ (x y : Nat) (k : List StepB), t1 = .complex .f64 (fl x) (fl y) ∧ x ≤ o.length ∧ y ≤ f.length ∧ Hid (st.at f.length x y ≠ 0) ∧ Hid (k ++ Dn.backM o f st (x + y) x y = L) ∧ SM [] base S (.slice ao o.length capo) (.slice af f.length capf) st wr ∧ wr.ownsRow base 120 2 v k.length (stepCells k) ∧ Below base w wr ∧ k.length + x + y ≤ o.length + f.length) (fun _ v _ => 1000 - slen v)
  case atStart => exact ⟨o.length, f.length, [], rfl, Nat.le_refl _, Nat.le_refl _, he, hL', h, World.ownsRow_nil _ _ _ _, Below.refl _ _, by simp⟩
  case round =>
    obtain ⟨x, y, k, rfl, hx, hy, hat, hback, hsm, hrow, hbel, hkl⟩ := hrel
    have o1 := fl_ord (k := x) (by omega)
    have o2 := fl_ord (k := y) (by omega)
    by_cases h0 : x = 0 ∧ y = 0
    · obtain ⟨rfl, rfl⟩ := h0
      have hne : ((FloatKind.f64.format.order (fl 0) 0 == some .eq) && (FloatKind.f64.format.order (fl 0) 0 == some .eq)) = true := by rw [o1]; rfl
      have hkL : k = L := by have := hback.out; simpa [Dn.backM] using this
      subst hkL
      clear o1 o2 hback hat
      by_cases hk0 : k.length = 0
      · have hk1 : k = [] := List.eq_nil_of_length_eq_zero hk0
        subst hk1
        have hsl : ∃ a c, u5 = .slice a 0 c := by
          rcases hrow.2 with ⟨e, _⟩ | ⟨g, cap, cur, e, _⟩
          · exact ⟨_, _, e⟩
          · exact ⟨_, _, e⟩
        obtain ⟨a, c, rfl⟩ := hsl
        have hR := reverse_nil a c wr
        clear hkl hk0
        go_wp2_with (go_at_call 100; refine hR.mono ?_; rintro e w' ⟨rfl, rfl⟩)
        go_ret
        exact ⟨_, rfl, hrow, hbel⟩
      · obtain ⟨g, cap, rfl, hbg, _, _⟩ := owns_slice hrow (by omega)
        have hR := reverse_row hrow rfl (by omega) hbg (by have := hbel.size; omega)
        have hkl' : Hid (k.length + 0 + 0 ≤ o.length + f.length) := hkl
        clear hkl
        go_wp2_with (go_at_call 100; refine hR.mono ?_; rintro e w' ⟨rfl, hr', hb'⟩)
        go_ret
        exact ⟨_, rfl, hr', hbel.trans hb'⟩
    · have hne : ((FloatKind.f64.format.order (fl x) 0 == some .eq) && (FloatKind.f64.format.order (fl y) 0 == some .eq)) = false := by rw [o1, o2]; simp; omega
      clear o1 o2
      have hled := hinv.known x y hx hy hat.out
      have hlI := Dn.idx_lt (n := o.length) (m := f.length) hx hy
      rw [← hinv.len] at hlI
      obtain ⟨vop, vled, hsv⟩ := id hsm
      obtain ⟨g, cap, rfl, hbg, hgw, _⟩ := owns_slice hsv.led (show 0 < st.led.length by omega)
      have c0 := cell_of (k := 0) (v := .slice ao o.length capo) hsv.blk rfl
      have c1 := cell_of (k := 1) (v := .slice af f.length capf) hsv.blk rfl
      have c4 := cell_of (k := 4) (v := .slice (some ⟨g, 0, none⟩) st.led.length cap) hsv.blk rfl
      have cl := owns_led hsv.led hlI
      have hq : Hid (∀ n, Calls Tryz.prog 50 #[.pointer (some ⟨S, 0, none⟩), .complex .f64 (fl x) (fl y)] (wr.drewN n) fun e w'' => e = .returned (.int .i64 (Dn.idx f.length x y : Nat)) ∧ ∃ k, w'' = wr.drewN k) := fun n => idx_quiet c1 (by omega) (by omega) (by omega)
      have hatI : st.led.getD (Dn.idx f.length x y) 0 = st.at f.length x y := rfl
      rw [hatI] at cl
      have hlII : ((Dn.idx f.length x y : Nat) : Int) < st.led.length := by omega
      generalize Dn.idx f.length x y = I at *
      have hstep := backM_step (o := o) (f := f) (st := st) x y h0
      have hoW := ho.below hbel
      have hfW := hf.below hbel
      have hbw' : base ≤ wr.heap.size := by have := hbel.size; omega
      clear hsv hatI
      have hrk : ∀ (w1 : World) (ob : Obj) (v' : Value) (s : StepB) (nq : Nat), w1.ownsRow base 120 2 v' (k.length + 1) (stepCells k ++ [.int .u8 (s.kind : Nat), .string s.text]) → ((wr.drewN nq).alloc ob).grownBy w1 u5.ownBlock →
          SM [] base S (.slice ao o.length capo) (.slice af f.length capf) st w1 ∧ w1.ownsRow base 120 2 v' (k ++ [s]).length (stepCells (k ++ [s])) ∧ Below base w w1 := by
        intro w1 ob v' s nq h1 h2
        refine ⟨(hsm.drewN.alloc ob).kept h2 (fun j e => ?_), ?_, ?_⟩
        · obtain ⟨cur, hc⟩ := owns_block hrow e
          exact ⟨cur, (Below.heap_alloc (wr.drewN nq) ob j (Array.getElem?_eq_some_iff.1 hc).1).trans hc⟩
        · rw [stepCells_append, List.length_append]; exact h1
        · exact ((Below.drewN' (k := nq) hbel).alloc hbw' ob).grown h2 (by simp; omega) (fun j e => (hrow.lt j e).1)
      rcases hled with ⟨a, b, c⟩ | ⟨a, b, c, d, e⟩ | ⟨a, b, c⟩ | ⟨a, b, c⟩
      · omega
      · -- keep
        obtain ⟨x', rfl⟩ : ∃ x', x = x' + 1 := ⟨x - 1, by omega⟩
        obtain ⟨y', rfl⟩ : ∃ y', y = y' + 1 := ⟨y - 1, by omega⟩
        rw [if_pos a] at hstep
        rw [a] at cl
        have cl' : wr.cell? ⟨g, I, none⟩ = some (.int .u8 32) := cl
        obtain ⟨bo, oo, rfl, _, ro⟩ := hoW.at (i := x') (by omega)
        generalize ht : o.getD x' ByteArray.empty = t at ro
        have hth := fun nq => thing_old S bo oo o.length capo x' y' 32 t (wr.drewN nq) c0 (by omega) (by omega) ro (.inl rfl)
        have hs1 := fun w => csub_keep (x := x') (y := y') (by omega) (by omega) w
        have hback' : Hid ((k ++ [⟨32, t⟩]) ++ Dn.backM o f st (x' + y') x' y' = L) := by
          unfold Hid
          rw [← ht, ← hback.out, hstep, List.append_assoc, backM_fuel hinv (x' + y') (x' + 1 + (y' + 1) - 1) x' y' (by omega) (by omega) (by omega) (by omega) (by simpa using e)]
          rfl
        have hat' : Hid (st.at f.length x' y' ≠ 0) := by unfold Hid; simpa using e
        clear hback hstep cl hat a ht d e hoW hfW ho hf
        have hone : ∀ u ∈ [Value.int .u8 32, Value.string t], u.oneCell' = true := by intro u hu; simp at hu; rcases hu with rfl | rfl <;> rfl
        have hb1 : k.length + 1 ≤ maxLen := by unfold maxLen; omega
        have hb2 : (k.length + 1) * 24 ≤ 140737488355328 := by omega
        have hbs : ∀ ob nq, base ≤ ((wr.drewN nq).alloc ob).heap.size := by intro ob nq; simp; omega
        have hkl' : Hid (k.length + (x' + 1) + (y' + 1) ≤ o.length + f.length) := hkl
        clear hkl
        go_wp2_with fail
        go_quiet ((go_at_call 50; exact hq.out _))
        go_wp2_with (first | (go_at_call 99; refine (hth _).mono ?_; rintro e w' ⟨rfl, rfl⟩) | (at_builtin; refine wpList_append_own _ rfl (.tmp 29) (.tmp 36) 66 rfl base 120 i0 _ 2 24 Tryz.underlying66 hi hz0 hz1 hz2 rfl (by decide) u5 k.length (stepCells k) rfl ((ownsRow_drewN hrow).alloc _) ⟨wr.heap.size, 0, none⟩ 1 1 [.int .u8 32, .string t] rfl rfl (cells_new (wr.drewN nq) _ _) hone hb1 hb2 (hbs _ _) ?_; intro v' w1 hown' hgrow _; obtain ⟨g', cap', rfl, _, _⟩ := owns_slice hown' (Nat.succ_pos _)))
        have hr := hrk w1 _ _ ⟨32, t⟩ nq hown' hgrow
        go_roundw
        case rel => exact ⟨x', y', k ++ [⟨32, t⟩], rfl, by omega, by omega, hat', hback', hr.1, hr.2.1, hr.2.2, by have := hkl'.out; simp; omega⟩
        case measure =>
          have := hkl'.out
          rcases hrow.2 with ⟨e, h⟩ | ⟨g2, cap2, cur2, e, _⟩
          · subst e; simp [slen]; omega
          · subst e; simp [slen]; omega
      · -- drop
        obtain ⟨x', rfl⟩ : ∃ x', x = x' + 1 := ⟨x - 1, by omega⟩
        rw [if_neg (by omega), if_pos a] at hstep
        rw [a] at cl
        have cl' : wr.cell? ⟨g, I, none⟩ = some (.int .u8 45) := cl
        obtain ⟨bo, oo, rfl, _, ro⟩ := hoW.at (i := x') (by omega)
        generalize ht : o.getD x' ByteArray.empty = t at ro
        have hth := fun nq => thing_old S bo oo o.length capo x' y 45 t (wr.drewN nq) c0 (by omega) (by omega) ro (.inr rfl)
        have hs1 := fun w => csub_drop (x := x') (y := y) (by omega) (by omega) w
        have hback' : Hid ((k ++ [⟨45, t⟩]) ++ Dn.backM o f st (x' + y) x' y = L) := by
          unfold Hid
          rw [← ht, ← hback.out, hstep, List.append_assoc, backM_fuel hinv (x' + y) (x' + 1 + (y) - 1) x' y (by omega) (by omega) (by omega) (by omega) (by simpa using c)]
          rfl
        have hat' : Hid (st.at f.length x' y ≠ 0) := by unfold Hid; simpa using c
        clear hback hstep cl hat a ht c hoW hfW ho hf
        have hone : ∀ u ∈ [Value.int .u8 45, Value.string t], u.oneCell' = true := by intro u hu; simp at hu; rcases hu with rfl | rfl <;> rfl
        have hb1 : k.length + 1 ≤ maxLen := by unfold maxLen; omega
        have hb2 : (k.length + 1) * 24 ≤ 140737488355328 := by omega
        have hbs : ∀ ob nq, base ≤ ((wr.drewN nq).alloc ob).heap.size := by intro ob nq; simp; omega
        have hkl' : Hid (k.length + (x' + 1) + (y) ≤ o.length + f.length) := hkl
        clear hkl
        go_wp2_with fail
        go_quiet ((go_at_call 50; exact hq.out _))
        go_wp2_with (first | (go_at_call 99; refine (hth _).mono ?_; rintro e w' ⟨rfl, rfl⟩) | (at_builtin; refine wpList_append_own _ rfl (.tmp 29) (.tmp 36) 66 rfl base 120 i0 _ 2 24 Tryz.underlying66 hi hz0 hz1 hz2 rfl (by decide) u5 k.length (stepCells k) rfl ((ownsRow_drewN hrow).alloc _) ⟨wr.heap.size, 0, none⟩ 1 1 [.int .u8 45, .string t] rfl rfl (cells_new (wr.drewN nq) _ _) hone hb1 hb2 (hbs _ _) ?_; intro v' w1 hown' hgrow _; obtain ⟨g', cap', rfl, _, _⟩ := owns_slice hown' (Nat.succ_pos _)))
        have hr := hrk w1 _ _ ⟨45, t⟩ nq hown' hgrow
        go_roundw
        case rel => exact ⟨x', y, k ++ [⟨45, t⟩], rfl, by omega, by omega, hat', hback', hr.1, hr.2.1, hr.2.2, by have := hkl'.out; simp; omega⟩
        case measure =>
          have := hkl'.out
          rcases hrow.2 with ⟨e, h⟩ | ⟨g2, cap2, cur2, e, _⟩
          · subst e; simp [slen]; omega
          · subst e; simp [slen]; omega
      · -- add
        obtain ⟨y', rfl⟩ : ∃ y', y = y' + 1 := ⟨y - 1, by omega⟩
        rw [if_neg (by omega), if_neg (by omega), a] at hstep
        rw [a] at cl
        have cl' : wr.cell? ⟨g, I, none⟩ = some (.int .u8 43) := cl
        obtain ⟨bo, oo, rfl, _, ro⟩ := hfW.at (i := y') (by omega)
        generalize ht : f.getD y' ByteArray.empty = t at ro
        have hth := fun nq => thing_add S bo oo f.length capf x y' t (wr.drewN nq) c1 (by omega) (by omega) ro
        have hs1 := fun w => csub_add (x := x) (y := y') (by omega) (by omega) w
        have hback' : Hid ((k ++ [⟨43, t⟩]) ++ Dn.backM o f st (x + y') x y' = L) := by
          unfold Hid
          rw [← ht, ← hback.out, hstep, List.append_assoc, backM_fuel hinv (x + y') (x + (y' + 1) - 1) x y' (by omega) (by omega) (by omega) (by omega) (by simpa using c)]
          rfl
        have hat' : Hid (st.at f.length x y' ≠ 0) := by unfold Hid; simpa using c
        clear hback hstep cl hat a ht c hoW hfW ho hf
        have hone : ∀ u ∈ [Value.int .u8 43, Value.string t], u.oneCell' = true := by intro u hu; simp at hu; rcases hu with rfl | rfl <;> rfl
        have hb1 : k.length + 1 ≤ maxLen := by unfold maxLen; omega
        have hb2 : (k.length + 1) * 24 ≤ 140737488355328 := by omega
        have hbs : ∀ ob nq, base ≤ ((wr.drewN nq).alloc ob).heap.size := by intro ob nq; simp; omega
        have hkl' : Hid (k.length + (x) + (y' + 1) ≤ o.length + f.length) := hkl
        clear hkl
        go_wp2_with fail
        go_quiet ((go_at_call 50; exact hq.out _))
        go_wp2_with (first | (go_at_call 99; refine (hth _).mono ?_; rintro e w' ⟨rfl, rfl⟩) | (at_builtin; refine wpList_append_own _ rfl (.tmp 29) (.tmp 36) 66 rfl base 120 i0 _ 2 24 Tryz.underlying66 hi hz0 hz1 hz2 rfl (by decide) u5 k.length (stepCells k) rfl ((ownsRow_drewN hrow).alloc _) ⟨wr.heap.size, 0, none⟩ 1 1 [.int .u8 43, .string t] rfl rfl (cells_new (wr.drewN nq) _ _) hone hb1 hb2 (hbs _ _) ?_; intro v' w1 hown' hgrow _; obtain ⟨g', cap', rfl, _, _⟩ := owns_slice hown' (Nat.succ_pos _)))
        have hr := hrk w1 _ _ ⟨43, t⟩ nq hown' hgrow
        go_roundw
        case rel => exact ⟨x, y', k ++ [⟨43, t⟩], rfl, by omega, by omega, hat', hback', hr.1, hr.2.1, hr.2.2, by have := hkl'.out; simp; omega⟩
        case measure =>
          have := hkl'.out
          rcases hrow.2 with ⟨e, h⟩ | ⟨g2, cap2, cur2, e, _⟩
          · subst e; simp [slen]; omega
          · subst e; simp [slen]; omega
end Go.Proofs.YtcclgodahlinbaaGreatDoor
namespace Go.Proofs.YtcclgodahlinbaaGreatDoor
open Go.RowKit Go
set_option maxRecDepth 100000
theorem info_u8 : (Tryz.prog.info? 5).map (fun i => (i.zero, i.size, i.bytes)) = some (some (.int .u8 0), 1, 1) := by kernel_rfl
theorem ledCells_replicate (N : Nat) : ledCells (List.replicate N 0) = List.replicate N (.int .u8 0) := by simp [ledCells]
theorem madeCells_one (z : Value) (N : Nat) : madeCells #[z] N = Array.replicate N z := by
  apply Array.ext
  · simp [madeCells]
  · intro i h1 h2; simp [madeCells, Nat.mod_one]
theorem SM.start {base S g N : Nat} {vo vf : Value} {w : World} (h1 : base ≤ S) (h2 : base ≤ g) (hN : N ≤ maxLen)
    (hS : w.heap[S]? = some (.cells #[vo, vf, .slice none 0 0, .int .i64 0, .slice (some ⟨g, 0, none⟩) N N] 106 (0, 0)))
    (hg : w.heap[g]? = some (.cells (madeCells #[.int .u8 0] N) 5 (0, 0))) :
    SM [] base S vo vf { op := [], turns := 0, led := List.replicate N 0 } w :=
  ⟨.slice none 0 0, .slice (some ⟨g, 0, none⟩) N N, SMv.mk' h1 hS (World.ownsRow_nil _ _ _ _)
    (by
      show w.ownsRow base 5 1 (.slice (some ⟨g, 0, none⟩) N N) (List.replicate N 0).length (ledCells (List.replicate N 0))
      rw [List.length_replicate, ledCells_replicate]
      refine ⟨by simp, .inr ⟨g, N, _, rfl, h2, hg, Nat.le_refl _, hN, by rw [madeCells_one]; simp, by rw [madeCells_one]; simp⟩⟩) (fun x hx => by simp at hx)⟩
theorem start_mu (o f : List ByteArray) : Dn.mu (Dn.startM o f) = 3 * ((o.length + 1) * (f.length + 1)) + 1 := by simp [Dn.mu, Dn.startM, Dn.zeros]
theorem pop_mem {l : List Dn.Spot} (h : l ≠ []) : Dn.popS l ∈ l := (Dn.pop_perm l h).mem_iff.1 (by simp)
set_option maxHeartbeats 2000000 in
theorem find_row {capo capf : Nat} {ao af : Option Addr} {o f : List ByteArray} {w : World}
    (ho : Strs w.heap.size w (.slice ao o.length capo) o) (hf : Strs w.heap.size w (.slice af f.length capf) f) (hn : o.length < 209) (hm : f.length < 209) :
    Calls Tryz.prog 25 #[.slice ao o.length capo, .slice af f.length capf] w fun e w' =>
      ∃ v, e = .returned v ∧ w'.ownsRow w.heap.size 120 2 v (Dn.wayM o f).length (stepCells (Dn.wayM o f)) ∧ Below w.heap.size w w' := by
  obtain ⟨N, hN⟩ : ∃ N, (o.length + 1) * (f.length + 1) = N := ⟨_, rfl⟩
  have hNb : N ≤ 100000 := by rw [← hN]; have : (o.length + 1) * (f.length + 1) ≤ 209 * 209 := Nat.mul_le_mul (by omega) (by omega); omega
  have hNI : ((o.length : Int) + 1) * ((f.length : Int) + 1) = N := by rw [← hN]; push_cast; rfl
  have hmk := fun w => run_make_row' (P := Tryz.prog) 72 5 (.int .u8 0) 1 Tryz.underlying72 info_u8 rfl .i64 .i64 N (by omega) (by omega) w
  have f1 : floatOfInt .f64 (o.length : Int) = fl o.length := rfl
  have f2 : floatOfInt .f64 (f.length : Int) = fl f.length := rfl
  have hN' : Hid ((o.length + 1) * (f.length + 1) = N) := hN
  clear hN
  go_enter Tryz.func25, Tryz.ntmps25
  obtain ⟨w0, hw0⟩ : ∃ w0, (w.alloc (.cells #[.slice ao o.length capo, .slice af f.length capf, .slice none 0 0, .int .i64 0, .slice (some ⟨w.heap.size + 1, 0, none⟩) N N] 106)).alloc (.cells (madeCells #[.int .u8 0] N) 5) = w0 := ⟨_, rfl⟩
  have hz0 : w0.heap.size = w.heap.size + 2 := by rw [← hw0]; simp
  have h0 : SM [] w.heap.size w.heap.size (.slice ao o.length capo) (.slice af f.length capf) { op := [], turns := 0, led := List.replicate N 0 } w0 := by
    refine SM.start (g := w.heap.size + 1) (Nat.le_refl _) (by omega) (by unfold maxLen; omega) ?_ ?_
    · rw [← hw0, Below.heap_alloc _ _ _ (by simp)]; exact heap_alloc_new w _
    · rw [← hw0]
      have := heap_alloc_new (w.alloc (.cells #[.slice ao o.length capo, .slice af f.length capf, .slice none 0 0, .int .i64 0, .slice (some ⟨w.heap.size + 1, 0, none⟩) N N] 106)) (.cells (madeCells #[.int .u8 0] N) 5)
      rwa [World.size_alloc] at this
  have hb0 : Below w.heap.size w w0 := by rw [← hw0]; exact ((Below.refl _ _).alloc (Nat.le_refl _) _).alloc (by simp) _
  have hP := hpush_sm ⟨0, 0, 0, 0, 46⟩ h0 (by simp)
  have e46 : ((46 : Nat) : Int) = 46 := rfl
  have e00 : ((0 : Nat) : Int) = 0 := rfl
  simp only [fl_zero, e46, e00] at hP
  clear e46 e00
  go_wp2_with (go_at_call 49; refine hP.mono ?_; rintro e w1 ⟨rfl, hs1, hb1⟩)
  have hbel := hb0.trans hb1
  clear hP hw0 h0 hb0 hb1 hmk f1 f2
  have hstart : SM [] w.heap.size w.heap.size (.slice ao o.length capo) (.slice af f.length capf) (Dn.startM o f) w1 := by
    have e : Dn.startM o f = { op := Dn.pushM [] ⟨0, 0, 0, 0, 46⟩, turns := 0, led := List.replicate N 0 } := by rw [← hN'.out]; rfl
    rw [e]; exact hs1
  go_loopg [] (Dn.mu (Dn.startM o f)) (fun k wr => ∃ st, Dn.Inv o f st ∧ k = Dn.mu st ∧ k ≤ 300001 ∧ Dn.searchM o f (Dn.mu st) st = Dn.foundM o f ∧ SM [] w.heap.size w.heap.size (.slice ao o.length capo) (.slice af f.length capf) st wr ∧ Below w.heap.size w wr)
  case atStart => exact ⟨_, Dn.startM_inv o f, rfl, by rw [start_mu, hN'.out]; omega, rfl, hstart, hbel⟩
  case round =>
    obtain ⟨st, hinv, hgk, hgb, hfound, hsm, hbw⟩ := hrel
    have hz1 := hbw.size
    obtain ⟨vop, vled, hsv⟩ := id hsm
    have hll : st.led.length ≤ 100000 := by rw [hinv.len, hN'.out]; exact hNb
    have hlI := Dn.idx_lt (n := o.length) (m := f.length) (Nat.le_refl _) (Nat.le_refl _)
    rw [← hinv.len] at hlI
    obtain ⟨g, cap, rfl, hbg, hgw, _⟩ := owns_slice hsv.led (show 0 < st.led.length by omega)
    have c1 := cell_of (k := 1) (v := .slice af f.length capf) hsv.blk rfl
    have c4 := cell_of (k := 4) (v := .slice (some ⟨g, 0, none⟩) st.led.length cap) hsv.blk rfl
    have cl := owns_led hsv.led hlI
    have hq : Hid (∀ n, Calls Tryz.prog 50 #[.pointer (some ⟨w.heap.size, 0, none⟩), .complex .f64 (fl o.length) (fl f.length)] (wr.drewN n) fun e w'' => e = .returned (.int .i64 (Dn.idx f.length o.length f.length : Nat)) ∧ ∃ k, w'' = wr.drewN k) := fun n => idx_quiet c1 (by omega) (by omega) (by omega)
    have hatI : st.led.getD (Dn.idx f.length o.length f.length) 0 = st.at f.length o.length f.length := rfl
    rw [hatI] at cl
    have hlII : ((Dn.idx f.length o.length f.length : Nat) : Int) < st.led.length := by omega
    generalize Dn.idx f.length o.length f.length = I at *
    clear hatI hsv
    have hoW := ho.below hbw
    have hfW := hf.below hbw
    by_cases he : st.at f.length o.length f.length = 0
    · rw [he] at cl
      have cl' : wr.cell? ⟨g, I, none⟩ = some (.int .u8 0) := cl
      have hne := hinv.open_ne he
      have hround := hinv.round hne
      have htn := hinv.turns
      have hmu : Dn.mu st = 3 * Dn.zeros st.led + st.op.length := rfl
      have hopb : st.op.length ≤ 300001 := by omega
      have htb : st.turns ≤ 200000 := by omega
      have hrl : (Dn.popR st.op).length ≤ 300001 := by
        rcases Dn.popR_length st.op with h | h
        · omega
        · exact absurd h hne
      obtain ⟨s1, s2, s3, s4, s5⟩ := hinv.spots _ (pop_mem hne)
      have hpop := fun nq => hpop_sm (hsm.drewN (k := nq)) hne (by omega)
      have hset : Hid (∀ w2, SM [] w.heap.size w.heap.size (.slice ao o.length capo) (.slice af f.length capf) { st with op := Dn.popR st.op } w2 → Below w.heap.size w w2 →
          Calls Tryz.prog 51 #[.pointer (some ⟨w.heap.size, 0, none⟩), .agg #[.complex .f64 (fl (Dn.popS st.op).x) (fl (Dn.popS st.op).y), .int .i64 (Dn.popS st.op).far, .int .i64 (Dn.popS st.op).turn, .int .u8 (Dn.popS st.op).kind]] w2 fun e w' =>
            e = .returned (.tuple #[]) ∧ SM [] w.heap.size w.heap.size (.slice ao o.length capo) (.slice af f.length capf) (Dn.roundM o f st) w' ∧ Below w.heap.size w2 w') :=
        fun w2 h1 h2 => settle_sm (Dn.popS st.op) h1 (ho.below h2) (hf.below h2) hn hm s1 s2 hinv.len (by omega) (by show st.turns < _; omega) (by show (Dn.popR st.op).length < _; omega)
      have hta : ∀ (v : Value) (w : World), (Instr.typeAssert (.iface 112 v) 20 112 false).run Tryz.prog w = .ok v w := fun _ _ => by kernel_rfl
      have hstep := Dn.searchM_step hinv he
      have hA : Hid (Dn.Inv o f (Dn.roundM o f st) ∧ Dn.mu (Dn.roundM o f st) < gk ∧ Dn.mu (Dn.roundM o f st) ≤ 300001 ∧ Dn.searchM o f (Dn.mu (Dn.roundM o f st)) (Dn.roundM o f st) = Dn.foundM o f) := by
        have hlt : Dn.mu (Dn.roundM o f st) < Dn.mu st := hround.2
        exact ⟨hround.1, by omega, by omega, hstep.trans hfound⟩
      generalize Dn.roundM o f st = st2 at hset hA
      clear hround htn hmu hopb htb hrl s1 s2 s3 s4 s5 hstep cl hoW hfW hgk hfound hinv he hz0 hz1
      unfold spotVal at hpop
      go_wp2_with fail
      go_quiet ((go_at_call 50; exact hq.out _))
      go_wp2_with (first | (go_at_call 52; refine (hpop _).mono ?_; rintro e w2 ⟨rfl, hs2, hb2⟩; have hset2 := hset.out w2 hs2 (hbw.trans (Below.of_drewN hb2)); clear hset) | (go_at_call 51; refine hset2.mono ?_; rintro e w3 ⟨rfl, hs3, hb3⟩))
      go_roundg (Dn.mu st2)
      case measure => exact hA.out.2.1
      case rel => exact ⟨st2, hA.out.1, rfl, hA.out.2.2.1, hA.out.2.2.2, hs3, (hbw.trans (Below.of_drewN hb2)).trans hb3⟩
    · have hfd : st = Dn.foundM o f := by rw [← hfound, Dn.searchM_done he]
      have hb1 : (((st.at f.length o.length f.length : Nat) : Int) == 0) = false := by simpa using he
      have hS := fun nq => stepsTo_sm (hsm.drewN (k := nq)) (hoW.below (Below.drewN' (Below.refl _ _))) (hfW.below (Below.drewN' (Below.refl _ _))) hn hm hinv he (by show w.heap.size ≤ wr.heap.size; exact hz1)
      have hway : Hid (Dn.wayM o f = (Dn.backM o f st (o.length + f.length) o.length f.length).reverse) := by unfold Hid Dn.wayM; rw [hfd]
      generalize hL : Dn.backM o f st (o.length + f.length) o.length f.length = L at hS hway
      clear hL hfd hfound hinv hoW hfW hgk hz0 hz1
      generalize st.at f.length o.length f.length = K at *
      go_wp2_with fail
      go_quiet ((go_at_call 50; exact hq.out _))
      go_wp2_with (go_at_call 53; refine (hS _).mono ?_; rintro e w2 ⟨v, rfl, hr2, hb2⟩)
      go_ret
      refine ⟨v, rfl, ?_, hbw.trans (Below.of_drewN hb2)⟩
      rw [hway.out, List.length_reverse]
      exact hr2
end Go.Proofs.YtcclgodahlinbaaGreatDoor
namespace Go.Proofs
open Go.Shelf
def Tryz.laysM316_ren : Go.Shelf.Ren := ⟨fun | 316 => 112 | n => n, fun | 9 => 9 | 3 => 3 | 4 => 4 | 37 => 72 | 0 => 0 | 127 => 172 | 5 => 5 | n => n, fun | n => n⟩
theorem Tryz.laysM316 : Go.Proofs.LaysM.n316 Tryz.prog Tryz.laysM316_ren := {
  mixed := by kernel_rfl
  f316 := Tryz.func112.trans (congrArg some (by kernel_rfl))
  t0 := Tryz.underlying0
  a0 := Tryz.isAgg0
  z0 := Tryz.sizeOf0
  v0 := Tryz.zeroValue0
  t3 := Tryz.underlying3
  a3 := Tryz.isAgg3
  z3 := Tryz.sizeOf3
  v3 := Tryz.zeroValue3
  t4 := Tryz.underlying4
  a4 := Tryz.isAgg4
  z4 := Tryz.sizeOf4
  v4 := Tryz.zeroValue4
  t9 := Tryz.underlying9
  a9 := Tryz.isAgg9
  z9 := Tryz.sizeOf9
  v9 := Tryz.zeroValue9
  t37 := Tryz.underlying72
  a37 := Tryz.isAgg72
  z37 := Tryz.sizeOf72
  v37 := Tryz.zeroValue72
  t127 := Tryz.underlying172
  a127 := Tryz.isAgg172
  z127 := Tryz.sizeOf172
  v127 := Tryz.zeroValue172
  t5 := Tryz.underlying5
  a5 := Tryz.isAgg5
  z5 := Tryz.sizeOf5
  v5 := Tryz.zeroValue5
  i0 := by kernel_rfl
  i3 := by kernel_rfl
  i4 := by kernel_rfl
  i5 := by kernel_rfl
  i9 := by kernel_rfl
  i37 := by kernel_rfl
  i127 := by kernel_rfl }
open Go.RowKit in
theorem Tryz.stringslite_Clone (s : ByteArray) (w : World) (hlim : s.size ≤ 281474976710656) :
    Calls Tryz.prog 112 #[.string s] w fun e w' => e = .returned (.string s) ∧ Below w.heap.size w w' := Any.stringslite_Clone Tryz.laysM316 s w hlim
def Tryz.lays144_ren : Go.Shelf.Ren := ⟨fun | 144 => 107 | 143 => 130 | 219 => 110 | 217 => 134 | 225 => 135 | 224 => 136 | 267 => 137 | 266 => 146 | 314 => 147 | n => n, fun | 9 => 9 | 4 => 4 | 3 => 3 | 5 => 5 | 46 => 193 | 146 => 203 | 51 => 202 | n => n, fun | 1 => 0 | n => n⟩
theorem Tryz.lays144 : Go.Proofs.Lays.n144 Tryz.prog Tryz.lays144_ren := {
  mixed := by kernel_rfl
  f143 := Tryz.func130.trans (congrArg some (by kernel_rfl))
  f144 := Tryz.func107.trans (congrArg some (by kernel_rfl))
  f217 := Tryz.func134.trans (congrArg some (by kernel_rfl))
  f219 := Tryz.func110.trans (congrArg some (by kernel_rfl))
  f224 := Tryz.func136.trans (congrArg some (by kernel_rfl))
  f225 := Tryz.func135.trans (congrArg some (by kernel_rfl))
  f266 := Tryz.func146.trans (congrArg some (by kernel_rfl))
  f267 := Tryz.func137.trans (congrArg some (by kernel_rfl))
  f314 := Tryz.func147.trans (congrArg some (by kernel_rfl))
  t3 := Tryz.underlying3
  a3 := Tryz.isAgg3
  z3 := Tryz.sizeOf3
  v3 := Tryz.zeroValue3
  t4 := Tryz.underlying4
  a4 := Tryz.isAgg4
  z4 := Tryz.sizeOf4
  v4 := Tryz.zeroValue4
  t5 := Tryz.underlying5
  a5 := Tryz.isAgg5
  z5 := Tryz.sizeOf5
  v5 := Tryz.zeroValue5
  t9 := Tryz.underlying9
  a9 := Tryz.isAgg9
  z9 := Tryz.sizeOf9
  v9 := Tryz.zeroValue9
  t46 := Tryz.underlying193
  a46 := Tryz.isAgg193
  z46 := Tryz.sizeOf193
  v46 := Tryz.zeroValue193
  t51 := Tryz.underlying202
  a51 := Tryz.isAgg202
  z51 := Tryz.sizeOf202
  v51 := Tryz.zeroValue202
  t146 := Tryz.underlying203
  a146 := Tryz.isAgg203
  z146 := Tryz.sizeOf203
  v146 := Tryz.zeroValue203
  g1 := by kernel_rfl }
open Go.RowKit Go.Lib in
theorem Tryz.strings_Contains_one (s : ByteArray) (c : UInt8) (w : World) :
    Calls Tryz.prog 107 #[.string s, .string ⟨#[c]⟩] w fun e w' => e = .returned (.bool (decide (0 ≤ Lib.indexByte s.data.toList c))) ∧ w' = w := Any.strings_Contains_one Tryz.lays144 s c w
def Tryz.lays138_ren : Go.Shelf.Ren := ⟨fun | 138 => 95 | 195 => 128 | 218 => 129 | 143 => 130 | 219 => 110 | 217 => 134 | 225 => 135 | 224 => 136 | 267 => 137 | 266 => 146 | 314 => 147 | n => n, fun | 9 => 9 | 3 => 3 | 4 => 4 | 5 => 5 | 0 => 0 | 46 => 193 | 146 => 203 | 51 => 202 | n => n, fun | 1 => 0 | n => n⟩
theorem Tryz.lays138 : Go.Proofs.Lays.n138 Tryz.prog Tryz.lays138_ren := {
  mixed := by kernel_rfl
  f138 := Tryz.func95.trans (congrArg some (by kernel_rfl))
  f143 := Tryz.func130.trans (congrArg some (by kernel_rfl))
  f195 := Tryz.func128.trans (congrArg some (by kernel_rfl))
  f217 := Tryz.func134.trans (congrArg some (by kernel_rfl))
  f218 := Tryz.func129.trans (congrArg some (by kernel_rfl))
  f219 := Tryz.func110.trans (congrArg some (by kernel_rfl))
  f224 := Tryz.func136.trans (congrArg some (by kernel_rfl))
  f225 := Tryz.func135.trans (congrArg some (by kernel_rfl))
  f266 := Tryz.func146.trans (congrArg some (by kernel_rfl))
  f267 := Tryz.func137.trans (congrArg some (by kernel_rfl))
  f314 := Tryz.func147.trans (congrArg some (by kernel_rfl))
  t0 := Tryz.underlying0
  a0 := Tryz.isAgg0
  z0 := Tryz.sizeOf0
  v0 := Tryz.zeroValue0
  t3 := Tryz.underlying3
  a3 := Tryz.isAgg3
  z3 := Tryz.sizeOf3
  v3 := Tryz.zeroValue3
  t4 := Tryz.underlying4
  a4 := Tryz.isAgg4
  z4 := Tryz.sizeOf4
  v4 := Tryz.zeroValue4
  t5 := Tryz.underlying5
  a5 := Tryz.isAgg5
  z5 := Tryz.sizeOf5
  v5 := Tryz.zeroValue5
  t9 := Tryz.underlying9
  a9 := Tryz.isAgg9
  z9 := Tryz.sizeOf9
  v9 := Tryz.zeroValue9
  t46 := Tryz.underlying193
  a46 := Tryz.isAgg193
  z46 := Tryz.sizeOf193
  v46 := Tryz.zeroValue193
  t51 := Tryz.underlying202
  a51 := Tryz.isAgg202
  z51 := Tryz.sizeOf202
  v51 := Tryz.zeroValue202
  t146 := Tryz.underlying203
  a146 := Tryz.isAgg203
  z146 := Tryz.sizeOf203
  v146 := Tryz.zeroValue203
  g1 := by kernel_rfl }
open Go.RowKit Go.Lib in
theorem Tryz.strings_Count_one (s : ByteArray) (c : UInt8) (w : World) :
    Calls Tryz.prog 95 #[.string s, .string ⟨#[c]⟩] w fun e w' => e = .returned (.int .i64 (Lib.countByte s.data.toList c)) ∧ w' = w := Any.strings_Count_one Tryz.lays138 s c w
def Tryz.lays100_ren : Go.Shelf.Ren := ⟨fun | 100 => 94 | 207 => 127 | n => n, fun | 9 => 9 | 4 => 4 | 3 => 3 | n => n, fun | n => n⟩
theorem Tryz.lays100 : Go.Proofs.Lays.n100 Tryz.prog Tryz.lays100_ren := {
  mixed := by kernel_rfl
  f100 := Tryz.func94.trans (congrArg some (by kernel_rfl))
  f207 := Tryz.func127.trans (congrArg some (by kernel_rfl))
  t3 := Tryz.underlying3
  a3 := Tryz.isAgg3
  z3 := Tryz.sizeOf3
  v3 := Tryz.zeroValue3
  t4 := Tryz.underlying4
  a4 := Tryz.isAgg4
  z4 := Tryz.sizeOf4
  v4 := Tryz.zeroValue4
  t9 := Tryz.underlying9
  a9 := Tryz.isAgg9
  z9 := Tryz.sizeOf9
  v9 := Tryz.zeroValue9 }
open Go.RowKit Go.Lib in
theorem Tryz.strings_HasSuffix (s p : ByteArray) (w : World) (hs : s.size ≤ 9223372036854775807) :
    Calls Tryz.prog 94 #[.string s, .string p] w fun e w' => e = .returned (.bool (Lib.hasSuffix s.data.toList p.data.toList)) ∧ w' = w := Any.strings_HasSuffix Tryz.lays100 s p w hs
def Tryz.lays102_ren : Go.Shelf.Ren := ⟨fun | 102 => 55 | 209 => 102 | 207 => 127 | n => n, fun | 9 => 9 | 4 => 4 | 3 => 3 | n => n, fun | n => n⟩
theorem Tryz.lays102 : Go.Proofs.Lays.n102 Tryz.prog Tryz.lays102_ren := {
  mixed := by kernel_rfl
  f102 := Tryz.func55.trans (congrArg some (by kernel_rfl))
  f207 := Tryz.func127.trans (congrArg some (by kernel_rfl))
  f209 := Tryz.func102.trans (congrArg some (by kernel_rfl))
  t3 := Tryz.underlying3
  a3 := Tryz.isAgg3
  z3 := Tryz.sizeOf3
  v3 := Tryz.zeroValue3
  t4 := Tryz.underlying4
  a4 := Tryz.isAgg4
  z4 := Tryz.sizeOf4
  v4 := Tryz.zeroValue4
  t9 := Tryz.underlying9
  a9 := Tryz.isAgg9
  z9 := Tryz.sizeOf9
  v9 := Tryz.zeroValue9 }
open Go.RowKit Go.Lib in
theorem Tryz.strings_TrimSuffix (s p : ByteArray) (w : World) (hs : s.size ≤ 9223372036854775807) :
    Calls Tryz.prog 55 #[.string s, .string p] w fun e w' => e = .returned (.string ⟨(Lib.trimSuffix s.data.toList p.data.toList).toArray⟩) ∧ w' = w := Any.strings_TrimSuffix Tryz.lays102 s p w hs
def Tryz.lays146_ren : Go.Shelf.Ren := ⟨fun | 146 => 54 | 221 => 101 | 268 => 131 | 138 => 95 | 143 => 130 | 195 => 128 | 197 => 144 | 218 => 129 | 219 => 110 | 260 => 151 | 217 => 134 | 225 => 135 | 224 => 136 | 267 => 137 | 266 => 146 | 314 => 147 | n => n, fun | 9 => 9 | 31 => 27 | 3 => 3 | 4 => 4 | 0 => 0 | 105 => 200 | 21 => 21 | 5 => 5 | 46 => 193 | 119 => 208 | 139 => 211 | 138 => 210 | 146 => 203 | 51 => 202 | n => n, fun | 1 => 0 | 3 => 1 | 4 => 2 | n => n⟩
theorem Tryz.lays146 : Go.Proofs.Lays.n146 Tryz.prog Tryz.lays146_ren := {
  mixed := by kernel_rfl
  f138 := Tryz.func95.trans (congrArg some (by kernel_rfl))
  f143 := Tryz.func130.trans (congrArg some (by kernel_rfl))
  f146 := Tryz.func54.trans (congrArg some (by kernel_rfl))
  f195 := Tryz.func128.trans (congrArg some (by kernel_rfl))
  f197 := Tryz.func144.trans (congrArg some (by kernel_rfl))
  f217 := Tryz.func134.trans (congrArg some (by kernel_rfl))
  f218 := Tryz.func129.trans (congrArg some (by kernel_rfl))
  f219 := Tryz.func110.trans (congrArg some (by kernel_rfl))
  f221 := Tryz.func101.trans (congrArg some (by kernel_rfl))
  f224 := Tryz.func136.trans (congrArg some (by kernel_rfl))
  f225 := Tryz.func135.trans (congrArg some (by kernel_rfl))
  f260 := Tryz.func151.trans (congrArg some (by kernel_rfl))
  f266 := Tryz.func146.trans (congrArg some (by kernel_rfl))
  f267 := Tryz.func137.trans (congrArg some (by kernel_rfl))
  f268 := Tryz.func131.trans (congrArg some (by kernel_rfl))
  f314 := Tryz.func147.trans (congrArg some (by kernel_rfl))
  t0 := Tryz.underlying0
  a0 := Tryz.isAgg0
  z0 := Tryz.sizeOf0
  v0 := Tryz.zeroValue0
  t3 := Tryz.underlying3
  a3 := Tryz.isAgg3
  z3 := Tryz.sizeOf3
  v3 := Tryz.zeroValue3
  t4 := Tryz.underlying4
  a4 := Tryz.isAgg4
  z4 := Tryz.sizeOf4
  v4 := Tryz.zeroValue4
  t5 := Tryz.underlying5
  a5 := Tryz.isAgg5
  z5 := Tryz.sizeOf5
  v5 := Tryz.zeroValue5
  t9 := Tryz.underlying9
  a9 := Tryz.isAgg9
  z9 := Tryz.sizeOf9
  v9 := Tryz.zeroValue9
  t21 := Tryz.underlying21
  a21 := Tryz.isAgg21
  z21 := Tryz.sizeOf21
  v21 := Tryz.zeroValue21
  t31 := Tryz.underlying27
  a31 := Tryz.isAgg27
  z31 := Tryz.sizeOf27
  v31 := Tryz.zeroValue27
  t46 := Tryz.underlying193
  a46 := Tryz.isAgg193
  z46 := Tryz.sizeOf193
  v46 := Tryz.zeroValue193
  t51 := Tryz.underlying202
  a51 := Tryz.isAgg202
  z51 := Tryz.sizeOf202
  v51 := Tryz.zeroValue202
  t105 := Tryz.underlying200
  a105 := Tryz.isAgg200
  z105 := Tryz.sizeOf200
  v105 := Tryz.zeroValue200
  t119 := Tryz.underlying208
  a119 := Tryz.isAgg208
  z119 := Tryz.sizeOf208
  t138 := Tryz.underlying210
  a138 := Tryz.isAgg210
  z138 := Tryz.sizeOf210
  v138 := Tryz.zeroValue210
  t139 := Tryz.underlying211
  a139 := Tryz.isAgg211
  z139 := Tryz.sizeOf211
  v139 := Tryz.zeroValue211
  t146 := Tryz.underlying203
  a146 := Tryz.isAgg203
  z146 := Tryz.sizeOf203
  v146 := Tryz.zeroValue203
  g1 := by kernel_rfl
  g3 := by kernel_rfl
  g4 := by kernel_rfl }
open Go.RowKit Go.Lib in
theorem Tryz.strings_Split (s sep : ByteArray) (m : Int) (w : World) (hs : s.size < 4294967281) (hm : w.cell? ⟨0, 0, none⟩ = some (.int .i64 m)) (h1 : 1 ≤ sep.size) :
    Calls Tryz.prog 54 #[.string s, .string sep] w fun e w' =>
      e = .returned (.slice (some ⟨w.heap.size, 0, none⟩) (Lib.countB s sep + 1) (Lib.countB s sep + 1)) ∧ w' = w.alloc (.cells ((Lib.splitB sep 0 (Lib.countB s sep) s).map Value.string).toArray 9) := Any.strings_Split Tryz.lays146 (by kernel_rfl) s sep m w hs hm h1
end Go.Proofs
namespace Go.Proofs.YtcclgodahlinbaaGreatDoor
open Go.RowKit Go
set_option maxRecDepth 100000
def nl : ByteArray := ⟨#[10]⟩
def isTextB (s : ByteArray) : Bool := s.toList.isEmpty || Lib.hasSuffix s.data.toList [10]
def largeB (s : ByteArray) : Bool := decide (8000 < s.size) || decide (200 < Lib.countByte s.data.toList 10)
def trimB (s : ByteArray) : ByteArray := ⟨(Lib.trimSuffix s.data.toList [10]).toArray⟩
def linesB (s : ByteArray) : List ByteArray := if s.toList.isEmpty = true then [] else Lib.splitB nl 0 (Lib.countB (trimB s) nl) (trimB s)
theorem ret_bool {a b : Bool} (h : a = b) : Ending.returned (.bool a) = .returned (.bool b) := by rw [h]
set_option maxHeartbeats 400000 in
theorem isText_any (s : ByteArray) (w : World) (hs : s.size < 4294967281) :
    Calls Tryz.prog 47 #[.string s] w fun e w' => e = .returned (.bool (isTextB s)) ∧ w = w' := by
  unfold isTextB
  by_cases h0 : s.toList.isEmpty = true
  · rw [h0]
    go_enter Tryz.func47, Tryz.ntmps47
    go_wp2
    go_ret
    exact ⟨rfl, rfl⟩
  · replace h0 : s.toList.isEmpty = false := by simpa using h0
    rw [h0]
    have hc := Tryz.strings_HasSuffix s ⟨#[10]⟩ w (by omega)
    have hc' := hc.mono (R' := fun e w' => e = .returned (.bool (Lib.hasSuffix s.data.toList [10])) ∧ w = w') (fun _ _ h => ⟨h.1, h.2.symm⟩)
    clear hc
    generalize Lib.hasSuffix s.data.toList [10] = B at hc' ⊢
    go_enter Tryz.func47, Tryz.ntmps47
    go_wp2_with (go_at_call 94; refine hc'.mono ?_; rintro e w' ⟨rfl, rfl⟩)
    go_ret
    exact ⟨rfl, rfl⟩
set_option maxHeartbeats 400000 in
theorem tooLarge_any (s : ByteArray) (w : World) (hs : s.size < 4294967281) :
    Calls Tryz.prog 48 #[.string s] w fun e w' => e = .returned (.bool (largeB s)) ∧ w = w' := by
  unfold largeB
  by_cases h0 : 8000 < s.size
  · have h1 : (8000 : Int) < s.size := by omega
    rw [decide_eq_true h0]
    go_enter Tryz.func48, Tryz.ntmps48
    go_wp2
    go_ret
    exact ⟨rfl, rfl⟩
  · have h1 : ¬ ((8000 : Int) < s.size) := by omega
    rw [decide_eq_false h0]
    have hc := Tryz.strings_Count_one s 10 w
    have hc' := hc.mono (R' := fun e w' => e = .returned (.int .i64 (Lib.countByte s.data.toList 10)) ∧ w = w') (fun _ _ h => ⟨h.1, h.2.symm⟩)
    clear hc h0
    have hle : Lib.countByte s.data.toList 10 ≤ 8000 := by
      have : Lib.countByte s.data.toList 10 ≤ s.data.toList.length := List.count_le_length
      have e : s.data.toList.length = s.size := rfl
      omega
    generalize Lib.countByte s.data.toList 10 = N at hc' hle ⊢
    go_enter Tryz.func48, Tryz.ntmps48
    go_wp2_with (go_at_call 95; refine hc'.mono ?_; rintro e w' ⟨rfl, rfl⟩)
    go_ret
    exact ⟨ret_bool (by simp; omega), rfl⟩
def checkB (old fresh : ByteArray) (c : Int) : Int :=
  if isTextB old = false ∨ isTextB fresh = false then 2 else if largeB old = true ∨ largeB fresh = true then 1 else if c < 0 ∨ 10 < c then 3 else 0
set_option maxHeartbeats 1000000 in
theorem checkDiff_any (old fresh : ByteArray) (c : Int) (w : World) (h1 : old.size < 4294967281) (h2 : fresh.size < 4294967281) :
    Calls Tryz.prog 24 #[.string old, .string fresh, .int .i64 c] w fun e w' => e = .returned (.int .i64 (checkB old fresh c)) ∧ w = w' := by
  have i1 := isText_any old w h1
  have i2 := isText_any fresh w h2
  have l1 := tooLarge_any old w h1
  have l2 := tooLarge_any fresh w h2
  unfold checkB
  cases a : isTextB old with
  | false =>
    rw [a] at i1
    rw [if_pos (.inl rfl)]
    go_enter Tryz.func24, Tryz.ntmps24
    go_wp2_with (go_at_call 47; refine i1.mono ?_; rintro e w' ⟨rfl, rfl⟩)
    go_ret
    exact ⟨rfl, rfl⟩
  | true =>
    rw [a] at i1
    cases b : isTextB fresh with
    | false =>
      rw [b] at i2
      rw [if_pos (.inr rfl)]
      go_enter Tryz.func24, Tryz.ntmps24
      go_wp2_with (first | (go_at_call 47; refine i1.mono ?_; clear i1; rintro e w' ⟨rfl, rfl⟩) | (go_at_call 47; refine i2.mono ?_; rintro e w' ⟨rfl, rfl⟩))
      go_ret
      exact ⟨rfl, rfl⟩
    | true =>
      rw [b] at i2
      rw [if_neg (by simp)]
      cases p : largeB old with
      | true =>
        rw [p] at l1
        rw [if_pos (.inl rfl)]
        go_enter Tryz.func24, Tryz.ntmps24
        go_wp2_with (first | (go_at_call 47; refine i1.mono ?_; clear i1; rintro e w' ⟨rfl, rfl⟩) | (go_at_call 47; refine i2.mono ?_; rintro e w' ⟨rfl, rfl⟩) | (go_at_call 48; refine l1.mono ?_; rintro e w' ⟨rfl, rfl⟩))
        go_ret
        exact ⟨rfl, rfl⟩
      | false =>
        rw [p] at l1
        cases q : largeB fresh with
        | true =>
          rw [q] at l2
          rw [if_pos (.inr rfl)]
          go_enter Tryz.func24, Tryz.ntmps24
          go_wp2_with (first | (go_at_call 47; refine i1.mono ?_; clear i1; rintro e w' ⟨rfl, rfl⟩) | (go_at_call 47; refine i2.mono ?_; rintro e w' ⟨rfl, rfl⟩) | (go_at_call 48; refine l1.mono ?_; clear l1; rintro e w' ⟨rfl, rfl⟩) | (go_at_call 48; refine l2.mono ?_; rintro e w' ⟨rfl, rfl⟩))
          go_ret
          exact ⟨rfl, rfl⟩
        | false =>
          rw [q] at l2
          rw [if_neg (by simp)]
          by_cases c0 : c < 0
          · rw [if_pos (.inl c0)]
            go_enter Tryz.func24, Tryz.ntmps24
            go_wp2_with (first | (go_at_call 47; refine i1.mono ?_; clear i1; rintro e w' ⟨rfl, rfl⟩) | (go_at_call 47; refine i2.mono ?_; rintro e w' ⟨rfl, rfl⟩) | (go_at_call 48; refine l1.mono ?_; clear l1; rintro e w' ⟨rfl, rfl⟩) | (go_at_call 48; refine l2.mono ?_; rintro e w' ⟨rfl, rfl⟩))
            go_ret
            exact ⟨rfl, rfl⟩
          · by_cases c1 : 10 < c
            · rw [if_pos (.inr c1)]
              go_enter Tryz.func24, Tryz.ntmps24
              go_wp2_with (first | (go_at_call 47; refine i1.mono ?_; clear i1; rintro e w' ⟨rfl, rfl⟩) | (go_at_call 47; refine i2.mono ?_; rintro e w' ⟨rfl, rfl⟩) | (go_at_call 48; refine l1.mono ?_; clear l1; rintro e w' ⟨rfl, rfl⟩) | (go_at_call 48; refine l2.mono ?_; rintro e w' ⟨rfl, rfl⟩))
              go_ret
              exact ⟨rfl, rfl⟩
            · rw [if_neg (by simp [c0, c1])]
              go_enter Tryz.func24, Tryz.ntmps24
              go_wp2_with (first | (go_at_call 47; refine i1.mono ?_; clear i1; rintro e w' ⟨rfl, rfl⟩) | (go_at_call 47; refine i2.mono ?_; rintro e w' ⟨rfl, rfl⟩) | (go_at_call 48; refine l1.mono ?_; clear l1; rintro e w' ⟨rfl, rfl⟩) | (go_at_call 48; refine l2.mono ?_; rintro e w' ⟨rfl, rfl⟩))
              go_ret
              exact ⟨rfl, rfl⟩
theorem linesOf_nil (w : World) : Calls Tryz.prog 26 #[.string ByteArray.empty] w fun e w' => e = .returned (.slice none 0 0) ∧ w = w' := by
  go_enter Tryz.func26, Tryz.ntmps26
  go_wp2
  go_ret
  exact ⟨rfl, rfl⟩
set_option maxHeartbeats 400000 in
theorem linesOf_some (s : ByteArray) (m : Int) (w : World) (hs : s.size < 4294967281) (h0 : s.toList.isEmpty = false) (hm : w.cell? ⟨0, 0, none⟩ = some (.int .i64 m)) :
    Calls Tryz.prog 26 #[.string s] w fun e w' => e = .returned (.slice (some ⟨w.heap.size, 0, none⟩) (Lib.countB (trimB s) nl + 1) (Lib.countB (trimB s) nl + 1)) ∧ w.alloc (.cells ((linesB s).map Value.string).toArray 9) = w' := by
  have ht : (trimB s).size ≤ s.size := by
    have e : (trimB s).size = (Lib.trimSuffix s.data.toList [10]).length := by unfold trimB; rfl
    rw [e]
    unfold Lib.trimSuffix
    split
    · have : s.data.toList.length = s.size := rfl
      rw [List.length_take]; omega
    · exact Nat.le_refl _
  have hc := Tryz.strings_TrimSuffix s ⟨#[10]⟩ w (by omega)
  have hc' := hc.mono (R' := fun e w' => e = .returned (.string (trimB s)) ∧ w = w') (fun _ _ h => ⟨h.1, h.2.symm⟩)
  have hd := Tryz.strings_Split (trimB s) ⟨#[10]⟩ m w (by omega) hm (by decide)
  have hl : linesB s = Lib.splitB nl 0 (Lib.countB (trimB s) nl) (trimB s) := by unfold linesB; rw [h0]; simp
  have hd' := hd.mono (R' := fun e w' => e = .returned (.slice (some ⟨w.heap.size, 0, none⟩) (Lib.countB (trimB s) nl + 1) (Lib.countB (trimB s) nl + 1)) ∧ w.alloc (.cells ((linesB s).map Value.string).toArray 9) = w') (fun _ _ h => ⟨h.1, by rw [h.2, hl]; rfl⟩)
  clear hc hd hl ht
  generalize Lib.countB (trimB s) nl = N at hd' ⊢
  generalize linesB s = L at hd' ⊢
  generalize trimB s = t at hc' hd'
  go_enter Tryz.func26, Tryz.ntmps26
  go_wp2_with (first | (go_at_call 55; refine hc'.mono ?_; rintro e w' ⟨rfl, rfl⟩) | (go_at_call 54; refine hd'.mono ?_; rintro e w' ⟨rfl, rfl⟩))
  go_ret
  exact ⟨rfl, rfl⟩
theorem linesB_length (s : ByteArray) (h0 : s.toList.isEmpty = false) : (linesB s).length = Lib.countB (trimB s) nl + 1 := by
  unfold linesB
  rw [h0]
  exact Lib.splitB_all nl (by decide) 0 _ _ rfl
theorem empty_of_toList {s : ByteArray} (h : s.toList.isEmpty = true) : s = ByteArray.empty := by
  apply ByteArray.ext
  apply Array.toList_inj.1
  have : s.toList = [] := by simpa using h
  rw [ByteArray.toList_eq] at this
  rw [this]; rfl
theorem linesOf_any (s : ByteArray) (m : Int) (w : World) (hs : s.size < 4294967281) (hm : w.cell? ⟨0, 0, none⟩ = some (.int .i64 m)) :
    Calls Tryz.prog 26 #[.string s] w fun e w' => ∃ a cap, e = .returned (.slice a (linesB s).length cap) ∧ Strs w'.heap.size w' (.slice a (linesB s).length cap) (linesB s) ∧ Below w.heap.size w w' := by
  by_cases h0 : s.toList.isEmpty = true
  · have hl : linesB s = [] := by unfold linesB; rw [if_pos h0]
    rw [hl]
    have := empty_of_toList h0
    subst this
    refine (linesOf_nil w).mono ?_
    rintro e w' ⟨rfl, rfl⟩
    exact ⟨none, 0, rfl, .inl ⟨rfl, none, 0, rfl⟩, Below.refl _ _⟩
  · replace h0 : s.toList.isEmpty = false := by simpa using h0
    have hl := linesB_length s h0
    refine (linesOf_some s m w hs h0 hm).mono ?_
    rintro e w' ⟨rfl, rfl⟩
    refine ⟨_, _, by rw [hl], .inr ⟨w.heap.size, 0, _, rfl, by simp, fun i hi => ?_⟩, (Below.refl _ _).alloc (Nat.le_refl _) _⟩
    refine cell_of (t := 9) (fr := (0, 0)) (heap_alloc_new w _) ?_
    simp [hi, List.getD]
end Go.Proofs.YtcclgodahlinbaaGreatDoor
namespace Go.Proofs.YtcclgodahlinbaaGreatDoor
open Go.RowKit Go
set_option maxRecDepth 100000
def StepsAt (B : Nat) (w : World) (v : Value) (L : List StepB) : Prop :=
  (L = [] ∧ ∃ a c, v = .slice a 0 c) ∨ ∃ b cap, v = .slice (some ⟨b, 0, none⟩) L.length cap ∧ b < B ∧
    ∀ i (h : i < L.length), w.cell? ⟨b, i * 2, none⟩ = some (.int .u8 (L[i].kind : Nat)) ∧ w.cell? ⟨b, i * 2 + 1, none⟩ = some (.string L[i].text)
theorem StepsAt.of_owns {base : Nat} {w : World} {v : Value} {L : List StepB} (h : w.ownsRow base 120 2 v L.length (stepCells L)) : StepsAt w.heap.size w v L := by
  by_cases h0 : L.length = 0
  · have : L = [] := List.eq_nil_of_length_eq_zero h0
    subst this
    rcases h.2 with ⟨e, _⟩ | ⟨g, cap, cur, e, _⟩
    · exact .inl ⟨rfl, _, _, e⟩
    · exact .inl ⟨rfl, _, _, e⟩
  · obtain ⟨g, cap, rfl, _, hg, _⟩ := owns_slice h (by omega)
    exact .inr ⟨g, cap, rfl, hg, fun i hi => owns_step h hi⟩
theorem StepsAt.below {B : Nat} {w w' : World} {v : Value} {L : List StepB} (h : StepsAt B w v L) (hb : Below B w w') : StepsAt B w' v L := by
  rcases h with h | ⟨b, cap, e, hB, hc⟩
  · exact .inl h
  · exact .inr ⟨b, cap, e, hB, fun i hi => ⟨(hb.cell (p := ⟨b, i * 2, none⟩) hB).trans (hc i hi).1, (hb.cell (p := ⟨b, i * 2 + 1, none⟩) hB).trans (hc i hi).2⟩⟩
theorem StepsAt.slice {B : Nat} {w : World} {v : Value} {L : List StepB} (h : StepsAt B w v L) : ∃ a cap, v = .slice a L.length cap := by
  rcases h with ⟨rfl, a, c, rfl⟩ | ⟨b, cap, rfl, _⟩
  · exact ⟨a, c, rfl⟩
  · exact ⟨_, _, rfl⟩
theorem StepsAt.at {B n cap : Nat} {w : World} {a : Option Addr} {L : List StepB} (h : StepsAt B w (.slice a n cap) L) {i : Nat} (hi : i < L.length) :
    ∃ b, a = some ⟨b, 0, none⟩ ∧ b < B ∧ w.cell? ⟨b, i * 2, none⟩ = some (.int .u8 (L[i].kind : Nat)) ∧ w.cell? ⟨b, i * 2 + 1, none⟩ = some (.string L[i].text) := by
  rcases h with ⟨rfl, _⟩ | ⟨b, cap, e, hb, hc⟩
  · simp at hi
  · cases e; exact ⟨b, rfl, hb, hc i hi⟩
def nearU (L : List StepB) (c k j : Nat) : Bool := (L.take k).zipIdx.any fun s => s.1.kind != 32 && decide (s.2 ≤ j + c) && decide (j ≤ s.2 + c)
def nearB (L : List StepB) (c : Nat) : List Bool := (List.range L.length).map (nearU L c L.length)
theorem nearU_succ (L : List StepB) (c k j : Nat) (hk : k < L.length) : nearU L c (k + 1) j = (nearU L c k j || (L[k].kind != 32 && decide (k ≤ j + c) && decide (j ≤ k + c))) := by
  unfold nearU
  rw [List.take_succ_eq_append_getElem hk, List.zipIdx_append, List.any_append]
  simp [Nat.min_eq_left (Nat.le_of_lt hk)]
def Near (L : List StepB) (c k : Nat) (bs : List Bool) : Prop := bs.length = L.length ∧ ∀ j, j < L.length → bs.getD j false = nearU L c k j
theorem near_end {L : List StepB} {c : Nat} {bs : List Bool} (h : Near L c L.length bs) : bs = nearB L c := by
  apply List.ext_getElem
  · simp [nearB, h.1]
  · intro i h1 h2
    have := h.2 i (by rw [← h.1]; exact h1)
    simp [List.getD, h1] at this
    simp [nearB, this]
theorem near_keep {L : List StepB} {c k : Nat} {bs : List Bool} (h : Near L c k bs) (hk : k < L.length) (h32 : L[k].kind = 32) : Near L c (k + 1) bs :=
  ⟨h.1, fun j hj => by rw [h.2 j hj, nearU_succ L c k j hk, h32]; simp⟩
def NearI (L : List StepB) (c k i : Nat) (bs : List Bool) : Prop := bs.length = L.length ∧ ∀ j, j < L.length → bs.getD j false = (nearU L c k j || (decide (k ≤ j + c) && decide (j < i)))
theorem nearI_start {L : List StepB} {c k : Nat} {bs : List Bool} (h : Near L c k bs) : NearI L c k (k - c) bs :=
  ⟨h.1, fun j hj => by
    rw [h.2 j hj]
    have : (decide (k ≤ j + c) && decide (j < k - c)) = false := by simp <;> omega
    rw [this, Bool.or_false]⟩
theorem nearI_step {L : List StepB} {c k i : Nat} {bs : List Bool} (h : NearI L c k i bs) (hi : i < L.length) (hk : k ≤ i + c) : NearI L c k (i + 1) (bs.set i true) := by
  refine ⟨by simp [h.1], fun j hj => ?_⟩
  by_cases e : i = j
  · subst e
    have : (decide (k ≤ i + c) && decide (i < i + 1)) = true := by simp [hk]
    rw [this]; simp [List.getD, h.1, hi]
  · have e1 : (bs.set i true).getD j false = bs.getD j false := by simp [List.getD, e]
    rw [e1, h.2 j hj]
    have : decide (j < i + 1) = decide (j < i) := by
      rw [decide_eq_decide]; omega
    rw [this]
theorem nearI_end {L : List StepB} {c k i : Nat} {bs : List Bool} (h : NearI L c k i bs) (hk : k < L.length) (h32 : L[k].kind ≠ 32) (hi : k + c < i ∨ L.length ≤ i) (hi2 : i ≤ k + c + 1) : Near L c (k + 1) bs := by
  refine ⟨h.1, fun j hj => ?_⟩
  rw [h.2 j hj, nearU_succ L c k j hk]
  have e1 : (L[k].kind != 32) = true := by simpa using h32
  have e2 : decide (j < i) = decide (j ≤ k + c) := by rw [decide_eq_decide]; omega
  rw [e1, e2, Bool.true_and]
theorem info_bool : (Tryz.prog.info? 4).map (fun i => (i.zero, i.size, i.bytes)) = some (some (.bool false), 1, 1) := by kernel_rfl
def boolCells (l : List Bool) : List Value := l.map fun b => .bool b
theorem owns_bool {w : World} {base n cap g : Nat} {l : List Bool} (h : w.ownsRow base 4 1 (.slice (some ⟨g, 0, none⟩) n cap) n (boolCells l)) {i : Nat} (hi : i < l.length) :
    w.cell? ⟨g, i, none⟩ = some (.bool (l.getD i false)) := by
  obtain ⟨hl, hr⟩ := h
  rcases hr with ⟨e, _⟩ | ⟨g', cap', cur, e, hb, hg, h1, h2, h3, h4⟩
  · cases e
  · cases e
    have a : (boolCells l)[i]? = some (.bool (l.getD i false)) := by simp [boolCells, List.getD, hi]
    rw [← h4, List.getElem?_take] at a
    split at a
    · exact cell_of hg (by simpa using a)
    · cases a
theorem owns_setBool {w : World} {base n cap g : Nat} {l : List Bool} (h : w.ownsRow base 4 1 (.slice (some ⟨g, 0, none⟩) n cap) n (boolCells l)) (i : Nat) (b : Bool) :
    (w.setCell ⟨g, i, none⟩ (.bool b)).ownsRow base 4 1 (.slice (some ⟨g, 0, none⟩) n cap) n (boolCells (l.set i b)) := by
  obtain ⟨hl, hr⟩ := h
  rcases hr with ⟨e, _⟩ | ⟨g', cap', cur, e, hb, hg, h1, h2, h3, h4⟩
  · cases e
  · cases e
    refine ⟨by simpa [boolCells] using hl, .inr ⟨g, cap, _, rfl, hb, heap_setCell_same _ _ _ _ _ _ _ hg, h1, h2, by simpa using h3, ?_⟩⟩
    have : boolCells (l.set i b) = (boolCells l).set i (.bool b) := by simp [boolCells, List.map_set]
    rw [this, ← h4]
    simp [List.take_set]
set_option maxHeartbeats 2000000 in
theorem near_row {cap : Nat} {a : Option Addr} {L : List StepB} {w : World} (c : Nat) (hS : StepsAt w.heap.size w (.slice a L.length cap) L) (hc : c ≤ 10) (hL : L.length ≤ 1000) :
    Calls Tryz.prog 56 #[.slice a L.length cap, .int .i64 c] w fun e w' =>
      e = .returned (.slice (some ⟨w.heap.size, 0, none⟩) L.length L.length) ∧ w'.ownsRow w.heap.size 4 1 (.slice (some ⟨w.heap.size, 0, none⟩) L.length L.length) L.length (boolCells (nearB L c)) ∧ Below w.heap.size w w' := by
  have hmk := fun w => run_make_row' (P := Tryz.prog) 97 4 (.bool false) 1 Tryz.underlying97 info_bool rfl .i64 .i64 L.length (by omega) (by omega) w
  have hstart : (w.alloc (.cells (madeCells #[.bool false] L.length) 4)).ownsRow w.heap.size 4 1 (.slice (some ⟨w.heap.size, 0, none⟩) L.length L.length) L.length (boolCells (List.replicate L.length false)) :=
    ⟨by simp [boolCells], .inr ⟨_, _, _, rfl, Nat.le_refl _, heap_alloc_new w _, Nat.le_refl _, by unfold maxLen; omega, by rw [madeCells_one]; simp, by rw [madeCells_one]; simp [boolCells]⟩⟩
  have hb0 : Below w.heap.size w (w.alloc (.cells (madeCells #[.bool false] L.length) 4)) := (Below.refl _ _).alloc (Nat.le_refl _) _
  have hn0 : Near L c 0 (List.replicate L.length false) := ⟨by simp, fun j hj => by simp [nearU, List.getD, hj]⟩
  go_enter Tryz.func56, Tryz.ntmps56
  go_wp2
  go_loopg [14] L.length (fun g t wr => ∃ (k : Nat) (bs : List Bool), g = L.length - k ∧ k ≤ L.length ∧ t = .int .i64 k ∧ Near L c k bs ∧ wr.ownsRow w.heap.size 4 1 (.slice (some ⟨w.heap.size, 0, none⟩) L.length L.length) L.length (boolCells bs) ∧ Below w.heap.size w wr)
  case atStart => exact ⟨0, _, by omega, by omega, rfl, hn0, hstart, hb0⟩
  case round =>
    obtain ⟨k, bs, hgk, hkl, rfl, hnear, hrow, hbel⟩ := hrel
    have hA : Hid (gk = L.length - k ∧ Near L c k bs) := ⟨hgk, hnear⟩
    clear hgk hnear hn0 hmk hstart hb0
    by_cases hlt : k < L.length
    · have hltI : (k : Int) < L.length := by omega
      obtain ⟨b, rfl, hbB, q0, q1⟩ := (hS.below hbel).at hlt
      have hsz := hbel.size
      by_cases h32 : L[k].kind = 32
      · rw [h32] at q0
        have q0' : wr.cell? ⟨b, k * 2, none⟩ = some (.int .u8 32) := q0
        have hn2 : Hid (Near L c (k + 1) bs) := near_keep hA.out.2 hlt h32
        clear q0 h32 hS
        generalize L[k].text = T at q1
        go_wp2
        go_roundg (L.length - (k + 1))
        case measure => have := hA.out.1; omega
        case rel => exact ⟨k + 1, bs, rfl, by omega, by go_num, hn2, hrow.alloc _, hbel.alloc hsz _⟩
      · have hne : (((L[k].kind : Nat) : Int) == 32) = false := by rw [beq_eq_false_iff_ne]; omega
        have h32' : Hid (L[k].kind ≠ 32) := h32
        clear h32
        have hI0 : Hid (NearI L c k (k - c) bs) := nearI_start hA.out.2
        have hmax : max ((k : Int) - c) 0 = ((k - c : Nat) : Int) := by omega
        have hQ : Hid (∀ bs', NearI L c k (k + c + 1) bs' → True) := fun _ _ => trivial
        clear hQ
        have hS' := hS
        clear hS
        have hend : Hid (∀ i bs', NearI L c k i bs' → (k + c < i ∨ L.length ≤ i) → i ≤ k + c + 1 → Near L c (k + 1) bs') := fun i bs' h1 h2 h3 => nearI_end h1 hlt h32'.out h2 h3
        generalize L[k].kind = KK at q0 hne
        generalize L[k].text = T at q1
        go_wp2
        have hrow1 := hrow.alloc (.cells #[.int .u8 (KK : Int), .string T] 120)
        have hbel1 := hbel.alloc hsz (.cells #[.int .u8 (KK : Int), .string T] 120)
        generalize wr.alloc (.cells #[.int .u8 (KK : Int), .string T] 120) = wa at hrow1 hbel1 ⊢
        clear q0 q1 hrow hbel
        go_loopg [8] (L.length + 20 - (k - c)) (fun g t wi => ∃ (i : Nat) (bs' : List Bool), g + i = L.length + 20 ∧ k - c ≤ i ∧ i ≤ k + c + 1 ∧ t = .int .i64 i ∧ NearI L c k i bs' ∧ wi.ownsRow w.heap.size 4 1 (.slice (some ⟨w.heap.size, 0, none⟩) L.length L.length) L.length (boolCells bs') ∧ Below w.heap.size w wi)
        case atStart => exact ⟨k - c, bs, by omega, by omega, by omega, rfl, hI0.out, hrow1, hbel1⟩
        case round =>
          obtain ⟨i, bs', hgi, hi1, hi2, rfl, hI, hrow2, hbel2⟩ := hrel
          have hI' : Hid (NearI L c k i bs') := hI
          clear hI hrow1 hbel1 hI0
          have hfz := owns_frozen hrow2
          by_cases hin : i ≤ k + c ∧ i < L.length
          · have t1 : (i : Int) ≤ (k : Int) + c := by omega
            have t2 : (i : Int) < L.length := by omega
            have hlb : bs'.length = L.length := hI'.out.1
            have hcell := owns_bool hrow2 (i := i) (by omega)
            generalize bs'.getD i false = bb at hcell
            clear hlb
            have hn2 : Hid (NearI L c k (i + 1) (bs'.set i true)) := nearI_step hI'.out hin.2 (by omega)
            have hr3 := owns_setBool hrow2 i true
            have hb3 := hbel2.setCell (p := ⟨w.heap.size, i, none⟩) (Nat.le_refl _) (.bool true)
            have hgi' : Hid (gk + i = L.length + 20 - (k - c) + (k - c)) := by unfold Hid; omega
            have hin2 : Hid (i ≤ k + c ∧ i < L.length) := hin
            clear hin hgi
            go_wp2
            go_roundg (gk - 1)
            case measure => have := hgi'.out; have := hin2.out; omega
            case rel => exact ⟨i + 1, bs'.set i true, by have := hgi'.out; have := hin2.out; omega, by omega, by have := hin2.out; omega, by go_num, hn2, hr3, hb3⟩
          · have hn2 : Hid (Near L c (k + 1) bs') := hend.out i bs' hI'.out (by omega) hi2
            by_cases t1 : (i : Int) ≤ (k : Int) + c
            · have t2 : ¬ ((i : Int) < L.length) := by omega
              clear hin
              go_wp2
              go_roundg (L.length - (k + 1))
              case measure => have := hA.out.1; omega
              case rel => exact ⟨k + 1, bs', rfl, by omega, by go_num, hn2, hrow2, hbel2⟩
            · clear hin
              go_wp2
              go_roundg (L.length - (k + 1))
              case measure => have := hA.out.1; omega
              case rel => exact ⟨k + 1, bs', rfl, by omega, by go_num, hn2, hrow2, hbel2⟩
    · have hltI : ¬ ((k : Int) < L.length) := by omega
      have hkn : k = L.length := by omega
      have hfin : bs = nearB L c := near_end (by rw [hkn] at hA; exact hA.out.2)
      subst hfin
      clear hkn
      go_wp2
      go_ret
      exact ⟨rfl, hrow, hbel⟩
end Go.Proofs.YtcclgodahlinbaaGreatDoor
namespace Go.Proofs.YtcclgodahlinbaaGreatDoor
open Go.RowKit Go
set_option maxRecDepth 100000
theorem step_call {P : Program} {ops : Array Oper} {o : Oper} {a : Act} {w : World} {K : Act → World → Prop} {Q : Exit → Act → World → Prop} {E : Prop}
    (hg : o.guard = none) (f : FuncId) (xs : Array Operand) (ts : Array TypeId) (hop : o.op = Op.call { callee := Callee.value (.func f), args := xs, argTypes := ts })
    (args : Array Value) (ha : xs.map a.eval = args) (hrun : (callFunc f args).run P w = .ok (.enter f args) w) (R : Value → World → Prop)
    (hc : Calls P f args w fun e w' => ∃ v, e = .returned v ∧ R v w') (hK : ∀ v w', R v w' → K (a.put o.dst v) w') :
    if Region.wanted o (yielded ops a.tmps) = true then Oper.wp P o a w K Q else E := by
  have hw : Region.wanted o (yielded ops a.tmps) = true := by simp [Region.wanted, hg]
  rw [if_pos hw]
  unfold Oper.wp
  have e : (execOp a.eval o).run P w = .ok (.enter f args) w := by
    simp [execOp, hop, resolve, invoke, Act.eval, Deferred.ofValue, ha, hrun]
  rw [e]
  refine hc.mono ?_
  rintro e w' ⟨v, rfl, hR⟩
  exact hK v w' hR
theorem run_clone (s : ByteArray) (w : World) : (callFunc 79 #[.string s]).run Tryz.prog w = .ok (.enter 79 #[.string s]) w := by kernel_rfl
theorem clone_any (s : ByteArray) (w : World) (hs : s.size ≤ 281474976710656) : Calls Tryz.prog 79 #[.string s] w fun e w' => e = .returned (.string s) ∧ Below w.heap.size w w' := by
  have hc := Tryz.stringslite_Clone s w hs
  go_enter Tryz.func79, Tryz.ntmps79
  go_wp2_with (go_at_call 112; refine hc.mono ?_; rintro e w' ⟨rfl, hb⟩)
  go_ret
  exact ⟨rfl, hb⟩
structure HunkM where
  fr : Nat
  fc : Nat
  tr : Nat
  tc : Nat
  lines : List StepB
abbrev HV := HunkM × Value
def hunkCells1 (p : HV) : List Value := [.int .i64 (p.1.fr : Nat), .int .i64 (p.1.fc : Nat), .int .i64 (p.1.tr : Nat), .int .i64 (p.1.tc : Nat), p.2]
def hunkCells (l : List HV) : List Value := l.flatMap hunkCells1
theorem hunkCells_append (a b : List HV) : hunkCells (a ++ b) = hunkCells a ++ hunkCells b := by simp [hunkCells]
theorem hunkCells_length (l : List HV) : (hunkCells l).length = l.length * 5 := by
  induction l with
  | nil => rfl
  | cons s l ih => show (hunkCells1 s ++ hunkCells l).length = _; rw [List.length_append, ih]; simp [hunkCells1]; omega
theorem hunkCells_get (l : List HV) : ∀ (i : Nat) (h : i < l.length), (hunkCells l)[i * 5]? = some (.int .i64 (l[i].1.fr : Nat)) ∧ (hunkCells l)[i * 5 + 1]? = some (.int .i64 (l[i].1.fc : Nat)) ∧
    (hunkCells l)[i * 5 + 2]? = some (.int .i64 (l[i].1.tr : Nat)) ∧ (hunkCells l)[i * 5 + 3]? = some (.int .i64 (l[i].1.tc : Nat)) ∧ (hunkCells l)[i * 5 + 4]? = some l[i].2 := by
  induction l with
  | nil => intro i h; simp at h
  | cons s l ih =>
    intro i h
    have e : hunkCells (s :: l) = .int .i64 (s.1.fr : Nat) :: .int .i64 (s.1.fc : Nat) :: .int .i64 (s.1.tr : Nat) :: .int .i64 (s.1.tc : Nat) :: s.2 :: hunkCells l := rfl
    cases i with
    | zero => simp [e]
    | succ i =>
      have := ih i (by simpa using h)
      rw [e, show (i + 1) * 5 = i * 5 + 1 + 1 + 1 + 1 + 1 by omega]
      simpa using this
theorem hunkCells_set (l : List HV) (p : HV) : ∀ (i : Nat), i < l.length →
    ((((hunkCells l).set (i * 5) (.int .i64 (p.1.fr : Nat))).set (i * 5 + 1) (.int .i64 (p.1.fc : Nat))).set (i * 5 + 2) (.int .i64 (p.1.tr : Nat)) |>.set (i * 5 + 3) (.int .i64 (p.1.tc : Nat))).set (i * 5 + 4) p.2 = hunkCells (l.set i p) := by
  induction l with
  | nil => intro i h; simp at h
  | cons s l ih =>
    intro i h
    have e : ∀ s l, hunkCells (s :: l) = .int .i64 (s.1.fr : Nat) :: .int .i64 (s.1.fc : Nat) :: .int .i64 (s.1.tr : Nat) :: .int .i64 (s.1.tc : Nat) :: s.2 :: hunkCells l := fun _ _ => rfl
    cases i with
    | zero => simp [e]
    | succ i =>
      have := ih i (by simpa using h)
      rw [List.set_cons_succ, e, e, ← this, show (i + 1) * 5 = i * 5 + 1 + 1 + 1 + 1 + 1 by omega]
      simp
theorem owns_hunk {w : World} {base n cap g : Nat} {l : List HV} (h : w.ownsRow base 61 5 (.slice (some ⟨g, 0, none⟩) n cap) n (hunkCells l)) {i : Nat} (hi : i < l.length) :
    w.cell? ⟨g, i * 5, none⟩ = some (.int .i64 (l[i].1.fr : Nat)) ∧ w.cell? ⟨g, i * 5 + 1, none⟩ = some (.int .i64 (l[i].1.fc : Nat)) ∧ w.cell? ⟨g, i * 5 + 2, none⟩ = some (.int .i64 (l[i].1.tr : Nat)) ∧
    w.cell? ⟨g, i * 5 + 3, none⟩ = some (.int .i64 (l[i].1.tc : Nat)) ∧ w.cell? ⟨g, i * 5 + 4, none⟩ = some l[i].2 := by
  obtain ⟨hl, hr⟩ := h
  rcases hr with ⟨e, _⟩ | ⟨g', cap', cur, e, hb, hg, h1, h2, h3, h4⟩
  · cases e
  · cases e
    obtain ⟨a, b, c, d, e⟩ := hunkCells_get l i hi
    rw [← h4] at a b c d e
    have f : ∀ (j : Nat) (u : Value), (cur.toList.take (n * 5))[j]? = some u → cur[j]? = some u := by
      intro j u hu
      rw [List.getElem?_take] at hu
      split at hu
      · simpa using hu
      · cases hu
    exact ⟨cell_of hg (f _ _ a), cell_of hg (f _ _ b), cell_of hg (f _ _ c), cell_of hg (f _ _ d), cell_of hg (f _ _ e)⟩
theorem owns_setHunk {w w' : World} {base n cap g : Nat} {l : List HV} (h : w.ownsRow base 61 5 (.slice (some ⟨g, 0, none⟩) n cap) n (hunkCells l)) (hn : n = l.length) {i : Nat} (hi : i < l.length) (p : HV)
    (hw : ∀ cur, w.heap[g]? = some (.cells cur 61 (0, 0)) → cur.toList.take (n * 5) = hunkCells l → ∃ cur', w'.heap[g]? = some (.cells cur' 61 (0, 0)) ∧ cur'.size = cur.size ∧
      cur'.toList.take (n * 5) = ((((cur.toList.take (n * 5)).set (i * 5) (.int .i64 (p.1.fr : Nat))).set (i * 5 + 1) (.int .i64 (p.1.fc : Nat))).set (i * 5 + 2) (.int .i64 (p.1.tr : Nat)) |>.set (i * 5 + 3) (.int .i64 (p.1.tc : Nat))).set (i * 5 + 4) p.2) :
    w'.ownsRow base 61 5 (.slice (some ⟨g, 0, none⟩) n cap) n (hunkCells (l.set i p)) := by
  subst hn
  obtain ⟨hl, hr⟩ := h
  rcases hr with ⟨e, _⟩ | ⟨g', cap', cur, e, hb, hg, h1, h2, h3, h4⟩
  · cases e
  · cases e
    obtain ⟨cur', k1, k2, k3⟩ := hw cur hg h4
    refine ⟨by rw [hunkCells_length]; simp, .inr ⟨g, cap, cur', rfl, hb, k1, h1, h2, by omega, ?_⟩⟩
    rw [k3, h4, hunkCells_set l p i hi]
theorem owns_below {w w1 : World} {base e size n N : Nat} {v : Value} {xs : List Value} (h : w.ownsRow base e size v n xs) (hb : Below N w w1) (hN : ∀ k, v.ownBlock = some k → k < N) : w1.ownsRow base e size v n xs := by
  obtain ⟨hl, hr⟩ := h
  refine ⟨hl, ?_⟩
  rcases hr with hn | ⟨g, cap, cur, rfl, hbb, hg, rest⟩
  · exact .inl hn
  · exact .inr ⟨g, cap, cur, rfl, hbb, (hb.block g (hN g rfl)).trans hg, rest⟩
structure HSv (base g n cap : Nat) (hv : List HV) (w : World) : Prop where
  len : n = hv.length
  row : w.ownsRow base 61 5 (.slice (some ⟨g, 0, none⟩) n cap) n (hunkCells hv)
  lines : ∀ p ∈ hv, w.ownsRow base 93 2 p.2 p.1.lines.length (stepCells p.1.lines)
  apart : hv.Pairwise fun p q => p.2.ownBlock = none ∨ p.2.ownBlock ≠ q.2.ownBlock
def addL (h : HunkM) (s : StepB) : HunkM :=
  { h with lines := h.lines ++ [s], fc := h.fc + (if s.kind = 43 then 0 else 1), tc := h.tc + (if s.kind = 45 then 0 else 1) }
theorem info_line : (Tryz.prog.info? 93).map (fun i => (i.zero, i.size, i.bytes)) = some (some (.agg #[.int .u8 0, .string ByteArray.empty]), 2, 24) := by kernel_rfl
end Go.Proofs.YtcclgodahlinbaaGreatDoor
namespace Go.Proofs.YtcclgodahlinbaaGreatDoor
open Go.RowKit Go
set_option maxRecDepth 100000
theorem cut_none {a sep : List UInt8} {c : UInt8} {t : List UInt8} (hs : sep = c :: t) (ha : c ∉ a) : Lib.cut a sep = (a, [], false) := by
  have hi : Lib.index a sep = -1 := by
    refine Lib.index_none ?_
    intro j hj
    cases h : Lib.occAt a sep j with
    | false => rfl
    | true =>
      exfalso
      have := Lib.occAt_head hs h
      exact ha (List.mem_of_getElem? this)
  unfold Lib.cut
  rw [hi, if_neg (by omega)]
end Go.Proofs.YtcclgodahlinbaaGreatDoor
namespace Go.Proofs.YtcclgodahlinbaaGreatDoor
open Go.RowKit Go
set_option maxRecDepth 100000
theorem last_get {α : Type} (l : List α) (x : α) : (l ++ [x])[l.length]'(by simp) = x := by simp
theorem set_self {l : List Value} {i : Nat} {v : Value} (h : l[i]? = some v) : l.set i v = l := by
  apply List.ext_getElem?
  intro j
  rw [List.getElem?_set]
  split
  · rename_i e; subst e
    split
    · exact h.symm
    · rename_i hh; rw [List.getElem?_eq_none (by omega)] at h; cases h
  · rfl
theorem five {l : List Value} {O : Nat} {f a t b c : Value} (h0 : l[O]? = some f) (h2 : l[O + 2]? = some t) :
    ((((l.set O f).set (O + 1) a).set (O + 2) t).set (O + 3) b).set (O + 4) c = ((l.set (O + 4) c).set (O + 1) a).set (O + 3) b := by
  rw [set_self h0]
  have e : ((l.set (O + 1) a)).set (O + 2) t = l.set (O + 1) a := set_self (by rw [List.getElem?_set]; simp [h2])
  rw [e, List.set_comm b c (by omega), List.set_comm a c (by omega)]
theorem heap3 {w : World} {g o1 o2 o3 : Nat} {v1 v2 v3 : Value} {cur : Array Value} {t : TypeId} (h : w.heap[g]? = some (.cells cur t (0, 0))) (n : Nat) :
    ∃ cur', (((w.setCell ⟨g, o1, none⟩ v1).setCell ⟨g, o2, none⟩ v2).setCell ⟨g, o3, none⟩ v3).heap[g]? = some (.cells cur' t (0, 0)) ∧ cur'.size = cur.size ∧ cur'.toList.take n = (((cur.toList.take n).set o1 v1).set o2 v2).set o3 v3 :=
  ⟨_, heap_setCell_same _ _ _ _ _ _ _ (heap_setCell_same _ _ _ _ _ _ _ (heap_setCell_same _ _ _ _ _ _ _ h)), by simp, by simp [List.take_set]⟩
theorem heap2 {w : World} {g o1 o2 : Nat} {v1 v2 : Value} {cur : Array Value} {t : TypeId} (h : w.heap[g]? = some (.cells cur t (0, 0))) (n : Nat) :
    ∃ cur', ((w.setCell ⟨g, o1, none⟩ v1).setCell ⟨g, o2, none⟩ v2).heap[g]? = some (.cells cur' t (0, 0)) ∧ cur'.size = cur.size ∧ cur'.toList.take n = ((cur.toList.take n).set o1 v1).set o2 v2 :=
  ⟨_, heap_setCell_same _ _ _ _ _ _ _ (heap_setCell_same _ _ _ _ _ _ _ h), by simp, by simp [List.take_set]⟩
theorem addLine_fin {base g n cap : Nat} {init : List HV} {h : HunkM} {vl vl' : Value} {s : StepB} {w w2 w3 : World} (hs : HSv base g n cap (init ++ [(h, vl)]) w)
    (hown : w2.ownsRow base 93 2 vl' (h.lines.length + 1) (stepCells h.lines ++ [.int .u8 (s.kind : Nat), .string s.text]))
    (hold : ∀ k, k < w.heap.size → some k ≠ vl.ownBlock → w2.heap[k]? = w.heap[k]?)
    (hnew : vl'.ownBlock = vl.ownBlock ∨ ∀ k, vl'.ownBlock = some k → w.heap.size ≤ k)
    (hg : w2.grownBy w3 (some g))
    (hw3 : ∀ cur, w2.heap[g]? = some (.cells cur 61 (0, 0)) → cur.toList.take (n * 5) = hunkCells (init ++ [(h, vl)]) → ∃ cur', w3.heap[g]? = some (.cells cur' 61 (0, 0)) ∧ cur'.size = cur.size ∧
      cur'.toList.take (n * 5) = ((((cur.toList.take (n * 5)).set (init.length * 5) (.int .i64 (h.fr : Nat))).set (init.length * 5 + 1) (.int .i64 ((addL h s).fc : Nat))).set (init.length * 5 + 2) (.int .i64 (h.tr : Nat)) |>.set (init.length * 5 + 3) (.int .i64 ((addL h s).tc : Nat))).set (init.length * 5 + 4) vl') :
    HSv base g n cap (init ++ [(addL h s, vl')]) w3 := by
  have hn := hs.len
  have hmem : ∀ p ∈ init, w.ownsRow base 93 2 p.2 p.1.lines.length (stepCells p.1.lines) := fun p hp => hs.lines p (by simp [hp])
  have hvl := hs.lines (h, vl) (by simp)
  have hap : ∀ p ∈ init, p.2.ownBlock = none ∨ p.2.ownBlock ≠ vl.ownBlock := by
    have := hs.apart
    rw [List.pairwise_append] at this
    exact fun p hp => this.2.2 p hp (h, vl) (by simp)
  have hgl : ∀ {v : Value} {m : Nat} {xs : List Value} {w' : World}, w'.ownsRow base 93 2 v m xs → (∃ cur, w'.heap[g]? = some (.cells cur 61 (0, 0))) → v.ownBlock ≠ some g := by
    intro v m xs w' ho ⟨cur, hc⟩
    exact owns_ne ho hc (by decide)
  obtain ⟨cur, hcur⟩ := owns_block hs.row (g := g) rfl
  have hgw : g < w.heap.size := (Array.getElem?_eq_some_iff.1 hcur).1
  have hg2 : w2.heap[g]? = w.heap[g]? := hold g hgw (fun e => hgl hvl ⟨cur, hcur⟩ e.symm)
  have hrow2 : w2.ownsRow base 61 5 (.slice (some ⟨g, 0, none⟩) n cap) n (hunkCells (init ++ [(h, vl)])) := by
    obtain ⟨a, b⟩ := hs.row
    refine ⟨a, ?_⟩
    rcases b with b | ⟨g', cap', cur', e, hb, hg', r⟩
    · exact .inl b
    · cases e
      exact .inr ⟨g, cap, cur', rfl, hb, hg2.trans hg', r⟩
  refine ⟨by simp at hn ⊢; exact hn, ?_, ?_, ?_⟩
  · have := owns_setHunk hrow2 hn (i := init.length) (by simp) (addL h s, vl') hw3
    simpa using this
  · intro p hp
    rw [List.mem_append] at hp
    rcases hp with hp | hp
    · have ho := hmem p hp
      have ho2 : w2.ownsRow base 93 2 p.2 p.1.lines.length (stepCells p.1.lines) := by
        obtain ⟨a, b⟩ := ho
        refine ⟨a, ?_⟩
        rcases b with b | ⟨g', cap', cur', e, hb, hg', r⟩
        · exact .inl b
        · refine .inr ⟨g', cap', cur', e, hb, (hold g' (Array.getElem?_eq_some_iff.1 hg').1 ?_).trans hg', r⟩
          intro e2
          rcases hap p hp with h3 | h3
          · rw [e] at h3; cases h3
          · exact h3 (by rw [← e2, e]; rfl)
      exact ho2.kept hg (.inr (hgl ho2 ⟨cur, hg2.trans hcur⟩))
    · simp at hp
      subst hp
      have := hown.kept hg (.inr (hgl hown ⟨cur, hg2.trans hcur⟩))
      show World.ownsRow _ _ _ _ _ (h.lines ++ [s]).length (stepCells (h.lines ++ [s]))
      rw [stepCells_append, List.length_append]
      exact this
  · rw [List.pairwise_append]
    have := hs.apart
    rw [List.pairwise_append] at this
    refine ⟨this.1, by simp, fun p hp q hq => ?_⟩
    simp at hq
    subst hq
    rcases hap p hp with h3 | h3
    · exact .inl h3
    · rcases hnew with h4 | h4
      · right; show p.2.ownBlock ≠ vl'.ownBlock; rw [h4]; exact h3
      · cases hb : p.2.ownBlock with
        | none => exact .inl rfl
        | some k =>
          right
          intro e
          have h5 := h4 k e.symm
          have h6 := ((hmem p hp).lt k hb).2
          omega
set_option maxHeartbeats 2000000 in
theorem addLine_sm {base g n cap : Nat} {init : List HV} {h : HunkM} {vl : Value} {w : World} (s : StepB) (hs : HSv base g n cap (init ++ [(h, vl)]) w) (hbase : base ≤ w.heap.size) (hgb : base ≤ g)
    (hk : s.kind = 32 ∨ s.kind = 45 ∨ s.kind = 43) (hfc : h.fc ≤ 1000) (htc : h.tc ≤ 1000) (hll : h.lines.length ≤ 1000) (hT : s.text.size ≤ 281474976710656) :
    Calls Tryz.prog 57 #[.pointer (some ⟨g, init.length * 5, none⟩), .agg #[.int .u8 (s.kind : Nat), .string s.text]] w fun e w' =>
      e = .returned (.tuple #[]) ∧ ∃ vl', HSv base g n cap (init ++ [(addL h s, vl')]) w' ∧ Below base w w' ∧ ∀ k, k < w.heap.size → k ≠ g → some k ≠ vl.ownBlock → w'.heap[k]? = w.heap[k]? := by
  obtain ⟨i0, hi, hz0, hz1, hz2⟩ := info_parts info_line
  have hvl := hs.lines (h, vl) (by simp)
  obtain ⟨cur, hcur⟩ := owns_block hs.row (g := g) rfl
  have hgw : g < w.heap.size := (Array.getElem?_eq_some_iff.1 hcur).1
  have hge : vl.ownBlock ≠ some g := owns_ne hvl hcur (by decide)
  have hcells := owns_hunk hs.row (i := init.length) (by simp)
  simp only [last_get] at hcells
  obtain ⟨c0, c1, c2, c3, c4⟩ := hcells
  have hfz : ∀ k, w.frozen? ⟨g, k, none⟩ = false := fun k => frozen_of hcur
  generalize hO : init.length * 5 = O at c0 c1 c2 c3 c4 ⊢
  go_enter Tryz.func57, Tryz.ntmps57
  go_wp2_with fail
  have hB0 := heap_alloc_new w (.cells #[.int .u8 (s.kind : Int), .string s.text] 120)
  have hO0 := fun k (hk : k < w.heap.size) => Below.heap_alloc w (.cells #[.int .u8 (s.kind : Int), .string s.text] 120) k hk
  have hZ0 : (w.alloc (.cells #[.int .u8 (s.kind : Int), .string s.text] 120)).heap.size = w.heap.size + 1 := by simp
  have hbel0 : Below base w (w.alloc (.cells #[.int .u8 (s.kind : Int), .string s.text] 120)) := (Below.refl _ _).alloc hbase _
  have hvl0 := hvl.alloc (.cells #[.int .u8 (s.kind : Int), .string s.text] 120)
  generalize w.alloc (.cells #[.int .u8 (s.kind : Int), .string s.text] 120) = W0 at hB0 hO0 hZ0 hbel0 hvl0 ⊢
  have hZ0' : Hid (W0.heap.size = w.heap.size + 1) := hZ0
  have hB0' : Hid (W0.heap[w.heap.size]? = some (.cells #[.int .u8 (s.kind : Int), .string s.text] 120 (0, 0))) := hB0
  have hO0' : Hid (∀ k, k < w.heap.size → W0.heap[k]? = w.heap[k]?) := hO0
  have b0 : W0.cell? ⟨w.heap.size, 0, none⟩ = some (.int .u8 (s.kind : Int)) := cell_of hB0 rfl
  have b1 : W0.cell? ⟨w.heap.size, 1, none⟩ = some (.string s.text) := cell_of hB0 rfl
  have d4 : W0.cell? ⟨g, O + 4, none⟩ = some vl := by rw [← c4]; exact World.cell?_of_block (hO0 g hgw)
  have hbk : ∀ k, vl.ownBlock = some k → k < w.heap.size := fun k e => (hvl.lt k e).2
  have hX : Hid (∀ w1, Below W0.heap.size W0.drew w1 → w1.ownsRow base 93 2 vl h.lines.length (stepCells h.lines) ∧ base ≤ w1.heap.size ∧ w1.cell? ⟨g, O + 4, none⟩ = some vl ∧ w1.cell? ⟨w.heap.size, 0, none⟩ = some (.int .u8 (s.kind : Int)) ∧ g < w1.heap.size ∧ w.heap.size < w1.heap.size) := by
    intro w1 hb
    refine ⟨owns_below (w := W0.drew) hvl0 hb (fun k e => by have := hbk k e; omega), by have := hb.size; have := hZ0; simp at *; omega, ?_, ?_, by have := hb.size; have := hZ0; simp at *; omega, by have := hb.size; have := hZ0; simp at *; omega⟩
    · exact (hb.cell (p := ⟨g, O + 4, none⟩) (by show g < _; omega)).trans d4
    · exact (hb.cell (p := ⟨w.heap.size, 0, none⟩) (by show w.heap.size < _; omega)).trans b0
  have hY : Hid (∀ w1 ob w2, Below W0.heap.size W0.drew w1 → (w1.alloc ob).grownBy w2 vl.ownBlock → w2.heap[g]? = w.heap[g]? ∧ w2.heap[w.heap.size]? = some (.cells #[.int .u8 (s.kind : Int), .string s.text] 120 (0, 0)) ∧ (∀ k, k < w.heap.size → some k ≠ vl.ownBlock → w2.heap[k]? = w.heap[k]?) ∧ Below base w w2) := by
    intro w1 ob w2 hb hg
    have hz1 := hb.size
    have hk1 : ∀ k, k ≤ w.heap.size → some k ≠ vl.ownBlock → w2.heap[k]? = W0.heap[k]? := by
      intro k hk hne
      rw [hg.block k (by simp at *; omega) hne, Below.heap_alloc w1 ob k (by simp at *; omega)]
      exact hb.block k (by omega)
    refine ⟨(hk1 g (by omega) (fun e => hge e.symm)).trans (hO0 g hgw), (hk1 w.heap.size (by omega) (fun e => by have := hbk _ e.symm; omega)).trans hB0, fun k hk hne => (hk1 k (by omega) hne).trans (hO0 k hk), ?_⟩
    exact ((hbel0.drew.trans (hb.mono (by omega))).alloc (by simp at *; omega) ob).grown hg (by simp at *; omega) (fun k e => (hvl.lt k e).1)
  have hone : ∀ u ∈ [Value.int .u8 (s.kind : Int), Value.string s.text], u.oneCell' = true := by intro u hu; simp at hu; rcases hu with rfl | rfl <;> rfl
  have hm1 : h.lines.length + 1 ≤ maxLen := by unfold maxLen; omega
  have hm2 : (h.lines.length + 1) * 24 ≤ 140737488355328 := by omega
  have hbs : ∀ (w1 : World) ob, base ≤ w1.heap.size → base ≤ (w1.alloc ob).heap.size := by intro w1 ob hh; simp; omega
  clear hB0 hO0 hZ0 hbel0 hvl0
  go_cut [] from 4 (fun wc => ∃ g' cap' w2, w2.ownsRow base 93 2 (.slice (some ⟨g', 0, none⟩) (h.lines.length + 1) cap') (h.lines.length + 1) (stepCells h.lines ++ [.int .u8 (s.kind : Int), .string s.text]) ∧
      w2.heap[g]? = w.heap[g]? ∧ w2.heap[w.heap.size]? = some (.cells #[.int .u8 (s.kind : Int), .string s.text] 120 (0, 0)) ∧ (∀ k, k < w.heap.size → some k ≠ vl.ownBlock → w2.heap[k]? = w.heap[k]?) ∧ Below base w w2 ∧
      ((Value.slice (some ⟨g', 0, none⟩) (h.lines.length + 1) cap').ownBlock = vl.ownBlock ∨ ∀ k, (Value.slice (some ⟨g', 0, none⟩) (h.lines.length + 1) cap').ownBlock = some k → w.heap.size ≤ k) ∧ wc = w2.setCell ⟨g, O + 4, none⟩ (.slice (some ⟨g', 0, none⟩) (h.lines.length + 1) cap'))
  case first =>
    go_region_law (first | (refine step_call rfl 79 _ _ rfl #[.string s.text] (by simp [Act.eval]) (run_clone _ _) (fun v w' => v = .string s.text ∧ Below W0.heap.size W0.drew w') ((clone_any s.text W0.drew hT).mono (fun e w' h => ⟨_, h.1, rfl, h.2⟩)) ?_; rintro v w1 ⟨rfl, hb1⟩; obtain ⟨hl1, hz1', d41, b01, hgw1, hbw1⟩ := hX.out w1 hb1) | (refine step_append_own rfl (.tmp 8) (.tmp 15) 59 rfl base 93 i0 _ 2 24 Tryz.underlying59 hi hz0 hz1 hz2 rfl (by decide) vl h.lines.length (stepCells h.lines) (by simp [Act.eval]) (hl1.alloc _) ⟨w1.heap.size, 0, none⟩ 1 1 [.int .u8 (s.kind : Int), .string s.text] (by simp [Act.eval]) rfl (cells_new w1 _ _) hone hm1 hm2 (hbs w1 _ hz1') ?_; intro vl' w2 hown' hgrow hnew; obtain ⟨g', cap', rfl, _, _⟩ := owns_slice hown' (Nat.succ_pos _); obtain ⟨e1, e2, e3, e4⟩ := hY.out w1 _ w2 hb1 hgrow; have f1 := (World.cell?_of_block (a := ⟨g, O + 1, none⟩) e1).trans c1; have f3 := (World.cell?_of_block (a := ⟨g, O + 3, none⟩) e1).trans c3; have f4 := (World.cell?_of_block (a := ⟨g, O + 4, none⟩) e1).trans c4; have ff := fun k => (World.frozen?_of_block (a := ⟨g, k, none⟩) e1).trans (hfz k); have b02 : w2.cell? ⟨w.heap.size, 0, none⟩ = some (.int .u8 (s.kind : Int)) := cell_of e2 rfl))
    all_goals
      go_wp2_with fail
      go_meet
      case rel => exact ⟨g', cap', w2, hown', e1, e2, e3, e4, hnew.imp id (fun hh k e => by have h1 := hh k e; have h2 := hb1.size; have h3 := hZ0'.out; simp at h1 h2; omega), rfl⟩
  case rest =>
    obtain ⟨g', cap', w2, hown', e1, e2, e3, e4, hnew, rfl⟩ := hcut
    have f1 := (World.cell?_of_block (a := ⟨g, O + 1, none⟩) e1).trans c1
    have f3 := (World.cell?_of_block (a := ⟨g, O + 3, none⟩) e1).trans c3
    have f4 := (World.cell?_of_block (a := ⟨g, O + 4, none⟩) e1).trans c4
    have ff := fun k => (World.frozen?_of_block (a := ⟨g, k, none⟩) e1).trans (hfz k)
    have b02 : w2.cell? ⟨w.heap.size, 0, none⟩ = some (.int .u8 (s.kind : Int)) := cell_of e2 rfl
    have hgB : ¬ g = w.heap.size := by omega
    have hgB' : ¬ w.heap.size = g := by omega
    clear hX hY b0 b1 d4 c0 c1 c2 c3 c4 hone hm1 hm2 hbs hZ0' hB0' hO0'
    have E : Hid ((∀ k, k < w.heap.size → some k ≠ vl.ownBlock → w2.heap[k]? = w.heap[k]?) ∧ Below base w w2 ∧ ((Value.slice (some ⟨g', 0, none⟩) (h.lines.length + 1) cap').ownBlock = vl.ownBlock ∨ ∀ k, (Value.slice (some ⟨g', 0, none⟩) (h.lines.length + 1) cap').ownBlock = some k → w.heap.size ≤ k)) := ⟨e3, e4, hnew⟩
    have hget := hunkCells_get (init ++ [(h, vl)]) init.length (by simp)
    simp only [last_get, hO] at hget
    have G : Hid _ := hget
    clear e1 e2 e3 e4 hnew hget hfz hcur hbk hge
    rcases hk with hk | hk | hk
    · have b03 : w2.cell? ⟨w.heap.size, 0, none⟩ = some (.int .u8 32) := by rw [b02, hk]; rfl
      clear b02
      have hA : Hid ((addL h s).fc = h.fc + 1 ∧ (addL h s).tc = h.tc + 1) := by unfold Hid addL; simp [hk]
      clear hk
      go_wp2
      go_end0
      refine ⟨rfl, _, addLine_fin hs hown' E.out.1 E.out.2.2 (grownBy_trans (grownBy_trans (grownBy_setCell _ _ _ _) (grownBy_setCell _ _ _ _)) (grownBy_setCell _ _ _ _)) ?_, ((E.out.2.1.setCell (p := ⟨g, O + 4, none⟩) hgb _).setCell (p := ⟨g, O + 1, none⟩) hgb _).setCell (p := ⟨g, O + 3, none⟩) hgb _, fun k h1 h2 h3 => (heap_setCell_other _ g k _ _ h2).trans ((heap_setCell_other _ g k _ _ h2).trans ((heap_setCell_other _ g k _ _ h2).trans (E.out.1 k h1 h3)))⟩
      intro cu hcu htk
      obtain ⟨cu', k1, k2, k3⟩ := heap3 (o1 := O + 4) (o2 := O + 1) (o3 := O + 3) (v1 := .slice (some ⟨g', 0, none⟩) (h.lines.length + 1) cap') (v2 := .int .i64 ((h.fc : Int) + 1)) (v3 := .int .i64 ((h.tc : Int) + 1)) hcu (n * 5)
      refine ⟨cu', k1, k2, ?_⟩
      rw [k3, hO, five (by rw [htk]; exact G.out.1) (by rw [htk]; exact G.out.2.2.1), hA.out.1, hA.out.2]
      rfl
    · have b03 : w2.cell? ⟨w.heap.size, 0, none⟩ = some (.int .u8 45) := by rw [b02, hk]; rfl
      clear b02
      have hA : Hid ((addL h s).fc = h.fc + 1 ∧ (addL h s).tc = h.tc) := by unfold Hid addL; simp [hk]
      clear hk
      go_wp2
      go_end0
      refine ⟨rfl, _, addLine_fin hs hown' E.out.1 E.out.2.2 (grownBy_trans (grownBy_setCell _ _ _ _) (grownBy_setCell _ _ _ _)) ?_, (E.out.2.1.setCell (p := ⟨g, O + 4, none⟩) hgb _).setCell (p := ⟨g, O + 1, none⟩) hgb _, fun k h1 h2 h3 => (heap_setCell_other _ g k _ _ h2).trans ((heap_setCell_other _ g k _ _ h2).trans (E.out.1 k h1 h3))⟩
      intro cu hcu htk
      obtain ⟨cu', k1, k2, k3⟩ := heap2 (o1 := O + 4) (o2 := O + 1) (v1 := .slice (some ⟨g', 0, none⟩) (h.lines.length + 1) cap') (v2 := .int .i64 ((h.fc : Int) + 1)) hcu (n * 5)
      refine ⟨cu', k1, k2, ?_⟩
      rw [k3, hO, five (by rw [htk]; exact G.out.1) (by rw [htk]; exact G.out.2.2.1), hA.out.1, hA.out.2]
      refine (set_self ?_).symm
      rw [List.getElem?_set, List.getElem?_set, htk]
      simp [G.out.2.2.2.1]
    · have b03 : w2.cell? ⟨w.heap.size, 0, none⟩ = some (.int .u8 43) := by rw [b02, hk]; rfl
      clear b02
      have hA : Hid ((addL h s).fc = h.fc ∧ (addL h s).tc = h.tc + 1) := by unfold Hid addL; simp [hk]
      clear hk
      go_wp2
      go_end0
      refine ⟨rfl, _, addLine_fin hs hown' E.out.1 E.out.2.2 (grownBy_trans (grownBy_setCell _ _ _ _) (grownBy_setCell _ _ _ _)) ?_, (E.out.2.1.setCell (p := ⟨g, O + 4, none⟩) hgb _).setCell (p := ⟨g, O + 3, none⟩) hgb _, fun k h1 h2 h3 => (heap_setCell_other _ g k _ _ h2).trans ((heap_setCell_other _ g k _ _ h2).trans (E.out.1 k h1 h3))⟩
      intro cu hcu htk
      obtain ⟨cu', k1, k2, k3⟩ := heap2 (o1 := O + 4) (o2 := O + 3) (v1 := .slice (some ⟨g', 0, none⟩) (h.lines.length + 1) cap') (v2 := .int .i64 ((h.tc : Int) + 1)) hcu (n * 5)
      refine ⟨cu', k1, k2, ?_⟩
      rw [k3, hO, five (by rw [htk]; exact G.out.1) (by rw [htk]; exact G.out.2.2.1), hA.out.1, hA.out.2]
      rw [set_self (l := (List.take (n * 5) cu.toList).set (O + 4) _) (i := O + 1)]
      · rfl
      · rw [List.getElem?_set, htk]; simp [G.out.2.1]
end Go.Proofs.YtcclgodahlinbaaGreatDoor
