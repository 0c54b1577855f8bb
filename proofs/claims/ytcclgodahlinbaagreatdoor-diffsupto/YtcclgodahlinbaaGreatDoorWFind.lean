import Derived.Test.YtcclgodahlinbaaGreatDoorWStepsTo
import Derived.Deep.LoopGhost
import Derived.Deep.OwnRows
namespace Go.Proofs.YtcclgodahlinbaaGreatDoor
open Go.RowKit Go
set_option maxRecDepth 100000

theorem info_u8 : (Tryz.prog.info? 5).map (fun i => (i.zero, i.size, i.bytes)) = some (some (.int .u8 0), 1, 1) := by kernel_rfl

theorem ledCells_replicate (N : Nat) : ledCells (List.replicate N 0) = List.replicate N (.int .u8 0) := by simp [ledCells]
theorem madeCells_one (z : Value) (N : Nat) : madeCells #[z] N = Array.replicate N z := by
  apply Array.ext
  · simp [madeCells]
  · intro i h1 h2; simp [madeCells, Nat.mod_one]

/-- the search as it lies in memory at its beginning -/
theorem SM.start {base S g N : Nat} {vo vf : Value} {w : World} (h1 : base ≤ S) (h2 : base ≤ g) (hN : N ≤ maxLen)
    (hS : w.heap[S]? = some (.cells #[vo, vf, .slice none 0 0, .int .i64 0, .slice (some ⟨g, 0, none⟩) N N] 106 (0, 0)))
    (hg : w.heap[g]? = some (.cells (madeCells #[.int .u8 0] N) 5 (0, 0))) :
    SM [] base S vo vf { op := [], turns := 0, led := List.replicate N 0 } w :=
  ⟨.slice none 0 0, .slice (some ⟨g, 0, none⟩) N N, SMv.mk' h1 hS (World.ownsRow_nil _ _ _ _)
    (by
      show w.ownsRow base 5 1 (.slice (some ⟨g, 0, none⟩) N N) (List.replicate N 0).length (ledCells (List.replicate N 0))
      rw [List.length_replicate, ledCells_replicate]
      refine ⟨by simp, .inr ⟨g, N, _, rfl, h2, hg, Nat.le_refl _, hN, by rw [madeCells_one]; simp, by rw [madeCells_one]; simp⟩⟩) (fun x hx => by simp at hx)⟩

theorem start_mu (o f : List ByteArray) : Dn.mu (Dn.startM o f) = 3 * ((o.length + 1) * (f.length + 1)) + 1 := by simp [Dn.mu, Dn.startM, Dn.zeros]
theorem pop_mem {l : List Dn.Spot} (h : l ≠ []) : Dn.popS l ∈ l := (Dn.pop_perm l h).mem_iff.1 (by simp)

set_option maxHeartbeats 2000000 in
theorem find_row {capo capf : Nat} {ao af : Option Addr} {o f : List ByteArray} {w : World}
    (ho : Strs w.heap.size w (.slice ao o.length capo) o) (hf : Strs w.heap.size w (.slice af f.length capf) f) (hn : o.length < 209) (hm : f.length < 209) :
    Calls Tryz.prog 25 #[.slice ao o.length capo, .slice af f.length capf] w fun e w' =>
      ∃ v, e = .returned v ∧ w'.ownsRow w.heap.size 120 2 v (Dn.wayM o f).length (stepCells (Dn.wayM o f)) ∧ Below w.heap.size w w' := by
  obtain ⟨N, hN⟩ : ∃ N, (o.length + 1) * (f.length + 1) = N := ⟨_, rfl⟩
  have hNb : N ≤ 100000 := by rw [← hN]; have : (o.length + 1) * (f.length + 1) ≤ 209 * 209 := Nat.mul_le_mul (by omega) (by omega); omega
  have hNI : ((o.length : Int) + 1) * ((f.length : Int) + 1) = N := by rw [← hN]; push_cast; rfl
  have hmk := fun w => run_make_row' (P := Tryz.prog) 72 5 (.int .u8 0) 1 Tryz.underlying72 info_u8 rfl .i64 .i64 N (by omega) (by omega) w
  have f1 : floatOfInt .f64 (o.length : Int) = fl o.length := rfl
  have f2 : floatOfInt .f64 (f.length : Int) = fl f.length := rfl
  have hN' : Hid ((o.length + 1) * (f.length + 1) = N) := hN
  clear hN
  go_enter Tryz.func25, Tryz.ntmps25
  obtain ⟨w0, hw0⟩ : ∃ w0, (w.alloc (.cells #[.slice ao o.length capo, .slice af f.length capf, .slice none 0 0, .int .i64 0, .slice (some ⟨w.heap.size + 1, 0, none⟩) N N] 106)).alloc (.cells (madeCells #[.int .u8 0] N) 5) = w0 := ⟨_, rfl⟩
  have hz0 : w0.heap.size = w.heap.size + 2 := by rw [← hw0]; simp
  have h0 : SM [] w.heap.size w.heap.size (.slice ao o.length capo) (.slice af f.length capf) { op := [], turns := 0, led := List.replicate N 0 } w0 := by
    refine SM.start (g := w.heap.size + 1) (Nat.le_refl _) (by omega) (by unfold maxLen; omega) ?_ ?_
    · rw [← hw0, Below.heap_alloc _ _ _ (by simp)]; exact heap_alloc_new w _
    · rw [← hw0]
      have := heap_alloc_new (w.alloc (.cells #[.slice ao o.length capo, .slice af f.length capf, .slice none 0 0, .int .i64 0, .slice (some ⟨w.heap.size + 1, 0, none⟩) N N] 106)) (.cells (madeCells #[.int .u8 0] N) 5)
      rwa [World.size_alloc] at this
  have hb0 : Below w.heap.size w w0 := by rw [← hw0]; exact ((Below.refl _ _).alloc (Nat.le_refl _) _).alloc (by simp) _
  have hP := hpush_sm ⟨0, 0, 0, 0, 46⟩ h0 (by simp)
  have e46 : ((46 : Nat) : Int) = 46 := rfl
  have e00 : ((0 : Nat) : Int) = 0 := rfl
  simp only [fl_zero, e46, e00] at hP
  clear e46 e00
  go_wp2_with (go_at_call 49; refine hP.mono ?_; rintro e w1 ⟨rfl, hs1, hb1⟩)
  have hbel := hb0.trans hb1
  clear hP hw0 h0 hb0 hb1 hmk f1 f2
  have hstart : SM [] w.heap.size w.heap.size (.slice ao o.length capo) (.slice af f.length capf) (Dn.startM o f) w1 := by
    have e : Dn.startM o f = { op := Dn.pushM [] ⟨0, 0, 0, 0, 46⟩, turns := 0, led := List.replicate N 0 } := by rw [← hN'.out]; rfl
    rw [e]; exact hs1
  go_loopg [] (Dn.mu (Dn.startM o f)) (fun k wr => ∃ st, Dn.Inv o f st ∧ k = Dn.mu st ∧ k ≤ 300001 ∧ Dn.searchM o f (Dn.mu st) st = Dn.foundM o f ∧ SM [] w.heap.size w.heap.size (.slice ao o.length capo) (.slice af f.length capf) st wr ∧ Below w.heap.size w wr)
  case atStart => exact ⟨_, Dn.startM_inv o f, rfl, by rw [start_mu, hN'.out]; omega, rfl, hstart, hbel⟩
  case round =>
    obtain ⟨st, hinv, hgk, hgb, hfound, hsm, hbw⟩ := hrel
    have hz1 := hbw.size
    obtain ⟨vop, vled, hsv⟩ := id hsm
    have hll : st.led.length ≤ 100000 := by rw [hinv.len, hN'.out]; exact hNb
    have hlI := Dn.idx_lt (n := o.length) (m := f.length) (Nat.le_refl _) (Nat.le_refl _)
    rw [← hinv.len] at hlI
    obtain ⟨g, cap, rfl, hbg, hgw, _⟩ := owns_slice hsv.led (show 0 < st.led.length by omega)
    have c1 := cell_of (k := 1) (v := .slice af f.length capf) hsv.blk rfl
    have c4 := cell_of (k := 4) (v := .slice (some ⟨g, 0, none⟩) st.led.length cap) hsv.blk rfl
    have cl := owns_led hsv.led hlI
    have hq : Hid (∀ n, Calls Tryz.prog 50 #[.pointer (some ⟨w.heap.size, 0, none⟩), .complex .f64 (fl o.length) (fl f.length)] (wr.drewN n) fun e w'' => e = .returned (.int .i64 (Dn.idx f.length o.length f.length : Nat)) ∧ ∃ k, w'' = wr.drewN k) := fun n => idx_quiet c1 (by omega) (by omega) (by omega)
    have hatI : st.led.getD (Dn.idx f.length o.length f.length) 0 = st.at f.length o.length f.length := rfl
    rw [hatI] at cl
    have hlII : ((Dn.idx f.length o.length f.length : Nat) : Int) < st.led.length := by omega
    generalize Dn.idx f.length o.length f.length = I at *
    clear hatI hsv
    have hoW := ho.below hbw
    have hfW := hf.below hbw
    by_cases he : st.at f.length o.length f.length = 0
    · rw [he] at cl
      have cl' : wr.cell? ⟨g, I, none⟩ = some (.int .u8 0) := cl
      have hne := hinv.open_ne he
      have hround := hinv.round hne
      have htn := hinv.turns
      have hmu : Dn.mu st = 3 * Dn.zeros st.led + st.op.length := rfl
      have hopb : st.op.length ≤ 300001 := by omega
      have htb : st.turns ≤ 200000 := by omega
      have hrl : (Dn.popR st.op).length ≤ 300001 := by
        rcases Dn.popR_length st.op with h | h
        · omega
        · exact absurd h hne
      obtain ⟨s1, s2, s3, s4, s5⟩ := hinv.spots _ (pop_mem hne)
      have hpop := fun nq => hpop_sm (hsm.drewN (k := nq)) hne (by omega)
      have hset : Hid (∀ w2, SM [] w.heap.size w.heap.size (.slice ao o.length capo) (.slice af f.length capf) { st with op := Dn.popR st.op } w2 → Below w.heap.size w w2 →
          Calls Tryz.prog 51 #[.pointer (some ⟨w.heap.size, 0, none⟩), .agg #[.complex .f64 (fl (Dn.popS st.op).x) (fl (Dn.popS st.op).y), .int .i64 (Dn.popS st.op).far, .int .i64 (Dn.popS st.op).turn, .int .u8 (Dn.popS st.op).kind]] w2 fun e w' =>
            e = .returned (.tuple #[]) ∧ SM [] w.heap.size w.heap.size (.slice ao o.length capo) (.slice af f.length capf) (Dn.roundM o f st) w' ∧ Below w.heap.size w2 w') :=
        fun w2 h1 h2 => settle_sm (Dn.popS st.op) h1 (ho.below h2) (hf.below h2) hn hm s1 s2 hinv.len (by omega) (by show st.turns < _; omega) (by show (Dn.popR st.op).length < _; omega)
      have hta : ∀ (v : Value) (w : World), (Instr.typeAssert (.iface 112 v) 20 112 false).run Tryz.prog w = .ok v w := fun _ _ => by kernel_rfl
      have hstep := Dn.searchM_step hinv he
      have hA : Hid (Dn.Inv o f (Dn.roundM o f st) ∧ Dn.mu (Dn.roundM o f st) < gk ∧ Dn.mu (Dn.roundM o f st) ≤ 300001 ∧ Dn.searchM o f (Dn.mu (Dn.roundM o f st)) (Dn.roundM o f st) = Dn.foundM o f) := by
        have hlt : Dn.mu (Dn.roundM o f st) < Dn.mu st := hround.2
        exact ⟨hround.1, by omega, by omega, hstep.trans hfound⟩
      generalize Dn.roundM o f st = st2 at hset hA
      clear hround htn hmu hopb htb hrl s1 s2 s3 s4 s5 hstep cl hoW hfW hgk hfound hinv he hz0 hz1
      unfold spotVal at hpop
      go_wp2_with fail
      go_quiet ((go_at_call 50; exact hq.out _))
      go_wp2_with (first | (go_at_call 52; refine (hpop _).mono ?_; rintro e w2 ⟨rfl, hs2, hb2⟩; have hset2 := hset.out w2 hs2 (hbw.trans (Below.of_drewN hb2)); clear hset) | (go_at_call 51; refine hset2.mono ?_; rintro e w3 ⟨rfl, hs3, hb3⟩))
      go_roundg (Dn.mu st2)
      case measure => exact hA.out.2.1
      case rel => exact ⟨st2, hA.out.1, rfl, hA.out.2.2.1, hA.out.2.2.2, hs3, (hbw.trans (Below.of_drewN hb2)).trans hb3⟩
    · have hfd : st = Dn.foundM o f := by rw [← hfound, Dn.searchM_done he]
      have hb1 : (((st.at f.length o.length f.length : Nat) : Int) == 0) = false := by simpa using he
      have hS := fun nq => stepsTo_sm (hsm.drewN (k := nq)) (hoW.below (Below.drewN' (Below.refl _ _))) (hfW.below (Below.drewN' (Below.refl _ _))) hn hm hinv he (by show w.heap.size ≤ wr.heap.size; exact hz1)
      have hway : Hid (Dn.wayM o f = (Dn.backM o f st (o.length + f.length) o.length f.length).reverse) := by unfold Hid Dn.wayM; rw [hfd]
      generalize hL : Dn.backM o f st (o.length + f.length) o.length f.length = L at hS hway
      clear hL hfd hfound hinv hoW hfW hgk hz0 hz1
      generalize st.at f.length o.length f.length = K at *
      go_wp2_with fail
      go_quiet ((go_at_call 50; exact hq.out _))
      go_wp2_with (go_at_call 53; refine (hS _).mono ?_; rintro e w2 ⟨v, rfl, hr2, hb2⟩)
      go_ret
      refine ⟨v, rfl, ?_, hbw.trans (Below.of_drewN hb2)⟩
      rw [hway.out, List.length_reverse]
      exact hr2
end Go.Proofs.YtcclgodahlinbaaGreatDoor
