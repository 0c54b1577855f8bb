import Derived.Test.YtcclgodahlinbaaGreatDoorWSpots4
namespace Go.Proofs.YtcclgodahlinbaaGreatDoor
open Go.RowKit Go
set_option maxRecDepth 100000

theorem upM_fuel : ∀ (k k' : Nat) (l : List Dn.Spot) (j : Nat), j < k → j < k' → Dn.upM k l j = Dn.upM k' l j := by
  intro k
  induction k with
  | zero => intro k' l j h; omega
  | succ k ih =>
    intro k' l j h h'
    cases k' with
    | zero => omega
    | succ k' =>
      unfold Dn.upM
      simp only
      split
      · rfl
      · rename_i hh
        have : (j - 1) / 2 ≠ j := fun e => hh (.inl e)
        exact ih k' _ _ (by omega) (by omega)

theorem Below.of_drewN {B k : Nat} {w w' : World} (h : Below B (w.drewN k) w') : Below B w w' := ⟨h.os, h.tape, h.output, h.size, h.block⟩

theorem less_sm {X : List (Nat × Obj)} {base S g n cap i j : Nat} {vo vf : Value} {st : Dn.Srch} {vled : Value} {w : World} (h : SMv X base S vo vf st (.slice (some ⟨g, 0, none⟩) n cap) vled w)
    (hi : i < st.op.length) (hj : j < st.op.length) (hb : st.op.length ≤ 1000000) :
    Calls Tryz.prog 195 #[.slice (some ⟨g, 0, none⟩) n cap, .int .i64 i, .int .i64 j] w fun e w' => e = .returned (.bool (Dn.Spot.less (Dn.gt st.op i) (Dn.gt st.op j))) ∧ ∃ k, w' = w.drewN k := by
  have hop := h.op
  obtain ⟨g', cap', e, hbg, _, _⟩ := owns_slice hop (by omega)
  cases e
  obtain ⟨p0, p1, p2, p3⟩ := owns_spot hop hi
  obtain ⟨q0, q1, q2, q3⟩ := owns_spot hop hj
  refine (less_at g _ cap i j _ _ _ _ w hi hj hb p1 p2 q1 q2).mono ?_
  rintro e w' ⟨rfl, hk⟩
  refine ⟨?_, hk⟩
  congr 2
  unfold Dn.Spot.less
  simp only [Int.natCast_inj, Int.ofNat_lt]

set_option maxHeartbeats 800000 in
theorem up_sm {X : List (Nat × Obj)} {base S : Nat} {vo vf : Value} {st : Dn.Srch} {w : World} (j : Nat) (h : SM X base S vo vf st w) (hj : j < st.op.length) (hb : st.op.length ≤ 1000000) :
    Calls Tryz.prog 96 #[.iface 110 (.pointer (some ⟨S, 2, none⟩)), .int .i64 j] w fun e w' =>
      e = .returned (.tuple #[]) ∧ SM X base S vo vf { st with op := Dn.upM (j + 1) st.op j } w' ∧ Below base w w' := by
  go_enter Tryz.func96, Tryz.ntmps96
  go_wp2
  go_loopw [1] (fun t wr => ∃ (i : Nat) (l : List Dn.Spot), t = .int .i64 i ∧ SM X base S vo vf { st with op := l } wr ∧ Below base w wr ∧ i < l.length ∧ Hid (l.length = st.op.length) ∧ Hid (Dn.upM (i + 1) l i = Dn.upM (j + 1) st.op j)) (fun t _ => (intOf t).toNat)
  case atStart => exact ⟨j, st.op, rfl, h, Below.refl _ _, hj, rfl, rfl⟩
  case round =>
    obtain ⟨i, l, rfl, ⟨vop, vled, hsm⟩, hbel, hil, hll, hup⟩ := hrel
    have hlb : l.length ≤ 1000000 := by have := hll.out; omega
    obtain ⟨g, cap, rfl, _, _, _⟩ := owns_slice hsm.op (show 0 < l.length by omega)
    have hc := cell_of (k := 2) (v := .slice (some ⟨g, 0, none⟩) l.length cap) hsm.blk rfl
    have hml := m_less ⟨S, 2, none⟩ wr _ hc
    by_cases hi0 : i = 0
    · subst hi0
      have hfin : l = Dn.upM (j + 1) st.op j := by
        rw [← hup.out]; unfold Dn.upM; simp
      have hfin' : Hid (l = Dn.upM (j + 1) st.op j) := hfin
      clear hup hfin
      go_wp2
      go_end0
      exact ⟨rfl, hfin'.out ▸ ⟨_, _, hsm⟩, hbel⟩
    · obtain ⟨q, hq⟩ : ∃ q : Nat, (i - 1) / 2 = q := ⟨_, rfl⟩
      have hq2 : ((i : Int) - 1) / 2 = q := by omega
      have hq1 : ((i : Int) - 1).tdiv 2 = q := by rw [Int.tdiv_eq_ediv_of_nonneg (by omega)]; exact hq2
      have hqi : ((q : Nat) : Int) ≠ i := by omega
      have hqi' : ¬ (q = i) := by omega
      have hql : q < l.length := by omega
      have hL := less_sm hsm (i := i) (j := q) hil hql hlb
      have hstep : Hid (Dn.upM (i + 1) l i = if (q = i ∨ Dn.Spot.less (Dn.gt l i) (Dn.gt l q) = false) then l else Dn.upM i (Dn.swapL l q i) q) := by
        unfold Hid; rw [Dn.upM]; simp only [hq]
      clear hq
      by_cases hless : Dn.Spot.less (Dn.gt l i) (Dn.gt l q) = false
      · have hfin : Hid (l = Dn.upM (j + 1) st.op j) := by
          unfold Hid; rw [← hup.out, hstep.out, if_pos (.inr hless)]
        clear hup hstep
        rw [hless] at hL
        go_wp2_with (go_at_call 195; refine hL.mono ?_; rintro e w' ⟨rfl, k, rfl⟩)
        go_end0
        exact ⟨rfl, hfin.out ▸ ⟨_, _, hsm.drewN⟩, Below.drewN' hbel⟩
      · have hless' : Dn.Spot.less (Dn.gt l i) (Dn.gt l q) = true := by simpa using hless
        have hgo : Hid (Dn.upM i (Dn.swapL l q i) q = Dn.upM (j + 1) st.op j) := by
          unfold Hid; rw [← hup.out, hstep.out, if_neg (fun h => h.elim hqi' hless)]
        clear hup hstep
        rw [hless'] at hL
        have hms := fun k => m_swap ⟨S, 2, none⟩ (wr.drewN k) _ hc
        have hW := fun k => swap_sm (hsm.drewN (k := k)) (i := q) (j := i) hql hil hlb
        clear hless hless'
        go_wp2_with (first | (go_at_call 195; refine hL.mono ?_; rintro e w' ⟨rfl, k, rfl⟩) | (go_at_call 196; refine (hW _).mono ?_; rintro e w' ⟨rfl, hsm', hbel'⟩))
        go_roundw
        case rel => exact ⟨q, Dn.swapL l q i, rfl, ⟨_, _, hsm'⟩, hbel.trans (Below.of_drewN hbel'), by rw [Dn.swapL_length]; exact hql, by unfold Hid; rw [Dn.swapL_length]; exact hll.out, by unfold Hid; rw [upM_fuel (q + 1) i _ _ (by omega) (by omega)]; exact hgo.out⟩
        case measure => simp [intOf]; omega
end Go.Proofs.YtcclgodahlinbaaGreatDoor
