import Derived.Test.YtcclgodahlinbaaGreatDoorWUp
namespace Go.Proofs.YtcclgodahlinbaaGreatDoor
open Go.RowKit Go
set_option maxRecDepth 100000

theorem downM_fuel (n : Nat) : ∀ (k k' : Nat) (l : List Dn.Spot) (i : Nat), n ≤ k + i → n ≤ k' + i → Dn.downM k l i n = Dn.downM k' l i n := by
  intro k
  induction k with
  | zero =>
    intro k' l i h h'
    cases k' with
    | zero => rfl
    | succ k' => unfold Dn.downM; rw [if_pos (by omega)]
  | succ k ih =>
    intro k' l i h h'
    cases k' with
    | zero => unfold Dn.downM; rw [if_pos (by omega)]
    | succ k' =>
      unfold Dn.downM
      split
      · rfl
      · split
        · rfl
        · have := Dn.downJ_gt l i n
          exact ih k' _ _ (by omega) (by omega)

/-- one round of down, once the lesser child is known -/
theorem down_stop {n : Nat} {l : List Dn.Spot} {i c : Nat} (h : 2 * i + 1 < n) (hc : Dn.downJ l i n = c) (hl : Dn.Spot.less (Dn.gt l c) (Dn.gt l i) = false) : Dn.downM n l i n = l := by
  obtain ⟨k, rfl⟩ : ∃ k, n = k + 1 := ⟨n - 1, by omega⟩
  rw [Dn.downM, if_neg (by omega), hc, if_pos hl]
theorem down_go {n : Nat} {l : List Dn.Spot} {i c : Nat} (h : 2 * i + 1 < n) (hc : Dn.downJ l i n = c) (hl : Dn.Spot.less (Dn.gt l c) (Dn.gt l i) = true) : Dn.downM n l i n = Dn.downM n (Dn.swapL l i c) c n := by
  have hgt := Dn.downJ_gt l i n
  obtain ⟨k, rfl⟩ : ∃ k, n = k + 1 := ⟨n - 1, by omega⟩
  rw [Dn.downM, if_neg (by omega), hc, if_neg (by rw [hl]; simp)]
  exact downM_fuel _ _ _ _ _ (by omega) (by omega)
theorem down_end {n : Nat} {l : List Dn.Spot} {i : Nat} (h : n ≤ 2 * i + 1) : Dn.downM n l i n = l := by
  cases n with
  | zero => rfl
  | succ n => rw [Dn.downM, if_pos h]
theorem downJ_two {n : Nat} {l : List Dn.Spot} {i : Nat} (h : 2 * i + 2 < n) (hl : Dn.Spot.less (Dn.gt l (2 * i + 2)) (Dn.gt l (2 * i + 1)) = true) : Dn.downJ l i n = 2 * i + 2 := by
  unfold Dn.downJ; rw [if_pos ⟨h, hl⟩]
theorem downJ_one {n : Nat} {l : List Dn.Spot} {i : Nat} (hl : Dn.Spot.less (Dn.gt l (2 * i + 2)) (Dn.gt l (2 * i + 1)) = false) : Dn.downJ l i n = 2 * i + 1 := by
  unfold Dn.downJ; rw [if_neg (fun h => by have := h.2; simp only [Dn.gt] at hl; rw [hl] at this; cases this)]
theorem downJ_last {n : Nat} {l : List Dn.Spot} {i : Nat} (h : ¬ 2 * i + 2 < n) : Dn.downJ l i n = 2 * i + 1 := by
  unfold Dn.downJ; rw [if_neg (fun h' => h h'.1)]

set_option maxHeartbeats 2000000 in
theorem down_sm {X : List (Nat × Obj)} {base S : Nat} {vo vf : Value} {st : Dn.Srch} {w : World} (n : Nat) (h : SM X base S vo vf st w) (hn : n ≤ st.op.length) (hb : st.op.length ≤ 1000000) :
    Calls Tryz.prog 98 #[.iface 110 (.pointer (some ⟨S, 2, none⟩)), .int .i64 0, .int .i64 n] w fun e w' =>
      (∃ b : Bool, e = .returned (.bool b)) ∧ SM X base S vo vf { st with op := Dn.downM n st.op 0 n } w' ∧ Below base w w' := by
  go_enter Tryz.func98, Tryz.ntmps98
  go_wp2
  go_loopw [7] (fun t wr => ∃ (i : Nat) (l : List Dn.Spot), t = .int .i64 i ∧ SM X base S vo vf { st with op := l } wr ∧ Below base w wr ∧ i ≤ 1000000 ∧ Hid (l.length = st.op.length) ∧ Hid (Dn.downM n l i n = Dn.downM n st.op 0 n)) (fun t _ => n - (intOf t).toNat)
  case atStart => exact ⟨0, st.op, rfl, h, Below.refl _ _, by omega, rfl, rfl⟩
  case round =>
    obtain ⟨i, l, rfl, ⟨vop, vled, hsm⟩, hbel, hil, hll, hup⟩ := hrel
    have hlb : l.length ≤ 1000000 := by have := hll.out; omega
    have hnl : n ≤ l.length := by have := hll.out; omega
    by_cases hend : n ≤ 2 * i + 1
    · have hfin : Hid (l = Dn.downM n st.op 0 n) := by unfold Hid; rw [← hup.out, down_end hend]
      have hend' : (n : Int) ≤ 2 * (i : Int) + 1 := by omega
      clear hup hend
      go_wp2
      go_ret
      exact ⟨⟨_, rfl⟩, hfin.out ▸ ⟨_, _, hsm⟩, hbel⟩
    · obtain ⟨g, cap, rfl, _, _, _⟩ := owns_slice hsm.op (show 0 < l.length by omega)
      have hc := cell_of (k := 2) (v := .slice (some ⟨g, 0, none⟩) l.length cap) hsm.blk rfl
      have hml := fun k => m_less ⟨S, 2, none⟩ (wr.drewN k) _ hc
      have hml0 := m_less ⟨S, 2, none⟩ wr _ hc
      have hms := fun k => m_swap ⟨S, 2, none⟩ (wr.drewN k) _ hc
      have hlt1 : 2 * (i : Int) + 1 < n := by omega
      have hlt : 2 * i + 1 < n := by omega
      have hge : ¬ (2 * (i : Int) + 1 < 0) := by omega
      clear hend
      by_cases h2 : 2 * i + 2 < n
      · have hlt2 : 2 * (i : Int) + 1 + 1 < n := by omega
        by_cases hl1 : Dn.Spot.less (Dn.gt l (2 * i + 2)) (Dn.gt l (2 * i + 1)) = false
        · have hJ : Dn.downJ l i n = 2 * i + 1 := downJ_one hl1
          by_cases hl2 : Dn.Spot.less (Dn.gt l (2 * i + 1)) (Dn.gt l i) = false
          · have hfin : Hid (l = Dn.downM n st.op 0 n) := by unfold Hid; rw [← hup.out, down_stop hlt hJ hl2]
            have hL2 := fun k => less_sm (hsm.drewN (k := k)) (i := 2 * i + 1) (j := i) (by show _ < l.length; omega) (by show _ < l.length; omega) hlb
            have hL1 := less_sm hsm (i := 2 * i + 2) (j := 2 * i + 1) (by show _ < l.length; omega) (by show _ < l.length; omega) hlb
            simp only [hl1] at hL1
            have e2 : ((2 * i + 2 : Nat) : Int) = 2 * (i : Int) + 1 + 1 := by omega
            have e1 : ((2 * i + 1 : Nat) : Int) = 2 * (i : Int) + 1 := by omega
            rw [e1, e2] at hL1
            simp only [e1] at hL2
            simp only [hl2] at hL2
            clear hup hJ e1
            clear e2
            go_wp2_with (first | (go_at_call 195; refine hL1.mono ?_; clear hL1; rintro e w' ⟨rfl, k, rfl⟩) | (go_at_call 195; refine (hL2 _).mono ?_; rintro e w' ⟨rfl, k2, rfl⟩))
            go_ret
            exact ⟨⟨_, rfl⟩, hfin.out ▸ ⟨_, _, hsm.drewN⟩, Below.drewN' hbel⟩
          · replace hl2 : Dn.Spot.less (Dn.gt l (2 * i + 1)) (Dn.gt l i) = true := by simpa using hl2
            have hgo : Hid (Dn.downM n (Dn.swapL l i (2 * i + 1)) (2 * i + 1) n = Dn.downM n st.op 0 n) := by unfold Hid; rw [← hup.out, down_go hlt hJ hl2]
            have hL2 := fun k => less_sm (hsm.drewN (k := k)) (i := 2 * i + 1) (j := i) (by show _ < l.length; omega) (by show _ < l.length; omega) hlb
            have hL1 := less_sm hsm (i := 2 * i + 2) (j := 2 * i + 1) (by show _ < l.length; omega) (by show _ < l.length; omega) hlb
            simp only [hl1] at hL1
            have e2 : ((2 * i + 2 : Nat) : Int) = 2 * (i : Int) + 1 + 1 := by omega
            have e1 : ((2 * i + 1 : Nat) : Int) = 2 * (i : Int) + 1 := by omega
            rw [e1, e2] at hL1
            simp only [e1] at hL2
            simp only [hl2] at hL2
            have hW := fun k => swap_sm (hsm.drewN (k := k)) (i := i) (j := 2 * i + 1) (by show _ < l.length; omega) (by show _ < l.length; omega) hlb
            simp only [e1] at hW
            clear hup hJ
            go_wp2_with (first | (go_at_call 195; refine hL1.mono ?_; clear hL1; rintro e w' ⟨rfl, k, rfl⟩) | (go_at_call 195; refine (hL2 _).mono ?_; rintro e w' ⟨rfl, k2, rfl⟩) | (go_at_call 196; refine (hW _).mono ?_; rintro e w' ⟨rfl, hsm', hbel'⟩))
            go_roundw
            case rel => exact ⟨2 * i + 1, Dn.swapL l i (2 * i + 1), by rw [e1], ⟨_, _, hsm'⟩, hbel.trans (Below.of_drewN hbel'), by omega, by unfold Hid; rw [Dn.swapL_length]; exact hll.out, hgo⟩
            case measure => simp [intOf]; omega
        · replace hl1 : Dn.Spot.less (Dn.gt l (2 * i + 2)) (Dn.gt l (2 * i + 1)) = true := by simpa using hl1
          have hJ : Dn.downJ l i n = 2 * i + 2 := downJ_two h2 hl1
          by_cases hl2 : Dn.Spot.less (Dn.gt l (2 * i + 2)) (Dn.gt l i) = false
          · have hfin : Hid (l = Dn.downM n st.op 0 n) := by unfold Hid; rw [← hup.out, down_stop hlt hJ hl2]
            have hL2 := fun k => less_sm (hsm.drewN (k := k)) (i := 2 * i + 2) (j := i) (by show _ < l.length; omega) (by show _ < l.length; omega) hlb
            have hL1 := less_sm hsm (i := 2 * i + 2) (j := 2 * i + 1) (by show _ < l.length; omega) (by show _ < l.length; omega) hlb
            simp only [hl1] at hL1
            have e2 : ((2 * i + 2 : Nat) : Int) = 2 * (i : Int) + 1 + 1 := by omega
            have e1 : ((2 * i + 1 : Nat) : Int) = 2 * (i : Int) + 1 := by omega
            rw [e1, e2] at hL1
            simp only [e2] at hL2
            simp only [hl2] at hL2
            clear hup hJ e1
            clear e2
            go_wp2_with (first | (go_at_call 195; refine hL1.mono ?_; clear hL1; rintro e w' ⟨rfl, k, rfl⟩) | (go_at_call 195; refine (hL2 _).mono ?_; rintro e w' ⟨rfl, k2, rfl⟩))
            go_ret
            exact ⟨⟨_, rfl⟩, hfin.out ▸ ⟨_, _, hsm.drewN⟩, Below.drewN' hbel⟩
          · replace hl2 : Dn.Spot.less (Dn.gt l (2 * i + 2)) (Dn.gt l i) = true := by simpa using hl2
            have hgo : Hid (Dn.downM n (Dn.swapL l i (2 * i + 2)) (2 * i + 2) n = Dn.downM n st.op 0 n) := by unfold Hid; rw [← hup.out, down_go hlt hJ hl2]
            have hL2 := fun k => less_sm (hsm.drewN (k := k)) (i := 2 * i + 2) (j := i) (by show _ < l.length; omega) (by show _ < l.length; omega) hlb
            have hL1 := less_sm hsm (i := 2 * i + 2) (j := 2 * i + 1) (by show _ < l.length; omega) (by show _ < l.length; omega) hlb
            simp only [hl1] at hL1
            have e2 : ((2 * i + 2 : Nat) : Int) = 2 * (i : Int) + 1 + 1 := by omega
            have e1 : ((2 * i + 1 : Nat) : Int) = 2 * (i : Int) + 1 := by omega
            rw [e1, e2] at hL1
            simp only [e2] at hL2
            simp only [hl2] at hL2
            have hW := fun k => swap_sm (hsm.drewN (k := k)) (i := i) (j := 2 * i + 2) (by show _ < l.length; omega) (by show _ < l.length; omega) hlb
            simp only [e2] at hW
            clear hup hJ
            go_wp2_with (first | (go_at_call 195; refine hL1.mono ?_; clear hL1; rintro e w' ⟨rfl, k, rfl⟩) | (go_at_call 195; refine (hL2 _).mono ?_; rintro e w' ⟨rfl, k2, rfl⟩) | (go_at_call 196; refine (hW _).mono ?_; rintro e w' ⟨rfl, hsm', hbel'⟩))
            go_roundw
            case rel => exact ⟨2 * i + 2, Dn.swapL l i (2 * i + 2), by rw [e2], ⟨_, _, hsm'⟩, hbel.trans (Below.of_drewN hbel'), by omega, by unfold Hid; rw [Dn.swapL_length]; exact hll.out, hgo⟩
            case measure => simp [intOf]; omega
      · have hJ : Dn.downJ l i n = 2 * i + 1 := downJ_last h2
        have hlt2 : ¬ (2 * (i : Int) + 1 + 1 < n) := by omega
        clear h2
        by_cases hl2 : Dn.Spot.less (Dn.gt l (2 * i + 1)) (Dn.gt l i) = false
        · have hfin : Hid (l = Dn.downM n st.op 0 n) := by unfold Hid; rw [← hup.out, down_stop hlt hJ hl2]
          have hL2 := fun k => less_sm (hsm.drewN (k := k)) (i := 2 * i + 1) (j := i) (by show _ < l.length; omega) (by show _ < l.length; omega) hlb
          have hL0 := less_sm hsm (i := 2 * i + 1) (j := i) (by show _ < l.length; omega) (by show _ < l.length; omega) hlb
          have e1 : ((2 * i + 1 : Nat) : Int) = 2 * (i : Int) + 1 := by omega
          simp only [hl2] at hL0
          rw [e1] at hL0
          simp only [e1] at hL2
          simp only [hl2] at hL2
          clear hup hJ e1
          go_wp2_with (first | (go_at_call 195; refine hL0.mono ?_; rintro e w' ⟨rfl, k, rfl⟩))
          go_ret
          exact ⟨⟨_, rfl⟩, hfin.out ▸ ⟨_, _, hsm.drewN⟩, Below.drewN' hbel⟩
        · replace hl2 : Dn.Spot.less (Dn.gt l (2 * i + 1)) (Dn.gt l i) = true := by simpa using hl2
          have hgo : Hid (Dn.downM n (Dn.swapL l i (2 * i + 1)) (2 * i + 1) n = Dn.downM n st.op 0 n) := by unfold Hid; rw [← hup.out, down_go hlt hJ hl2]
          have hL2 := fun k => less_sm (hsm.drewN (k := k)) (i := 2 * i + 1) (j := i) (by show _ < l.length; omega) (by show _ < l.length; omega) hlb
          have hL0 := less_sm hsm (i := 2 * i + 1) (j := i) (by show _ < l.length; omega) (by show _ < l.length; omega) hlb
          have e1 : ((2 * i + 1 : Nat) : Int) = 2 * (i : Int) + 1 := by omega
          simp only [hl2] at hL0
          rw [e1] at hL0
          simp only [e1] at hL2
          simp only [hl2] at hL2
          have hW := fun k => swap_sm (hsm.drewN (k := k)) (i := i) (j := 2 * i + 1) (by show _ < l.length; omega) (by show _ < l.length; omega) hlb
          simp only [e1] at hW
          clear hup hJ
          go_wp2_with (first | (go_at_call 195; refine hL0.mono ?_; rintro e w' ⟨rfl, k, rfl⟩) | (go_at_call 196; refine (hW _).mono ?_; rintro e w' ⟨rfl, hsm', hbel'⟩))
          go_roundw
          case rel => exact ⟨2 * i + 1, Dn.swapL l i (2 * i + 1), by rw [e1], ⟨_, _, hsm'⟩, hbel.trans (Below.of_drewN hbel'), by omega, by unfold Hid; rw [Dn.swapL_length]; exact hll.out, hgo⟩
          case measure => simp [intOf]; omega
end Go.Proofs.YtcclgodahlinbaaGreatDoor
