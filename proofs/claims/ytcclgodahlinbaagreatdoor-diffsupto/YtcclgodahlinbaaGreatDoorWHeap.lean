import Derived.Test.YtcclgodahlinbaaGreatDoorWDown
namespace Go.Proofs.YtcclgodahlinbaaGreatDoor
open Go.RowKit Go
set_option maxRecDepth 100000

set_option maxHeartbeats 800000 in
theorem hpush_sm {X : List (Nat × Obj)} {base S : Nat} {vo vf : Value} {st : Dn.Srch} {w : World} (s : Dn.Spot) (h : SM X base S vo vf st w) (hb : st.op.length < 1000000) :
    Calls Tryz.prog 49 #[.iface 110 (.pointer (some ⟨S, 2, none⟩)), .iface 112 (.agg #[.complex .f64 (fl s.x) (fl s.y), .int .i64 s.far, .int .i64 s.turn, .int .u8 s.kind])] w fun e w' =>
      e = .returned (.tuple #[]) ∧ SM X base S vo vf { st with op := Dn.pushM st.op s } w' ∧ Below base w w' := by
  obtain ⟨vop, vled, hsm⟩ := h
  have hp := push_sm s hsm (by omega)
  have hmp := m_push ⟨S, 2, none⟩ w
  go_enter Tryz.func49, Tryz.ntmps49
  go_wp2_with (go_at_call 198; refine hp.mono ?_; rintro e w1 ⟨rfl, ⟨vop1, vled1, hsm1⟩, hb1⟩)
  obtain ⟨g, cap, rfl, _, _, _⟩ := owns_slice hsm1.op (show 0 < (st.op ++ [s]).length by simp)
  have hc := cell_of (k := 2) (v := .slice (some ⟨g, 0, none⟩) (st.op ++ [s]).length cap) hsm1.blk rfl
  have hml := m_len ⟨S, 2, none⟩ w1 _ hc
  have hl1 : (st.op ++ [s]).length = st.op.length + 1 := by simp
  have hu := up_sm (st := { st with op := st.op ++ [s] }) (w := w1) st.op.length ⟨_, _, hsm1⟩ (by show _ < (st.op ++ [s]).length; simp) (by show (st.op ++ [s]).length ≤ _; simp; omega)
  have hln := len_at (some ⟨g, 0, none⟩) (st.op ++ [s]).length cap w1
  rw [hl1] at hml hln
  clear hp hmp
  go_wp2_with (first | (go_at_call 194; refine hln.mono ?_; rintro e w' ⟨rfl, rfl⟩) | (go_at_call 96; refine hu.mono ?_; rintro e w' ⟨rfl, hsm2, hb2⟩))
  go_end0
  exact ⟨rfl, hsm2, hb1.trans hb2⟩

theorem popL_down (l : List Dn.Spot) : Dn.downM (l.length - 1) (Dn.swapL l 0 (l.length - 1)) 0 (l.length - 1) = Dn.popL l := downM_fuel _ _ _ _ _ (by omega) (by omega)

def spotVal (s : Dn.Spot) : Value := .iface 112 (.agg #[.complex .f64 (fl s.x) (fl s.y), .int .i64 s.far, .int .i64 s.turn, .int .u8 s.kind])

set_option maxHeartbeats 800000 in
theorem hpop_sm {X : List (Nat × Obj)} {base S : Nat} {vo vf : Value} {st : Dn.Srch} {w : World} (h : SM X base S vo vf st w) (hne : st.op ≠ []) (hb : st.op.length < 1000000) :
    Calls Tryz.prog 52 #[.iface 110 (.pointer (some ⟨S, 2, none⟩))] w fun e w' =>
      e = .returned (spotVal (Dn.popS st.op)) ∧ SM X base S vo vf { st with op := Dn.popR st.op } w' ∧ Below base w w' := by
  obtain ⟨vop, vled, hsm⟩ := h
  have hpos := List.length_pos_iff.2 hne
  obtain ⟨g, cap, rfl, _, _, _⟩ := owns_slice hsm.op hpos
  have hc := cell_of (k := 2) (v := .slice (some ⟨g, 0, none⟩) st.op.length cap) hsm.blk rfl
  have hml := m_len ⟨S, 2, none⟩ w _ hc
  have hms := m_swap ⟨S, 2, none⟩ w _ hc
  have hln := len_at (some ⟨g, 0, none⟩) st.op.length cap w
  obtain ⟨k, hk⟩ : ∃ k, st.op.length = k + 1 := ⟨st.op.length - 1, by omega⟩
  have hk1 : st.op.length - 1 = k := by omega
  have hsw := swap_sm hsm (i := 0) (j := k) hpos (by omega) (by omega)
  have hP : Hid (Dn.downM k (Dn.swapL st.op 0 k) 0 k = Dn.popL st.op) := by have := popL_down st.op; rw [hk1] at this; exact this
  have hS : Hid (Dn.popS st.op = Dn.gt (Dn.popL st.op) k) := by unfold Hid Dn.popS; rw [hk1]
  have hR : Hid (Dn.popR st.op = (Dn.popL st.op).take k) := by unfold Hid Dn.popR; rw [hk1]
  have hkl : Hid (st.op.length = k + 1) := hk
  rw [hk] at hml hms hln hsw
  have hkb : k < 1000000 := by omega
  clear hk hk1
  go_enter Tryz.func52, Tryz.ntmps52
  go_wp2_with (first | (go_at_call 194; refine hln.mono ?_; rintro e w' ⟨rfl, rfl⟩) | (go_at_call 196; refine hsw.mono ?_; rintro e w1 ⟨rfl, hsm1, hb1⟩) | (go_at_call 98; fail))
  have hl1 : (Dn.swapL st.op 0 k).length = k + 1 := by rw [Dn.swapL_length]; exact hkl.out
  have hd := down_sm (st := { st with op := Dn.swapL st.op 0 k }) (w := w1) k ⟨_, _, hsm1⟩ (by show k ≤ (Dn.swapL st.op 0 k).length; omega) (by show (Dn.swapL st.op 0 k).length ≤ _; omega)
  simp only [hP.out] at hd
  clear hl1 hsw hms hln hml
  go_wp2_with (go_at_call 98; refine hd.mono ?_; rintro e w2 ⟨⟨bb, rfl⟩, ⟨vop2, vled2, hsm2⟩, hb2⟩)
  have hl2 : (Dn.popL st.op).length = k + 1 := by rw [Dn.popL_length _ hne]; exact hkl.out
  obtain ⟨g2, cap2, rfl, _, _, _⟩ := owns_slice hsm2.op (show 0 < (Dn.popL st.op).length by omega)
  have hmp := m_pop ⟨S, 2, none⟩ w2
  have hpp := popm_sm hsm2 (show 0 < (Dn.popL st.op).length by omega) (show (Dn.popL st.op).length ≤ 1000000 by omega)
  have hl3 : (Dn.popL st.op).length - 1 = k := by omega
  simp only [hl3, ← hS.out, ← hR.out] at hpp
  clear hl2 hl3 hd
  go_wp2_with (go_at_call 197; refine hpp.mono ?_; rintro e w3 ⟨rfl, hsm3, hb3⟩)
  go_ret
  exact ⟨rfl, hsm3, (hb1.trans hb2).trans hb3⟩
end Go.Proofs.YtcclgodahlinbaaGreatDoor
