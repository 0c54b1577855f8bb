import Derived.Test.YtcclgodahlinbaaGreatDoorWSpots
namespace Go.Proofs.YtcclgodahlinbaaGreatDoor
open Go.RowKit Go
set_option maxRecDepth 100000
theorem grownBy_drewN {w w' : World} {r : Option Nat} {k : Nat} (h : w.grownBy w' r) : w.grownBy (w'.drewN k) r := ⟨h.os, h.tape, h.output, h.size, h.block⟩

/-- (spots).Swap, of the search's open spots -/
theorem swap_sm {X : List (Nat × Obj)} {base S g n cap i j : Nat} {vo vf : Value} {st : Dn.Srch} {vled : Value} {w : World} (h : SMv X base S vo vf st (.slice (some ⟨g, 0, none⟩) n cap) vled w)
    (hi : i < st.op.length) (hj : j < st.op.length) (hb : st.op.length ≤ 1000000) :
    Calls Tryz.prog 196 #[.slice (some ⟨g, 0, none⟩) n cap, .int .i64 i, .int .i64 j] w fun e w' =>
      e = .returned (.tuple #[]) ∧ SMv X base S vo vf { st with op := Dn.swapL st.op i j } (.slice (some ⟨g, 0, none⟩) n cap) vled w' ∧ Below base w w' := by
  have hop := h.op
  obtain ⟨g', cap', e, hbg, _, _⟩ := owns_slice hop (by omega)
  cases e
  obtain ⟨p0, p1, p2, p3⟩ := owns_spot hop hi
  obtain ⟨q0, q1, q2, q3⟩ := owns_spot hop hj
  have hsw := swap_at g _ cap i j (Dn.gt st.op i) (Dn.gt st.op j) w hi hj hb p0 p1 p2 p3 q0 q1 q2 q3 (owns_frozen hop) (fun e => congrArg (Dn.gt st.op) e)
  refine hsw.mono ?_
  clear hsw
  rintro e w' ⟨rfl, k, rfl⟩
  have h1 := setSpot_row (Dn.gt st.op j) rfl hi hop
  have h2 := setSpot_row (l := st.op.set i (Dn.gt st.op j)) (n := st.op.length) (i := j) (Dn.gt st.op i) (by simp) (by simpa using hj) h1
  have hgr := grownBy_drewN (k := k) (grownBy_trans (grownBy_setSpot w g i (Dn.gt st.op j)) (grownBy_setSpot _ g j (Dn.gt st.op i)))
  have h3 := ownsRow_drewN (k := k) h2
  generalize (setSpot (setSpot w g i (Dn.gt st.op j)) g j (Dn.gt st.op i)).drewN k = w1 at hgr h3 ⊢
  have h4 := SM.of_setRow (l := Dn.swapL st.op i j) h hgr (by rw [Dn.swapL_length, swapL_gt]; exact h3)
  exact ⟨rfl, h4, (Below.refl base w).grown hgr (by have := h.size; omega) (fun k e => by cases e; exact hbg)⟩
end Go.Proofs.YtcclgodahlinbaaGreatDoor
