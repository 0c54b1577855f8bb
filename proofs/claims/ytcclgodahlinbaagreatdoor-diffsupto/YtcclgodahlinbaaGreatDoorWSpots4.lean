import Derived.Test.YtcclgodahlinbaaGreatDoorWSpots3
namespace Go.Proofs.YtcclgodahlinbaaGreatDoor
open Go.RowKit Go
set_option maxRecDepth 100000
attribute [local go_sem] run_store_complex

theorem rowCells_take (l : List Dn.Spot) : ∀ (k : Nat), rowCells (l.take k) = (rowCells l).take (k * 4) := by
  induction l with
  | nil => intro k; simp [rowCells]
  | cons s l ih =>
    intro k
    cases k with
    | zero => simp [rowCells]
    | succ k =>
      rw [List.take_succ_cons, rowCells_cons, rowCells_cons, ih k, show (k + 1) * 4 = k * 4 + 1 + 1 + 1 + 1 by omega]
      rfl
theorem owns_take {w : World} {base n cap g k : Nat} {l : List Dn.Spot} (h : w.ownsRow base 112 4 (.slice (some ⟨g, 0, none⟩) n cap) n (rowCells l)) (hk : k ≤ n) :
    w.ownsRow base 112 4 (.slice (some ⟨g, 0, none⟩) k cap) k (rowCells (l.take k)) := by
  obtain ⟨hl, hr⟩ := h
  rcases hr with ⟨e, _⟩ | ⟨g', cap', cur, e, hb, hg, h1, h2, h3, h4⟩
  · cases e
  · cases e
    refine ⟨?_, .inr ⟨g, cap, cur, rfl, hb, hg, by omega, h2, h3, ?_⟩⟩
    · rw [rowCells_take, List.length_take, hl]; omega
    · rw [rowCells_take, ← h4, List.take_take]
      congr 1; omega

theorem pop_fin {X : List (Nat × Obj)} {base S g cap k : Nat} {vo vf : Value} {st : Dn.Srch} {vled : Value} {w : World} {o : Obj} (h : SMv X base S vo vf st (.slice (some ⟨g, 0, none⟩) st.op.length cap) vled w) (hk : k ≤ st.op.length) :
    SM X base S vo vf { st with op := st.op.take k } ((w.setCell ⟨S, 2, none⟩ (.slice (some ⟨g, 0, none⟩) k cap)).alloc o) ∧ Below base w ((w.setCell ⟨S, 2, none⟩ (.slice (some ⟨g, 0, none⟩) k cap)).alloc o) := by
  have hs := h.size
  have hg2 := grownBy_setCell w S 2 (.slice (some ⟨g, 0, none⟩) k cap)
  have hsz : (w.setCell ⟨S, 2, none⟩ (.slice (some ⟨g, 0, none⟩) k cap)).heap.size = w.heap.size := by simp [World.setCell]
  have h1 := owns_take h.op hk
  have hn1 : (Value.slice (some ⟨g, 0, none⟩) k cap).ownBlock ≠ some S := h.ne1
  refine ⟨⟨.slice (some ⟨g, 0, none⟩) k cap, vled, SMv.mk' h.le ?_ ?_ ((h.led.kept hg2 (.inr h.ne2)).alloc o) ?_⟩, ?_⟩
  · rw [Below.heap_alloc _ _ _ (by rw [hsz]; exact hs.2)]
    exact heap_setCell_same w S 2 _ _ _ _ h.blk
  · have e : (st.op.take k).length = k := by simp; omega
    have := (h1.kept hg2 (.inr hn1)).alloc o
    show World.ownsRow _ _ _ _ _ (st.op.take k).length (rowCells (st.op.take k))
    rw [e]; exact this
  · intro x hx
    obtain ⟨a, b, c, d⟩ := h.fr x hx
    have hlt := (Array.getElem?_eq_some_iff.1 a).1
    refine ⟨?_, b, c, d⟩
    rw [Below.heap_alloc _ _ _ (by rw [hsz]; exact hlt), heap_setCell_other w S x.1 2 _ b]
    exact a
  · exact ((Below.refl base w).setCell (p := ⟨S, 2, none⟩) h.le _).alloc (by rw [hsz]; omega) o

set_option maxHeartbeats 800000 in
theorem popm_sm {X : List (Nat × Obj)} {base S g n cap : Nat} {vo vf : Value} {st : Dn.Srch} {vled : Value} {w : World} (h : SMv X base S vo vf st (.slice (some ⟨g, 0, none⟩) n cap) vled w) (hn : 0 < st.op.length) (hb : st.op.length ≤ 1000000) :
    Calls Tryz.prog 197 #[.pointer (some ⟨S, 2, none⟩)] w fun e w' =>
      e = .returned (.iface 112 (.agg #[.complex .f64 (fl (Dn.gt st.op (st.op.length - 1)).x) (fl (Dn.gt st.op (st.op.length - 1)).y), .int .i64 (Dn.gt st.op (st.op.length - 1)).far, .int .i64 (Dn.gt st.op (st.op.length - 1)).turn, .int .u8 (Dn.gt st.op (st.op.length - 1)).kind])) ∧
      SM X base S vo vf { st with op := st.op.take (st.op.length - 1) } w' ∧ Below base w w' := by
  have hop := h.op
  obtain ⟨g', cap', e, hbg, hgs, hcap, hcap2⟩ := owns_slice hop hn
  cases e
  obtain ⟨k, hk⟩ : ∃ k, st.op.length = k + 1 := ⟨st.op.length - 1, by omega⟩
  obtain ⟨p0, p1, p2, p3⟩ := owns_spot hop (i := k) (by omega)
  have hc := cell_of (k := 2) h.blk rfl
  have hf : w.frozen? ⟨S, 2, none⟩ = false := frozen_of h.blk
  have hS := h.size.2
  have hk1 : st.op.length - 1 = k := by omega
  rw [hk1]
  generalize hsp : Dn.gt st.op k = sp at p0 p1 p2 p3 ⊢
  rw [hk] at hc hcap
  have hcap' : ((k : Nat) : Int) ≤ cap := by omega
  unfold maxLen at hcap2
  go_enter Tryz.func197, Tryz.ntmps197
  go_wp2
  go_ret
  have := pop_fin (k := k) (o := .cells #[.complex .f64 (fl sp.x) (fl sp.y), .int .i64 sp.far, .int .i64 sp.turn, .int .u8 sp.kind] 112) h (by omega)
  exact ⟨rfl, this.1, this.2⟩
end Go.Proofs.YtcclgodahlinbaaGreatDoor
