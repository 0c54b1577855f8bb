import Derived.Test.YtcclgodahlinbaaGreatDoorWHeap
import Derived.StillTailTactics
namespace Go.Proofs.YtcclgodahlinbaaGreatDoor
open Go.RowKit Go
set_option maxRecDepth 100000

theorem mixed : Tryz.prog.follows .mixedOrders = true := by kernel_rfl

theorem wp_still_tail {P : Program} {id : Nat} {Q : Exit → Act → World → Prop} {a : Act} {w : World} {l : List Oper} (n : Nat) (hm : P.follows .mixedOrders = true) (hB : Region.lexTailB .any l.toArray n = true)
    (h : wpStill P l.toArray w.drew (fun a' => wpList P l.toArray Q (l.drop n) a' w.drew) (l.take n) a) : (Code.region id l.toArray true).wp P Q a w :=
  wp_region_still_tail n hm hB h

theorem idx_cast (m x y : Nat) : ((Dn.idx m x y : Nat) : Int) = (x : Int) * ((m : Int) + 1) + y := by
  unfold Dn.idx; push_cast; rfl
theorem idx_bound {m x : Nat} (hx : x < 210) (hm : m < 210) : 0 ≤ (x : Int) * ((m : Int) + 1) ∧ (x : Int) * ((m : Int) + 1) ≤ 100000 := by
  have h1 : x * (m + 1) ≤ 209 * 210 := Nat.mul_le_mul (by omega) (by omega)
  have h2 : ((x * (m + 1) : Nat) : Int) = (x : Int) * ((m : Int) + 1) := by push_cast; rfl
  omega

theorem ret_int {k : IntKind} {a b : Int} (h : a = b) : Ending.returned (.int k a) = .returned (.int k b) := by rw [h]

set_option maxHeartbeats 400000 in
theorem index_at (S m capf x y : Nat) (af : Option Addr) (w : World) (hc : w.cell? ⟨S, 1, none⟩ = some (.slice af m capf)) (hm : m < 210) (hx : x < 210) (hy : y < 210) :
    Calls Tryz.prog 50 #[.pointer (some ⟨S, 0, none⟩), .complex .f64 (fl x) (fl y)] w fun e w' => e = .returned (.int .i64 (Dn.idx m x y : Nat)) ∧ w = w' := by
  have h1 := fun w => conv_fl hx w
  have h2 := fun w => conv_fl hy w
  obtain ⟨hb1, hb2⟩ := idx_bound (x := x) (m := m) hx hm
  go_enter Tryz.func50, Tryz.ntmps50
  go_wp2
  go_ret
  exact ⟨ret_int (idx_cast m x y).symm, rfl⟩

theorem SMv.alloc {X : List (Nat × Obj)} {base S : Nat} {vo vf : Value} {st : Dn.Srch} {vop vled : Value} {w : World} (h : SMv X base S vo vf st vop vled w) (o : Obj) : SMv X base S vo vf st vop vled (w.alloc o) :=
  ⟨h.le, (Below.heap_alloc w o S h.size.2).trans h.blk, h.op.alloc o, h.led.alloc o, h.ne1, h.ne2, h.ne3, fun x hx => let ⟨a, b⟩ := h.fr x hx; ⟨(Below.heap_alloc w o x.1 (Array.getElem?_eq_some_iff.1 a).1).trans a, b⟩⟩
theorem SMv.setTurn {X : List (Nat × Obj)} {base S : Nat} {vo vf : Value} {st : Dn.Srch} {vop vled : Value} {w : World} (h : SMv X base S vo vf st vop vled w) (t : Nat) :
    SMv X base S vo vf { st with turns := t } vop vled (w.setCell ⟨S, 3, none⟩ (.int .i64 t)) := by
  have hg := grownBy_setCell w S 3 (.int .i64 (t : Int))
  exact ⟨h.le, heap_setCell_same w S 3 _ _ _ _ h.blk, h.op.kept hg (.inr h.ne1), h.led.kept hg (.inr h.ne2), h.ne1, h.ne2, h.ne3, fun x hx => let ⟨a, b, c⟩ := h.fr x hx; ⟨(heap_setCell_other w S x.1 3 _ b).trans a, b, c⟩⟩

theorem ledCells_length (l : List Nat) : (ledCells l).length = l.length := by simp [ledCells]
theorem owns_led {w : World} {base n cap g : Nat} {l : List Nat} (h : w.ownsRow base 5 1 (.slice (some ⟨g, 0, none⟩) n cap) n (ledCells l)) {i : Nat} (hi : i < l.length) :
    w.cell? ⟨g, i, none⟩ = some (.int .u8 ((l.getD i 0 : Nat) : Int)) := by
  obtain ⟨hl, hr⟩ := h
  rcases hr with ⟨e, _⟩ | ⟨g', cap', cur, e, hb, hg, h1, h2, h3, h4⟩
  · cases e
  · cases e
    have a : (ledCells l)[i]? = some (.int .u8 ((l.getD i 0 : Nat) : Int)) := by simp [ledCells, List.getD, hi]
    rw [← h4, List.getElem?_take] at a
    split at a
    · exact cell_of hg (by simpa using a)
    · cases a
theorem owns_setLed {w : World} {base n cap g : Nat} {l : List Nat} (h : w.ownsRow base 5 1 (.slice (some ⟨g, 0, none⟩) n cap) n (ledCells l)) (i k : Nat) :
    (w.setCell ⟨g, i, none⟩ (.int .u8 (k : Int))).ownsRow base 5 1 (.slice (some ⟨g, 0, none⟩) n cap) n (ledCells (l.set i k)) := by
  obtain ⟨hl, hr⟩ := h
  rcases hr with ⟨e, _⟩ | ⟨g', cap', cur, e, hb, hg, h1, h2, h3, h4⟩
  · cases e
  · cases e
    refine ⟨by simpa [ledCells] using hl, .inr ⟨g, cap, _, rfl, hb, heap_setCell_same _ _ _ _ _ _ _ hg, h1, h2, by simpa using h3, ?_⟩⟩
    have : ledCells (l.set i k) = (ledCells l).set i (.int .u8 (k : Int)) := by simp [ledCells, List.map_set]
    rw [this, ← h4]
    simp [List.take_set]
theorem SMv.setLed {X : List (Nat × Obj)} {base S g n cap : Nat} {vo vf : Value} {st : Dn.Srch} {vop : Value} {w : World} (h : SMv X base S vo vf st vop (.slice (some ⟨g, 0, none⟩) n cap) w) (hn : n = st.led.length) (i k : Nat) :
    SMv X base S vo vf { st with led := st.led.set i k } vop (.slice (some ⟨g, 0, none⟩) n cap) (w.setCell ⟨g, i, none⟩ (.int .u8 (k : Int))) := by
  subst hn
  have hg := grownBy_setCell w g i (.int .u8 (k : Int))
  have hSg : S ≠ g := fun e => h.ne2 (by rw [e]; rfl)
  refine ⟨h.le, (heap_setCell_other w g S i _ hSg).trans h.blk, h.op.kept hg ?_, ?_, h.ne1, h.ne2, h.ne3, fun x hx => let ⟨a, b, c, d⟩ := h.fr x hx; ⟨(heap_setCell_other w g x.1 i _ (fun e => d (by rw [e]; rfl))).trans a, b, c, d⟩⟩
  · rcases h.ne3 with e | e
    · exact .inl e
    · exact .inr e
  · have := owns_setLed h.led i k
    show World.ownsRow _ _ _ _ _ (st.led.set i k).length _
    rw [List.length_set]; exact this
end Go.Proofs.YtcclgodahlinbaaGreatDoor
