import Derived.Test.YtcclgodahlinbaaGreatDoorWFloat
import Derived.Test.YtcclgodahlinbaaGreatDoorMSearch3
import Derived.Test.YtcclgodahlinbaaGreatDoorMHeap
import Derived.Deep.QuietTactic
import Derived.BigQuiet
import Derived.BigRegion
import Derived.Deep.RegionWith
import Derived.Deep.RegionLaw
namespace Go.Proofs.YtcclgodahlinbaaGreatDoor
open Go.RowKit Go
set_option maxRecDepth 100000

/-! ### the methods of *spots, as an interface finds them -/
theorem m_push (a : Addr) (w : World) : (method 353 110 (.pointer (some a)) "Push").run Tryz.prog w = .ok (198, .pointer (some a)) w := by kernel_rfl
theorem m_pop (a : Addr) (w : World) : (method 353 110 (.pointer (some a)) "Pop").run Tryz.prog w = .ok (197, .pointer (some a)) w := by kernel_rfl
theorem load_spots (a : Addr) (w : World) (v : Value) (h : w.cell? a = some v) : (loadVar 104 a).run Tryz.prog w = .ok v w := by
  go_simp
theorem m_len (a : Addr) (w : World) (v : Value) (h : w.cell? a = some v) : (method 353 110 (.pointer (some a)) "Len").run Tryz.prog w = .ok (194, v) w := by
  have e : (method 353 110 (.pointer (some a)) "Len").run Tryz.prog w = (do let v ← loadVar 104 a; pure (194, v) : Sem (FuncId × Value)).run Tryz.prog w := by kernel_rfl
  rw [e, Sem.run_bind, load_spots a w v h]; rfl
theorem m_less (a : Addr) (w : World) (v : Value) (h : w.cell? a = some v) : (method 353 110 (.pointer (some a)) "Less").run Tryz.prog w = .ok (195, v) w := by
  have e : (method 353 110 (.pointer (some a)) "Less").run Tryz.prog w = (do let v ← loadVar 104 a; pure (195, v) : Sem (FuncId × Value)).run Tryz.prog w := by kernel_rfl
  rw [e, Sem.run_bind, load_spots a w v h]; rfl
theorem m_swap (a : Addr) (w : World) (v : Value) (h : w.cell? a = some v) : (method 353 110 (.pointer (some a)) "Swap").run Tryz.prog w = .ok (196, v) w := by
  have e : (method 353 110 (.pointer (some a)) "Swap").run Tryz.prog w = (do let v ← loadVar 104 a; pure (196, v) : Sem (FuncId × Value)).run Tryz.prog w := by kernel_rfl
  rw [e, Sem.run_bind, load_spots a w v h]; rfl

/-! ### how spots lie in memory -/
def spotCells (s : Dn.Spot) : List Value := [.complex .f64 (fl s.x) (fl s.y), .int .i64 s.far, .int .i64 s.turn, .int .u8 s.kind]
def rowCells (l : List Dn.Spot) : List Value := l.flatMap spotCells

theorem rowCells_cons (s : Dn.Spot) (l : List Dn.Spot) : rowCells (s :: l) = .complex .f64 (fl s.x) (fl s.y) :: .int .i64 s.far :: .int .i64 s.turn :: .int .u8 s.kind :: rowCells l := rfl
theorem rowCells_append (a b : List Dn.Spot) : rowCells (a ++ b) = rowCells a ++ rowCells b := by simp [rowCells]
theorem rowCells_length (l : List Dn.Spot) : (rowCells l).length = l.length * 4 := by
  induction l with
  | nil => rfl
  | cons s l ih => rw [rowCells_cons]; simp [ih]; omega
theorem rowCells_get (l : List Dn.Spot) : ∀ (i : Nat), i < l.length →
    (rowCells l)[i * 4]? = some (.complex .f64 (fl (Dn.gt l i).x) (fl (Dn.gt l i).y)) ∧ (rowCells l)[i * 4 + 1]? = some (.int .i64 (Dn.gt l i).far) ∧
    (rowCells l)[i * 4 + 2]? = some (.int .i64 (Dn.gt l i).turn) ∧ (rowCells l)[i * 4 + 3]? = some (.int .u8 (Dn.gt l i).kind) := by
  induction l with
  | nil => intro i h; simp at h
  | cons s l ih =>
    intro i h
    cases i with
    | zero => simp [rowCells_cons, Dn.gt]
    | succ i =>
      have := ih i (by simpa using h)
      rw [rowCells_cons, show (i + 1) * 4 = i * 4 + 1 + 1 + 1 + 1 by omega]
      simpa [Dn.gt, List.getD] using this

def set4 (r : List Value) (i : Nat) (s : Dn.Spot) : List Value :=
  (((r.set (i * 4) (.complex .f64 (fl s.x) (fl s.y))).set (i * 4 + 1) (.int .i64 s.far)).set (i * 4 + 2) (.int .i64 s.turn)).set (i * 4 + 3) (.int .u8 s.kind)
theorem rowCells_set (l : List Dn.Spot) (s : Dn.Spot) : ∀ (i : Nat), i < l.length → set4 (rowCells l) i s = rowCells (l.set i s) := by
  induction l with
  | nil => intro i h; simp at h
  | cons t l ih =>
    intro i h
    cases i with
    | zero => simp [rowCells_cons, set4]
    | succ i =>
      have := ih i (by simpa using h)
      unfold set4 at *
      rw [List.set_cons_succ, rowCells_cons, rowCells_cons, ← this, show (i + 1) * 4 = i * 4 + 1 + 1 + 1 + 1 by omega]
      simp

/-- a spot stored at a place of a row -/
def setSpot (w : World) (g i : Nat) (s : Dn.Spot) : World :=
  (((w.setCell ⟨g, i * 4, none⟩ (.complex .f64 (fl s.x) (fl s.y))).setCell ⟨g, i * 4 + 1, none⟩ (.int .i64 s.far)).setCell ⟨g, i * 4 + 2, none⟩ (.int .i64 s.turn)).setCell ⟨g, i * 4 + 3, none⟩ (.int .u8 s.kind)

theorem heap_setCell_same (w : World) (g o : Nat) (v : Value) (cur : Array Value) (t : TypeId) (fr : Nat × Nat) (h : w.heap[g]? = some (.cells cur t fr)) :
    (w.setCell ⟨g, o, none⟩ v).heap[g]? = some (.cells (cur.setIfInBounds o v) t fr) := by
  simp [World.setCell, Array.getElem?_modify, h]
theorem heap_setCell_other (w : World) (g k : Nat) (o : Nat) (v : Value) (h : k ≠ g) : (w.setCell ⟨g, o, none⟩ v).heap[k]? = w.heap[k]? := Below.heap_setCell _ _ _ _ h
theorem grownBy_setCell (w : World) (g o : Nat) (v : Value) : w.grownBy (w.setCell ⟨g, o, none⟩ v) (some g) :=
  ⟨rfl, rfl, rfl, by simp [World.setCell], fun k _ hne => heap_setCell_other w g k o v (fun e => hne (by rw [e]))⟩
theorem grownBy_trans {a b c : World} {r : Option Nat} (h : a.grownBy b r) (k : b.grownBy c r) : a.grownBy c r :=
  ⟨k.os.trans h.os, k.tape.trans h.tape, k.output.trans h.output, Nat.le_trans h.size k.size, fun i hi hne => (k.block i (Nat.lt_of_lt_of_le hi h.size) hne).trans (h.block i hi hne)⟩
theorem grownBy_setSpot (w : World) (g i : Nat) (s : Dn.Spot) : w.grownBy (setSpot w g i s) (some g) :=
  grownBy_trans (grownBy_trans (grownBy_trans (grownBy_setCell _ _ _ _) (grownBy_setCell _ _ _ _)) (grownBy_setCell _ _ _ _)) (grownBy_setCell _ _ _ _)

theorem setSpot_row {w : World} {base g n cap i : Nat} {l : List Dn.Spot} (s : Dn.Spot) (hn : n = l.length) (hi : i < l.length)
    (h : w.ownsRow base 112 4 (.slice (some ⟨g, 0, none⟩) n cap) n (rowCells l)) :
    (setSpot w g i s).ownsRow base 112 4 (.slice (some ⟨g, 0, none⟩) n cap) n (rowCells (l.set i s)) := by
  subst hn
  obtain ⟨hl, hr⟩ := h
  rcases hr with ⟨e, _⟩ | ⟨g', cap', cur, e, hb, hg, h1, h2, h3, h4⟩
  · cases e
  · cases e
    refine ⟨by rw [rowCells_length]; simp, .inr ⟨g, cap, _, rfl, hb, heap_setCell_same _ _ _ _ _ _ _ (heap_setCell_same _ _ _ _ _ _ _ (heap_setCell_same _ _ _ _ _ _ _ (heap_setCell_same _ _ _ _ _ _ _ hg))), h1, h2, by simpa using h3, ?_⟩⟩
    rw [← rowCells_set l s i hi, ← h4]
    simp [set4, List.take_set]

theorem ownsRow_drewN {w : World} {base e size n k : Nat} {v : Value} {xs : List Value} (h : w.ownsRow base e size v n xs) : (w.drewN k).ownsRow base e size v n xs := h

/-! ### the search in memory -/
def ledCells (l : List Nat) : List Value := l.map fun (k : Nat) => .int .u8 (k : Int)
structure SMv (X : List (Nat × Obj)) (base S : Nat) (vo vf : Value) (st : Dn.Srch) (vop vled : Value) (w : World) : Prop where
  le : base ≤ S
  blk : w.heap[S]? = some (.cells #[vo, vf, vop, .int .i64 st.turns, vled] 106 (0, 0))
  op : w.ownsRow base 112 4 vop st.op.length (rowCells st.op)
  led : w.ownsRow base 5 1 vled st.led.length (ledCells st.led)
  ne1 : vop.ownBlock ≠ some S
  ne2 : vled.ownBlock ≠ some S
  ne3 : vop.ownBlock = none ∨ vop.ownBlock ≠ vled.ownBlock
  fr : ∀ x ∈ X, w.heap[x.1]? = some x.2 ∧ x.1 ≠ S ∧ vop.ownBlock ≠ some x.1 ∧ vled.ownBlock ≠ some x.1
def SM (X : List (Nat × Obj)) (base S : Nat) (vo vf : Value) (st : Dn.Srch) (w : World) : Prop := ∃ vop vled, SMv X base S vo vf st vop vled w

theorem SMv.drewN {X : List (Nat × Obj)} {base S k : Nat} {vo vf vop vled : Value} {st : Dn.Srch} {w : World} (h : SMv X base S vo vf st vop vled w) : SMv X base S vo vf st vop vled (w.drewN k) :=
  ⟨h.le, h.blk, h.op, h.led, h.ne1, h.ne2, h.ne3, h.fr⟩

theorem Below.drewN' {B k : Nat} {w w' : World} (h : Below B w w') : Below B w (w'.drewN k) := ⟨h.os, h.tape, h.output, h.size, h.block⟩

theorem cell_of {w : World} {S k : Nat} {cs : Array Value} {t : TypeId} {fr : Nat × Nat} {v : Value} (h : w.heap[S]? = some (.cells cs t fr)) (hk : cs[k]? = some v) : w.cell? ⟨S, k, none⟩ = some v := by
  simp [World.cell?, h, hk]
theorem frozen_of {w : World} {S k : Nat} {cs : Array Value} {t : TypeId} (h : w.heap[S]? = some (.cells cs t (0, 0))) : w.frozen? ⟨S, k, none⟩ = false := by
  simp [World.frozen?, h]

/-- what a walk wants of the open spots -/
theorem owns_spot {w : World} {base n cap g : Nat} {l : List Dn.Spot} (h : w.ownsRow base 112 4 (.slice (some ⟨g, 0, none⟩) n cap) n (rowCells l)) {i : Nat} (hi : i < l.length) :
    w.cell? ⟨g, i * 4, none⟩ = some (.complex .f64 (fl (Dn.gt l i).x) (fl (Dn.gt l i).y)) ∧ w.cell? ⟨g, i * 4 + 1, none⟩ = some (.int .i64 (Dn.gt l i).far) ∧
    w.cell? ⟨g, i * 4 + 2, none⟩ = some (.int .i64 (Dn.gt l i).turn) ∧ w.cell? ⟨g, i * 4 + 3, none⟩ = some (.int .u8 (Dn.gt l i).kind) := by
  obtain ⟨hl, hr⟩ := h
  rcases hr with ⟨e, _⟩ | ⟨g', cap', cur, e, hb, hg, h1, h2, h3, h4⟩
  · cases e
  · cases e
    obtain ⟨a, b, c, d⟩ := rowCells_get l i hi
    rw [← h4] at a b c d
    have f : ∀ (j : Nat) (u : Value), (cur.toList.take (n * 4))[j]? = some u → cur[j]? = some u := by
      intro j u hu
      rw [List.getElem?_take] at hu
      split at hu
      · simpa using hu
      · cases hu
    exact ⟨cell_of hg (f _ _ a), cell_of hg (f _ _ b), cell_of hg (f _ _ c), cell_of hg (f _ _ d)⟩
theorem owns_frozen {w : World} {base n cap g e size : Nat} {xs : List Value} (h : w.ownsRow base e size (.slice (some ⟨g, 0, none⟩) n cap) n xs) (k : Nat) : w.frozen? ⟨g, k, none⟩ = false := by
  obtain ⟨hl, hr⟩ := h
  rcases hr with ⟨e, _⟩ | ⟨g', cap', cur, e, hb, hg, h1, h2, h3, h4⟩
  · cases e
  · cases e; exact frozen_of hg
theorem owns_slice {w : World} {base e size n : Nat} {v : Value} {xs : List Value} (h : w.ownsRow base e size v n xs) (hn : 0 < n) : ∃ g cap, v = .slice (some ⟨g, 0, none⟩) n cap ∧ base ≤ g ∧ g < w.heap.size ∧ n ≤ cap ∧ cap ≤ maxLen := by
  rcases h.2 with ⟨_, e⟩ | ⟨g, cap, cur, e, hb, hg, h1, h2, _⟩
  · omega
  · exact ⟨g, cap, e, hb, (Array.getElem?_eq_some_iff.1 hg).1, h1, h2⟩

theorem run_store_complex (P : Program) (w : World) (a : Addr) (m : Mode) (k : FloatKind) (x y : Nat) : (store a (.complex k x y) m).run P w = stored P w a (.complex k x y) m := run_store P w a _ m rfl
attribute [local go_sem] run_store_complex

theorem drewN2 (w : World) (a b : Nat) : (w.drewN a).drewN b = w.drewN (a + b) := by simp [World.drewN, Nat.add_assoc]

/-! ### Len, Less -/
set_option maxHeartbeats 400000 in
theorem len_at (a : Option Addr) (n cap : Nat) (w : World) : Calls Tryz.prog 194 #[.slice a n cap] w fun e w' => e = .returned (.int .i64 n) ∧ w = w' := by
  go_enter Tryz.func194, Tryz.ntmps194
  go_wp2
  go_ret
  exact ⟨rfl, rfl⟩

set_option maxHeartbeats 400000 in
theorem less_at (b n cap i j : Nat) (fi ti fj tj : Int) (w : World) (hi : i < n) (hj : j < n) (_hn : n ≤ 1000000)
    (hfi : w.cell? ⟨b, i * 4 + 1, none⟩ = some (.int .i64 fi)) (hti : w.cell? ⟨b, i * 4 + 2, none⟩ = some (.int .i64 ti))
    (hfj : w.cell? ⟨b, j * 4 + 1, none⟩ = some (.int .i64 fj)) (htj : w.cell? ⟨b, j * 4 + 2, none⟩ = some (.int .i64 tj)) :
    Calls Tryz.prog 195 #[.slice (some ⟨b, 0, none⟩) n cap, .int .i64 i, .int .i64 j] w fun e w' => e = .returned (.bool (if fi = fj then decide (ti < tj) else decide (fi < fj))) ∧ ∃ k, w' = w.drewN k := by
  have hi' : (i : Int) < n := by omega
  have hj' : (j : Int) < n := by omega
  by_cases h : fi = fj
  · subst h
    go_enter Tryz.func195, Tryz.ntmps195
    go_wp2_with fail
    go_quiet (fail)
    go_wp2_with fail
    go_quiet (fail)
    go_wp2_with fail
    go_ret
    exact ⟨by simp, _, rfl⟩
  · have h' : (fi == fj) = false := by simpa using h
    have h2 : (if fi = fj then decide (ti < tj) else decide (fi < fj)) = decide (fi < fj) := if_neg h
    rw [h2]
    go_enter Tryz.func195, Tryz.ntmps195
    go_wp2_with fail
    go_quiet (fail)
    go_wp2_with fail
    go_quiet (fail)
    go_wp2_with fail
    go_ret
    exact ⟨rfl, _, drewN2 _ _ _⟩

/-! ### Swap -/
set_option maxHeartbeats 400000 in
theorem swap_at (b n cap i j : Nat) (s t : Dn.Spot) (w : World) (hi : i < n) (hj : j < n) (_hn : n ≤ 1000000)
    (hp0 : w.cell? ⟨b, i * 4, none⟩ = some (.complex .f64 (fl s.x) (fl s.y))) (hp1 : w.cell? ⟨b, i * 4 + 1, none⟩ = some (.int .i64 s.far)) (hp2 : w.cell? ⟨b, i * 4 + 2, none⟩ = some (.int .i64 s.turn)) (hp3 : w.cell? ⟨b, i * 4 + 3, none⟩ = some (.int .u8 s.kind))
    (hq0 : w.cell? ⟨b, j * 4, none⟩ = some (.complex .f64 (fl t.x) (fl t.y))) (hq1 : w.cell? ⟨b, j * 4 + 1, none⟩ = some (.int .i64 t.far)) (hq2 : w.cell? ⟨b, j * 4 + 2, none⟩ = some (.int .i64 t.turn)) (hq3 : w.cell? ⟨b, j * 4 + 3, none⟩ = some (.int .u8 t.kind))
    (hf : ∀ k, w.frozen? ⟨b, k, none⟩ = false) (hst : i = j → s = t) :
    Calls Tryz.prog 196 #[.slice (some ⟨b, 0, none⟩) n cap, .int .i64 i, .int .i64 j] w fun e w' => e = .returned (.tuple #[]) ∧ ∃ k, w' = (setSpot (setSpot w b i t) b j s).drewN k := by
  have hi' : (i : Int) < n := by omega
  have hj' : (j : Int) < n := by omega
  by_cases hij : i = j
  · obtain rfl := hst hij
    clear hst
    subst hij
    go_enter Tryz.func196, Tryz.ntmps196
    go_wp2_with fail
    go_region
    go_end0
    exact ⟨rfl, 1, rfl⟩
  · have hji : ¬ j = i := fun h => hij h.symm
    clear hst
    go_enter Tryz.func196, Tryz.ntmps196
    go_wp2_with fail
    go_region
    go_end0
    exact ⟨rfl, 1, rfl⟩

theorem SMv.size {X : List (Nat × Obj)} {base S : Nat} {vo vf : Value} {st : Dn.Srch} {vop vled : Value} {w : World} (h : SMv X base S vo vf st vop vled w) : base < w.heap.size + 1 ∧ S < w.heap.size := by
  have := (Array.getElem?_eq_some_iff.1 h.blk).1
  have := h.le
  omega

theorem SM.of_setRow {X : List (Nat × Obj)} {base S g n cap : Nat} {vo vf : Value} {st : Dn.Srch} {vled : Value} {w w' : World} {l : List Dn.Spot}
    (h : SMv X base S vo vf st (.slice (some ⟨g, 0, none⟩) n cap) vled w) (hg : w.grownBy w' (some g)) 
    (ho : w'.ownsRow base 112 4 (.slice (some ⟨g, 0, none⟩) n cap) l.length (rowCells l)) : SMv X base S vo vf { st with op := l } (.slice (some ⟨g, 0, none⟩) n cap) vled w' := by
  have hs := h.size
  have e1 := h.ne1
  have e3 := h.ne3
  refine ⟨h.le, ?_, ho, h.led.kept hg ?_, h.ne1, h.ne2, h.ne3, fun x hx => ?_⟩
  · rw [hg.block S hs.2 (fun e => e1 (by rw [e]; rfl))]; exact h.blk
  · right
    intro e
    rcases e3 with e3 | e3
    · cases e3
    · exact e3 e.symm
  · obtain ⟨a, b, c, d⟩ := h.fr x hx
    exact ⟨(hg.block x.1 (Array.getElem?_eq_some_iff.1 a).1 (fun e => c (by rw [e]; rfl))).trans a, b, c, d⟩

theorem swapL_gt (l : List Dn.Spot) (i j : Nat) : Dn.swapL l i j = (l.set i (Dn.gt l j)).set j (Dn.gt l i) := rfl

end Go.Proofs.YtcclgodahlinbaaGreatDoor
