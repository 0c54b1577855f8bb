import Derived.Test.YtcclgodahlinbaaGreatDoorWSewM
namespace Go.Proofs.YtcclgodahlinbaaGreatDoor
open Go.RowKit Go Go.Shelf
attribute [local go_sem] Oper.semAt_some
set_option maxRecDepth 100000

theorem alloc4 (w : World) (A B C D : Obj) : let W := (((w.alloc A).alloc B).alloc C).alloc D
    W.heap.size = w.heap.size + 4 ∧ Below w.heap.size w W ∧ W.heap[w.heap.size]? = some A ∧ W.heap[w.heap.size + 1]? = some B ∧ W.heap[w.heap.size + 2]? = some C ∧ W.heap[w.heap.size + 3]? = some D := by
  intro W
  have e1 : (w.alloc A).heap.size = w.heap.size + 1 := by simp
  have e2 : ((w.alloc A).alloc B).heap.size = w.heap.size + 2 := by simp
  have e3 : (((w.alloc A).alloc B).alloc C).heap.size = w.heap.size + 3 := by simp
  refine ⟨by simp [W], ((((Below.refl _ w).alloc (Nat.le_refl _) A).alloc (by simp) B).alloc (by omega) C).alloc (by omega) D, ?_, ?_, ?_, ?_⟩
  · exact (Below.heap_alloc _ D _ (by omega)).trans ((Below.heap_alloc _ C _ (by omega)).trans ((Below.heap_alloc _ B _ (by omega)).trans (World.alloc_heap_new w A)))
  · have := World.alloc_heap_new (w.alloc A) B
    rw [e1] at this
    exact (Below.heap_alloc _ D _ (by omega)).trans ((Below.heap_alloc _ C _ (by omega)).trans this)
  · have := World.alloc_heap_new ((w.alloc A).alloc B) C
    rw [e2] at this
    exact (Below.heap_alloc _ D _ (by omega)).trans this
  · have := World.alloc_heap_new (((w.alloc A).alloc B).alloc C) D
    rw [e3] at this
    exact this

/-- the mark that a range over a function leaves -/
def markD (D : Nat) : Deferred := { target := .collected D, args := #[] }
def Marks (Ds : List Nat) (w : World) : Prop := Ds.Nodup ∧ ∀ D ∈ Ds, w.heap[D]? = some (.deferred (some []))

theorem range86 : List.range 86 = [0, 1, 2, 3, 4, 5, 6, 7, 8, 9, 10, 11, 12, 13, 14, 15, 16, 17, 18, 19, 20, 21, 22, 23, 24, 25, 26, 27, 28, 29, 30, 31, 32, 33, 34, 35, 36, 37, 38, 39, 40, 41, 42, 43, 44, 45, 46, 47, 48, 49, 50, 51, 52, 53, 54, 55, 56, 57, 58, 59, 60, 61, 62, 63, 64, 65, 66, 67, 68, 69, 70, 71, 72, 73, 74, 75, 76, 77, 78, 79, 80, 81, 82, 83, 84, 85] := by decide
theorem arr86 {A : Array Value} {x0 x1 x2 x3 x4 x6 x7 x8 x9 x10 x34 x35 : Value} (hz : A.size = 86) (h0 : A[0]? = some x0) (h1 : A[1]? = some x1) (h2 : A[2]? = some x2) (h3 : A[3]? = some x3) (h4 : A[4]? = some x4) (h6 : A[6]? = some x6) (h7 : A[7]? = some x7) (h8 : A[8]? = some x8) (h9 : A[9]? = some x9) (h10 : A[10]? = some x10) (h34 : A[34]? = some x34) (h35 : A[35]? = some x35) : ∃ u : Nat → Value, A = #[x0, x1, x2, x3, x4, u 5, x6, x7, x8, x9, x10, u 11, u 12, u 13, u 14, u 15, u 16, u 17, u 18, u 19, u 20, u 21, u 22, u 23, u 24, u 25, u 26, u 27, u 28, u 29, u 30, u 31, u 32, u 33, x34, x35, u 36, u 37, u 38, u 39, u 40, u 41, u 42, u 43, u 44, u 45, u 46, u 47, u 48, u 49, u 50, u 51, u 52, u 53, u 54, u 55, u 56, u 57, u 58, u 59, u 60, u 61, u 62, u 63, u 64, u 65, u 66, u 67, u 68, u 69, u 70, u 71, u 72, u 73, u 74, u 75, u 76, u 77, u 78, u 79, u 80, u 81, u 82, u 83, u 84, u 85] := by
  refine ⟨fun i => A.getD i undef, ?_⟩
  have e : A.toList = (List.range 86).map (fun i => A.getD i undef) := by
    apply List.ext_getElem
    · simp [hz]
    · intro i h1 h2
      simp at h1
      simp [Array.getD, h1]
  have f : ∀ i x, A[i]? = some x → A.getD i undef = x := by intro i x hx; rw [Array.getD_eq_getD_getElem?, hx]; rfl
  rw [range86] at e
  simp only [List.map_cons, List.map_nil] at e
  rw [f 0 _ h0, f 1 _ h1, f 2 _ h2, f 3 _ h3, f 4 _ h4, f 6 _ h6, f 7 _ h7, f 8 _ h8, f 9 _ h9, f 10 _ h10, f 34 _ h34, f 35 _ h35] at e
  exact Array.toList_inj.1 e

theorem alloc2 (w : World) (A B : Obj) : let W := (w.alloc A).alloc B
    W.heap.size = w.heap.size + 2 ∧ Below w.heap.size w W ∧ W.heap[w.heap.size]? = some A ∧ W.heap[w.heap.size + 1]? = some B := by
  intro W
  have e1 : (w.alloc A).heap.size = w.heap.size + 1 := by simp
  refine ⟨by simp [W], ((Below.refl _ w).alloc (Nat.le_refl _) A).alloc (by simp) B, ?_, ?_⟩
  · exact (Below.heap_alloc _ B _ (by omega)).trans (World.alloc_heap_new w A)
  · have := World.alloc_heap_new (w.alloc A) B
    rw [e1] at this
    exact this
theorem textL_sub (l : List ByteArray) (i n : Nat) : (textL ((l.drop i).take n)).length ≤ (textL l).length := by
  conv => rhs; rw [← List.take_append_drop i l, textL_append, List.length_append, ← List.take_append_drop n (l.drop i), textL_append, List.length_append]
  omega
theorem SewA.below {S : Nat} {vl : Value} {t : List UInt8} {en mv : Int} {w w' : World} (h : SewA S vl t en mv w) (hb : Below w.heap.size w w') : SewA S vl t en mv w' := by
  obtain ⟨ad, vb, h⟩ := h
  exact ⟨ad, vb, (hb.block S h.lt).trans h.blk, h.adr, owns_below h.own hb (fun k e => (h.own.lt k e).2)⟩
theorem SewA.grow {S : Nat} {vl : Value} {t : List UInt8} {en mv : Int} {W W' : World} {row : Option Nat} (h : SewA S vl t en mv W) (hg : W.grownBy W' row) (hr : ∀ r, row = some r → ∃ o : Obj, W.heap[r]? = some o ∧ o.isCells = false) : SewA S vl t en mv W' := by
  obtain ⟨ad, vb, h⟩ := h
  have hS : some S ≠ row := by
    intro e
    obtain ⟨o, ho, hc⟩ := hr S e.symm
    rw [h.blk] at ho; cases ho; cases hc
  refine ⟨ad, vb, (hg.block S h.lt hS).trans h.blk, h.adr, h.own.kept hg ?_⟩
  cases hb : vb.ownBlock with
  | none => exact .inl rfl
  | some g =>
    right
    intro e
    obtain ⟨cur, hc⟩ := owns_block h.own hb
    obtain ⟨o, ho, hn⟩ := hr g e.symm
    rw [hc] at ho; cases ho; cases hn
theorem others_grow {e : TypeId} {b : Option Nat} {w W W' : World} {row : Option Nat} (h : Lib.OthersKept e b w W) (hg : W.grownBy W' row) (hz : w.heap.size ≤ W.heap.size) (hr : ∀ r, row = some r → w.heap.size ≤ r) : Lib.OthersKept e b w W' := by
  intro k o hk hb ho
  have hl := (Array.getElem?_eq_some_iff.1 hk).1
  rw [hg.block k (by omega) (by intro e; have := hr k e.symm; omega)]
  exact h k o hk hb ho
theorem others_below {e : TypeId} {b : Option Nat} {w w' : World} (h : Below w.heap.size w w') : Lib.OthersKept e b w w' := fun k _ hk _ _ => (h.block k (Array.getElem?_eq_some_iff.1 hk).1).trans hk
theorem keeps_below {w w' : World} (h : Below w.heap.size w w') : KeepsOthers w w' := ⟨h.size, fun k _ hk _ => (h.block k (Array.getElem?_eq_some_iff.1 hk).1).trans hk⟩
theorem keeps_others {S : Nat} {w w' : World} {cs : Array Value} {t : TypeId} {fr : Nat × Nat} (hS : w.heap[S]? = some (.cells cs t fr)) (hz : w.heap.size ≤ w'.heap.size) (h : Lib.OthersKept 5 (some S) w w') : KeepsOthers w w' :=
  ⟨hz, fun k o hk hc => h k o hk (by intro e; cases e; rw [hS] at hk; cases hk; cases hc) (by rintro c z rfl; cases hc)⟩

theorem leaves_marks {fn : Func} {tmps : Array Value} {R : Ending → World → Prop} {n : Nat} {P : Program} (B : Nat) (G : World → Prop)
    (hG : ∀ W D, B ≤ D → G W → W.heap[D]? = some (.deferred (some [])) → G (W.putObj D (.deferred none))) (hfin : ∀ W, G W → ∃ v, (results fn tmps).run P W = .ok v W ∧ R (.returned v) W) :
    ∀ Ds W, Marks Ds W → (∀ D ∈ Ds, B ≤ D) → G W → LeavesInM Fence.wide n P fn tmps R (Ds.map markD) .returning W := by
  intro Ds
  induction Ds with
  | nil => intro W _ _ hg; exact hfin W hg
  | cons D Ds ih =>
    intro W hm hB hg
    have hD := hm.2 D (by simp)
    refine ⟨by simp, .inl ⟨D, _, rfl, run_takeDeferred hD, ih _ ⟨(List.nodup_cons.1 hm.1).2, fun D' h' => ?_⟩ (fun D' h' => hB D' (by simp [h'])) (hG W D (hB D (by simp)) hg hD)⟩⟩
    have hne : D' ≠ D := fun e => (List.nodup_cons.1 hm.1).1 (e ▸ h')
    rw [World.putObj_heap_other hne]
    exact hm.2 D' (by simp [h'])
/-- a hunk has been sewn in -/
def SewFin (S : Nat) (w : World) (vl : Value) (b6 : Nat) (st : SewS) (sm : SeamM) (W : World) : Prop :=
  SewA S vl st.t (st.en : Nat) st.mv W ∧ W.heap[b6]? = some (.cells #[.bool sm.done, .int .i64 sm.at', .int .i64 (sm.fz : Nat)] 63 (0, 0)) ∧ Below S w W ∧ Lib.OthersKept 5 (some S) w W
theorem SewFin.grow {S B : Nat} {w : World} {vl : Value} {b6 : Nat} {st : SewS} {sm : SeamM} {W W' : World} {row : Option Nat} (h : SewFin S w vl b6 st sm W) (hg : W.grownBy W' row)
    (hr : ∀ r, row = some r → B ≤ r ∧ ∃ o : Obj, W.heap[r]? = some o ∧ o.isCells = false) (hB : w.heap.size ≤ B) (hS : S < w.heap.size) : SewFin S w vl b6 st sm W' := by
  obtain ⟨h1, h2, h3, h4⟩ := h
  refine ⟨h1.grow hg (fun r e => (hr r e).2), ?_, h3.grown hg (by have := h3.size; omega) (fun k e => by have := (hr k e).1; omega), others_grow h4 hg h3.size (fun r e => by have := (hr r e).1; omega)⟩
  have hl := (Array.getElem?_eq_some_iff.1 h2).1
  rw [hg.block b6 hl ?_]
  · exact h2
  · intro e
    obtain ⟨_, o, ho, hc⟩ := hr b6 e.symm
    rw [h2] at ho; cases ho; cases hc
theorem SewA.setOther {S b o : Nat} {vl v : Value} {t : List UInt8} {en mv : Int} {w : World} {cs : Array Value} {ty : TypeId} {fr : Nat × Nat} (h : SewA S vl t en mv w) (hb : w.heap[b]? = some (.cells cs ty fr)) (ht : 5 ≠ ty) (hS : b ≠ S) : SewA S vl t en mv (w.setCell ⟨b, o, none⟩ v) :=
  let ⟨ad, vb, h⟩ := h
  ⟨ad, vb, (heap_setCell_other _ _ _ _ _ (fun e => hS e.symm)).trans h.blk, h.adr, h.own.kept (grownBy_setCell _ _ _ _) (.inr (owns_ne h.own hb ht))⟩
theorem others_set {e : TypeId} {b : Option Nat} {w W : World} {k o : Nat} {v : Value} (h : Lib.OthersKept e b w W) (hz : w.heap.size ≤ W.heap.size) (hk : w.heap.size ≤ k) : Lib.OthersKept e b w (W.setCell ⟨k, o, none⟩ v) :=
  others_grow h (grownBy_setCell _ _ _ _) hz (fun r e => by cases e; exact hk)

theorem sew_final {S : Nat} {w W W10 : World} {vl : Value} {t : List UInt8} {en : Nat} {mv : Int} {f : Nat} {Ds : List Nat} (hw7 : Below w.heap.size w W) (htag : ∃ cs, W.heap[S]? = some (.cells cs 76 (0, 0)))
    (hs : SewA S vl t (en : Int) mv W10) (m6 : W10.heap[w.heap.size + 2]? = some (.cells #[.bool false, .int .i64 0, .int .i64 0] 63 (0, 0))) (hb : Below S W W10) (jo : Lib.OthersKept 5 (some S) W W10) (hS : S < w.heap.size)
    (hm : ∀ D ∈ Ds, W.heap[D]? = some (.deferred (some []))) :
    let WF := (((W10.setCell ⟨w.heap.size + 1 + 1, 0, none⟩ (.bool true)).setCell ⟨w.heap.size + 1 + 1, 1, none⟩ (.int .i64 mv)).setCell ⟨w.heap.size + 1 + 1, 2, none⟩ (.int .i64 (f : Int))).drew
    KeepsOthers W WF ∧ SewFin S w vl (w.heap.size + 2) ⟨t, en, mv⟩ ⟨true, mv, f⟩ WF ∧ ∀ D ∈ Ds, WF.heap[D]? = some (.deferred (some [])) := by
  intro WF
  obtain ⟨cs7, hcs7⟩ := htag
  have n1 := heap_setCell_same W10 (w.heap.size + 2) 0 (.bool true) _ _ _ m6
  have n2 := heap_setCell_same (W10.setCell ⟨w.heap.size + 2, 0, none⟩ (.bool true)) (w.heap.size + 2) 1 (.int .i64 mv) _ _ _ n1
  have n3 := heap_setCell_same ((W10.setCell ⟨w.heap.size + 2, 0, none⟩ (.bool true)).setCell ⟨w.heap.size + 2, 1, none⟩ (.int .i64 mv)) (w.heap.size + 2) 2 (.int .i64 (f : Int)) _ _ _ n2
  have hz := hb.size
  have hz7 := hw7.size
  have hbw : Below S w W10 := (hw7.mono (by omega)).trans hb
  have how : Lib.OthersKept 5 (some S) w W10 := (others_below hw7).trans jo
  have hzz : w.heap.size ≤ W10.heap.size := by omega
  refine ⟨(((keeps_others hcs7 hz jo).trans (KeepsOthers.setCell _ _ _)).trans (KeepsOthers.setCell _ _ _)).trans ((KeepsOthers.setCell _ _ _).trans (KeepsOthers.drew _)), ⟨?_, n3, ?_, ?_⟩, ?_⟩
  · have h1 := hs.setOther (o := 0) (v := .bool true) m6 (by decide) (by omega)
    have h2 := h1.setOther (o := 1) (v := .int .i64 mv) n1 (by decide) (by omega)
    have h3 := h2.setOther (o := 2) (v := .int .i64 (f : Int)) n2 (by decide) (by omega)
    exact h3.drew
  · exact (((hbw.setCell (p := ⟨w.heap.size + 1 + 1, 0, none⟩) (by show S ≤ w.heap.size + 1 + 1; omega) _).setCell (p := ⟨w.heap.size + 1 + 1, 1, none⟩) (by show S ≤ w.heap.size + 1 + 1; omega) _).setCell (p := ⟨w.heap.size + 1 + 1, 2, none⟩) (by show S ≤ w.heap.size + 1 + 1; omega) _).drew
  · exact others_set (others_set (others_set how hzz (by omega)) (by simpa using hzz) (by omega)) (by simpa using hzz) (by omega)
  · intro D hD
    have h1 := hm D hD
    have hDS : some D ≠ some S := by intro e; cases e; rw [hcs7] at h1; cases h1
    have h2 := jo D _ h1 hDS (by intro c z e; cases e)
    have hDb : D ≠ w.heap.size + 1 + 1 := by intro e; subst e; rw [m6] at h2; cases h2
    show (((W10.setCell ⟨w.heap.size + 1 + 1, 0, none⟩ (.bool true)).setCell ⟨w.heap.size + 1 + 1, 1, none⟩ (.int .i64 mv)).setCell ⟨w.heap.size + 1 + 1, 2, none⟩ (.int .i64 (f : Int))).heap[D]? = _
    rw [heap_setCell_other _ _ _ _ _ hDb, heap_setCell_other _ _ _ _ _ hDb, heap_setCell_other _ _ _ _ _ hDb]
    exact h2
theorem sew_leave {S : Nat} {w : World} {vl : Value} {st : SewS} {sm : SeamM} {tmps : Array Value} {Ds : List Nat} {W : World} (hfin : SewFin S w vl (w.heap.size + 2) st sm W) (hS : S < w.heap.size) (hM : Marks Ds W) (hB : ∀ D ∈ Ds, w.heap.size ≤ D)
    (hres : ∀ W : World, W.cell? ⟨w.heap.size + 1 + 1, 0, none⟩ = some (.bool sm.done) → W.cell? ⟨w.heap.size + 1 + 1, 1, none⟩ = some (.int .i64 sm.at') → W.cell? ⟨w.heap.size + 1 + 1, 2, none⟩ = some (.int .i64 (sm.fz : Nat)) → (results Tryz.f29 tmps).run Tryz.prog W = .ok (.agg #[.bool sm.done, .int .i64 sm.at', .int .i64 (sm.fz : Nat)]) W) :
    LeavesInM Fence.wide 9 Tryz.prog Tryz.f29 tmps (fun e w' => e = .returned (.agg #[.bool sm.done, .int .i64 sm.at', .int .i64 (sm.fz : Nat)]) ∧ SewA S vl st.t (st.en : Nat) st.mv w' ∧ Below S w w' ∧ Lib.OthersKept 5 (some S) w w') (Ds.map markD) .returning W := by
  refine leaves_marks w.heap.size (fun W => SewFin S w vl (w.heap.size + 2) st sm W) (fun W D hD hg hd => hg.grow (grownBy_putObj' W D _) (fun r e => by cases e; exact ⟨hD, _, hd, rfl⟩) (Nat.le_refl _) hS) (fun W hg => ?_) Ds W hM hB hfin
  obtain ⟨g1, g2, g3, g4⟩ := hg
  exact ⟨_, hres W (cell_of g2 rfl) (cell_of g2 rfl) (cell_of g2 rfl), rfl, g1, g3, g4⟩
theorem sewFrom_some {T : List ByteArray} {ei : Nat} {mv : Int} {h : HunkM} {f n : Nat} {x : Int} (hn : 0 < n) (hx : sewAt T ei mv h f = some x) : sewFrom T ei mv h f n = some (f, x) := by
  obtain ⟨m, rfl⟩ : ∃ m, n = m + 1 := ⟨n - 1, by omega⟩
  unfold sewFrom; rw [hx]
theorem sewFrom_none {T : List ByteArray} {ei : Nat} {mv : Int} {h : HunkM} {f n : Nat} (hx : sewAt T ei mv h f = none) : sewFrom T ei mv h f (n + 1) = sewFrom T ei mv h (f + 1) n := by
  conv => lhs; unfold sewFrom
  rw [hx]
theorem sew_none {S : Nat} {w W : World} {vl : Value} {s : SewS} (hS : S < w.heap.size) (hs : SewA S vl s.t (s.en : Nat) s.mv W) (m6 : W.heap[w.heap.size + 2]? = some (.cells #[.bool false, .int .i64 0, .int .i64 0] 63 (0, 0))) (hb : Below w.heap.size w W) :
    SewFin S w vl (w.heap.size + 2) s ⟨false, 0, 0⟩ (((W.setCell ⟨w.heap.size + 1 + 1, 0, none⟩ (.bool false)).setCell ⟨w.heap.size + 1 + 1, 1, none⟩ (.int .i64 0)).setCell ⟨w.heap.size + 1 + 1, 2, none⟩ (.int .i64 0)) := by
  have n1 := heap_setCell_same W (w.heap.size + 2) 0 (.bool false) _ _ _ m6
  have n2 := heap_setCell_same (W.setCell ⟨w.heap.size + 2, 0, none⟩ (.bool false)) (w.heap.size + 2) 1 (.int .i64 0) _ _ _ n1
  have n3 := heap_setCell_same ((W.setCell ⟨w.heap.size + 2, 0, none⟩ (.bool false)).setCell ⟨w.heap.size + 2, 1, none⟩ (.int .i64 0)) (w.heap.size + 2) 2 (.int .i64 0) _ _ _ n2
  have hbw : Below S w W := hb.mono (by omega)
  have how : Lib.OthersKept 5 (some S) w W := others_below hb
  have hzz := hb.size
  refine ⟨?_, n3, ?_, ?_⟩
  · have h1 := hs.setOther (o := 0) (v := .bool false) m6 (by decide) (by omega)
    have h2 := h1.setOther (o := 1) (v := .int .i64 0) n1 (by decide) (by omega)
    exact h2.setOther (o := 2) (v := .int .i64 0) n2 (by decide) (by omega)
  · exact ((hbw.setCell (p := ⟨w.heap.size + 1 + 1, 0, none⟩) (by show S ≤ w.heap.size + 1 + 1; omega) _).setCell (p := ⟨w.heap.size + 1 + 1, 1, none⟩) (by show S ≤ w.heap.size + 1 + 1; omega) _).setCell (p := ⟨w.heap.size + 1 + 1, 2, none⟩) (by show S ≤ w.heap.size + 1 + 1; omega) _
  · exact others_set (others_set (others_set how hzz (by omega)) (by simpa using hzz) (by omega)) (by simpa using hzz) (by omega)
end Go.Proofs.YtcclgodahlinbaaGreatDoor
