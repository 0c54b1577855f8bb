import Derived.Test.YtcclgodahlinbaaGreatDoorWPut
namespace Go.Proofs.YtcclgodahlinbaaGreatDoor
open Go.RowKit Go
set_option maxRecDepth 100000

/-- a builder in a block of its own -/
structure BldM (S : Nat) (ad vb : Value) (bs : List Value) (w : World) : Prop where
  blk : w.heap[S]? = some (.cells #[ad, vb] 74 (0, 0))
  adr : ad = .pointer none ∨ ad = .pointer (some ⟨S, 0, none⟩)
  own : w.ownsRow (S + 1) 5 1 vb bs.length bs

theorem lies_bld : liesAt Tryz.prog Tryz.prog.depth 74 (2 / Tryz.prog.cellsOf 74) 0 74 1 = true := by kernel_rfl

theorem BldM.lt {S : Nat} {ad vb : Value} {bs : List Value} {w : World} (h : BldM S ad vb bs w) : S < w.heap.size := (Array.getElem?_eq_some_iff.1 h.blk).1
theorem BldM.ne {S : Nat} {ad vb : Value} {bs : List Value} {w : World} (h : BldM S ad vb bs w) : vb.ownBlock ≠ some S := owns_ne h.own h.blk (by decide)
theorem BldM.set1 {S : Nat} {ad vb : Value} {bs : List Value} {w : World} (h : BldM S ad vb bs w) : BldM S (.pointer (some ⟨S, 0, none⟩)) vb bs (w.setCell ⟨S, 0, none⟩ (.pointer (some ⟨S, 0, none⟩))) :=
  ⟨heap_setCell_same _ _ _ _ _ _ _ h.blk, .inr rfl, h.own.kept (grownBy_setCell _ _ _ _) (.inr h.ne)⟩

set_option maxHeartbeats 1000000 in
theorem copyCheck_bld {S : Nat} {ad vb : Value} {bs : List Value} {w : World} (h : BldM S ad vb bs w) :
    Calls Tryz.prog 108 #[.pointer (some ⟨S, 0, none⟩)] w fun e w' => e = .returned (.tuple #[]) ∧ BldM S (.pointer (some ⟨S, 0, none⟩)) vb bs w' ∧ Below S w w' ∧ Lib.OthersKept 5 (some S) w w' := by
  obtain ⟨j, hj, hjs⟩ := Option.map_eq_some_iff.1 size_builder
  have c1 : w.cell? ⟨S, 0, none⟩ = some ad := cell_of h.blk rfl
  have hsh : w.shape? S = some (74, 2) := by simp [World.shape?, h.blk]
  have hfz : w.frozen? ⟨S, 0, none⟩ = false := frozen_of h.blk
  rcases h.adr with rfl | rfl
  · go_enter Tryz.func108, Tryz.ntmps108
    go_wp2_with fail
    rw [Lib.run_to_unsafe w ⟨S, 0, none⟩ Tryz.underlying71 Tryz.underlying190 hj (by rw [hjs]; decide) hsh (by show 0 < 2; decide)]
    simp only [Result.andThen]
    rw [Oper.upon_value]
    go_wp2_with fail
    rw [run_callFunc_extern Tryz.func132 (by kernel_rfl) (by kernel_rfl) (by kernel_rfl) (e := Extern.AbiNoEscape.same) (by kernel_rfl)]
    rw [Lib.run_noEscape]
    simp only [Result.andThen]
    rw [Oper.upon_value]
    go_wp2
    rw [Lib.run_from_unsafe w ⟨S, 0, none⟩ Tryz.underlying190 Tryz.underlying71 hj hsh lies_bld]
    simp only [Result.andThen]
    rw [Oper.upon_value]
    go_wp2
    go_end0
    exact ⟨rfl, h.set1, (Below.refl _ w).setCell (p := ⟨S, 0, none⟩) (Nat.le_refl _) _, (Lib.OthersKept.refl _ _ w).setCell ⟨S, 0, none⟩ rfl _⟩
  · go_enter Tryz.func108, Tryz.ntmps108
    go_wp2
    rw [Lib.run_neq_ptr_same w _ Tryz.underlying71 hj]
    go_wp2
    go_end0
    exact ⟨rfl, h, Below.refl _ _, Lib.OthersKept.refl _ _ _⟩
theorem BldM.put2 {S : Nat} {ad vb : Value} {bs bs' : List Value} {w w2 : World} (h : BldM S ad vb bs w) (hb : w2.heap[S]? = w.heap[S]?) {vb' : Value} (hown : w2.ownsRow (S + 1) 5 1 vb' bs'.length bs') :
    BldM S ad vb' bs' (w2.setCell ⟨S, 1, none⟩ vb') := by
  have hb2 := hb.trans h.blk
  exact ⟨heap_setCell_same _ _ _ _ _ _ _ hb2, h.adr, hown.kept (grownBy_setCell _ _ _ _) (.inr (owns_ne hown hb2 (by decide)))⟩

set_option maxHeartbeats 2000000 in
theorem writeString_bld {S : Nat} {ad vb : Value} {bs : List Value} {w : World} (s : ByteArray) (h : BldM S ad vb bs w) (hlen : bs.length + s.size ≤ 140737488355328) :
    Calls Tryz.prog 71 #[.pointer (some ⟨S, 0, none⟩), .string s] w fun e w' => e = .returned (.tuple #[.int .i64 s.size, .nilIface]) ∧ ∃ vb', BldM S (.pointer (some ⟨S, 0, none⟩)) vb' (bs ++ Lib.strCells s) w' ∧ Below S w w' ∧ Lib.OthersKept 5 (some S) w w' := by
  obtain ⟨i0, hi, hz0, hz1, hz2⟩ := info_parts info_byte
  have hlt := h.lt
  go_enter Tryz.func71, Tryz.ntmps71
  go_wp2_with (go_at_call 108; refine (copyCheck_bld h).mono ?_)
  rintro e w1 ⟨rfl, h1, hb1, hk1⟩
  have hz := hb1.size
  have hlt1 := h1.lt
  have c2 : w1.cell? ⟨S, 1, none⟩ = some vb := cell_of h1.blk rfl
  go_wp2_with (at_builtin; refine Lib.wpList_append_own_string _ rfl _ _ 72 9 rfl (S + 1) 5 i0 Tryz.underlying72 Tryz.underlying9 hi hz0 hz1 hz2 _ _ _ rfl h1.own s rfl (by unfold maxLen; omega) (by omega) (by omega) ?_)
  intro vb' w2 hown' hgrow _
  have hb2 : w2.heap[S]? = w1.heap[S]? := hgrow.block S hlt1 (fun e => h1.ne e.symm)
  have d2 : w2.cell? ⟨S, 1, none⟩ = some vb := cell_of (hb2.trans h1.blk) rfl
  have f2 : w2.frozen? ⟨S, 1, none⟩ = false := frozen_of (hb2.trans h1.blk)
  obtain ⟨ab, cb, rfl⟩ := owns_isSlice hown'
  go_wp2
  go_ret2
  refine ⟨rfl, _, h1.put2 hb2 (bs' := bs ++ Lib.strCells s) (by simpa [Lib.strCells_length] using hown'), ?_, (hk1.grown hgrow (owns_kind h1.own)).setCell ⟨S, 1, none⟩ rfl _⟩
  exact (hb1.grown hgrow (by omega) (fun k hk => by have := (h1.own.lt k hk).1; omega)).setCell (p := ⟨S, 1, none⟩) (Nat.le_refl _) _

set_option maxHeartbeats 1000000 in
theorem bstring_bld {S : Nat} {t : List UInt8} {w : World} (h : ∃ ad vb, BldM S ad vb (Lib.byteCells t) w) :
    Calls Tryz.prog 67 #[.pointer (some ⟨S, 0, none⟩)] w fun e w' => e = .returned (.string ⟨t.toArray⟩) ∧ Below S w w' ∧ Lib.OthersKept 5 (some S) w w' := by
  obtain ⟨ad, vb, h⟩ := h
  have hlt := h.lt
  have hUN := fun (W : World) (q : Option Addr) => Lib.run_unsafeString_none (P := Tryz.prog) W 172 3 9 q
  have c2 : w.drew.cell? ⟨S, 1, none⟩ = some vb := cell_of (w := w.drew) h.blk rfl
  have hown := h.own
  rw [Lib.byteCells_length] at hown
  rcases hown.2 with ⟨rfl, h0⟩ | ⟨g, cap, cur, rfl, hbg, hg, hnc, hcm, hcs, htake⟩
  · obtain rfl : t = [] := List.eq_nil_of_length_eq_zero h0
    have hSD : (Builtin.unsafeSliceData_ #[72] 172 #[.slice none 0 0]).run Tryz.prog w.drew = .ok (.pointer none) w.drew := rfl
    go_enter Tryz.func67, Tryz.ntmps67
    go_wp2
    go_region
    all_goals (go_wp2; go_ret; exact ⟨rfl, Below.drew (Below.refl S w), (Lib.OthersKept.refl _ _ w).drew⟩)
  · by_cases ht0 : t = []
    · subst ht0
      by_cases hc0 : cap = 0
      · subst hc0
        have hSD : (Builtin.unsafeSliceData_ #[72] 172 #[.slice (some ⟨g, 0, none⟩) 0 0]).run Tryz.prog w.drew = .ok (.pointer (some ⟨w.heap.size, 0, none⟩)) (w.drew.alloc (.view ⟨g, 0, none⟩ 5)) :=
          Lib.run_unsafeSliceData_zero w.drew _ _ _ Tryz.underlying172 _ _ (5, cur.size) (by have hg' : w.drew.heap[g]? = some (.cells cur 5 (0, 0)) := hg; simp [World.shape?, hg'])
        have c2w : w.cell? ⟨S, 1, none⟩ = some (.slice (some ⟨g, 0, none⟩) 0 0) := c2
        have c2' : (w.drew.alloc (.view ⟨g, 0, none⟩ 5)).cell? ⟨S, 1, none⟩ = some (.slice (some ⟨g, 0, none⟩) 0 0) := (World.cell?_of_block (Below.heap_alloc w.drew _ S hlt)).trans c2
        go_enter Tryz.func67, Tryz.ntmps67
        go_wp2
        go_region
        all_goals (go_wp2; go_ret; exact ⟨rfl, ((Below.refl S w).drew).alloc (by show S ≤ w.heap.size; omega) _, ((Lib.OthersKept.refl _ _ w).drew).alloc _⟩)
      · have hSD : (Builtin.unsafeSliceData_ #[72] 172 #[.slice (some ⟨g, 0, none⟩) 0 cap]).run Tryz.prog w.drew = .ok (.pointer (some ⟨g, 0, none⟩)) w.drew := Lib.run_unsafeSliceData_row _ _ _ _ _ _ (by omega)
        go_enter Tryz.func67, Tryz.ntmps67
        go_wp2
        go_region
        all_goals (go_wp2; go_ret; exact ⟨rfl, (Below.refl S w).drew, (Lib.OthersKept.refl _ _ w).drew⟩)
    · have hl0 : t.length ≠ 0 := by simpa using ht0
      have hSD : (Builtin.unsafeSliceData_ #[72] 172 #[.slice (some ⟨g, 0, none⟩) t.length cap]).run Tryz.prog w.drew = .ok (.pointer (some ⟨g, 0, none⟩)) w.drew :=
        Lib.run_unsafeSliceData_row _ _ _ _ _ _ (by omega)
      have hUS : (Builtin.unsafeString_ #[172, 3] 9 #[.pointer (some ⟨g, 0, none⟩), .int .i64 t.length]).run Tryz.prog w.drew = .ok (.string ⟨t.toArray⟩) (w.drew.freeze ⟨g, 0, none⟩ t.length) := by
        refine Lib.run_unsafeString_row w.drew 172 3 9 5 Tryz.underlying172 (by kernel_rfl) g cur.size (by have hg' : w.drew.heap[g]? = some (.cells cur 5 (0, 0)) := hg; simp [World.shape?, hg']) t ht0 (by omega) (by unfold maxLen at hcm; omega) ?_
        intro j x hx
        have := hown.cells (g := g) rfl j (.int .u8 x.toNat) (by simp [Lib.byteCells, hx])
        exact this
      go_enter Tryz.func67, Tryz.ntmps67
      go_wp2
      go_region
      all_goals (go_wp2; go_ret; exact ⟨rfl, Lib.below_freeze (Below.drew (Below.refl S w)) (p := ⟨g, 0, none⟩) (by show S ≤ g; omega) _, ((Lib.OthersKept.refl _ _ w).drew).freeze ⟨g, 0, none⟩ _ ⟨cur, _, hg⟩⟩)
end Go.Proofs.YtcclgodahlinbaaGreatDoor
