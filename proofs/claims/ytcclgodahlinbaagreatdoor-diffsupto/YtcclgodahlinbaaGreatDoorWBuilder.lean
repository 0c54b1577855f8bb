import Derived.Test.YtcclgodahlinbaaGreatDoorWPiece
import Derived.Lib.OthersKept
import Derived.Lib.Builder
import Derived.Lib.AppendStr
namespace Go.Proofs.YtcclgodahlinbaaGreatDoor
open Go.RowKit Go
set_option maxRecDepth 100000

/-- a sewing in memory -/
structure SewM (S : Nat) (vl ad vb : Value) (bs : List Value) (en mv : Int) (w : World) : Prop where
  blk : w.heap[S]? = some (.cells #[vl, ad, vb, .int .i64 en, .int .i64 mv] 76 (0, 0))
  adr : ad = .pointer none ∨ ad = .pointer (some ⟨S, 1, none⟩)
  own : w.ownsRow (S + 1) 5 1 vb bs.length bs

theorem info_byte : (Tryz.prog.info? 5).map (fun i => (i.zero, i.size, i.bytes)) = some (some (.int .u8 0), 1, 1) := by kernel_rfl
theorem size_builder : (Tryz.prog.info? 74).map (·.size) = some 2 := by kernel_rfl
theorem lies_builder : liesAt Tryz.prog Tryz.prog.depth 76 (5 / Tryz.prog.cellsOf 76) 1 74 1 = true := by kernel_rfl

theorem owns_kind {w : World} {B : Nat} {e size : TypeId} {v : Value} {n : Nat} {xs : List Value} (h : w.ownsRow B e size v n xs) : ∀ g, v.ownBlock = some g → ∃ c fz, w.heap[g]? = some (.cells c e fz) := by
  intro g hg
  obtain ⟨cur, hc⟩ := owns_block h hg
  exact ⟨cur, _, hc⟩

theorem SewM.lt {S : Nat} {vl ad vb : Value} {bs : List Value} {en mv : Int} {w : World} (h : SewM S vl ad vb bs en mv w) : S < w.heap.size := (Array.getElem?_eq_some_iff.1 h.blk).1
theorem SewM.ne {S : Nat} {vl ad vb : Value} {bs : List Value} {en mv : Int} {w : World} (h : SewM S vl ad vb bs en mv w) : vb.ownBlock ≠ some S := owns_ne h.own h.blk (by decide)
theorem SewM.set1 {S : Nat} {vl ad vb : Value} {bs : List Value} {en mv : Int} {w : World} (h : SewM S vl ad vb bs en mv w) : SewM S vl (.pointer (some ⟨S, 1, none⟩)) vb bs en mv (w.setCell ⟨S, 1, none⟩ (.pointer (some ⟨S, 1, none⟩))) :=
  ⟨heap_setCell_same _ _ _ _ _ _ _ h.blk, .inr rfl, h.own.kept (grownBy_setCell _ _ _ _) (.inr h.ne)⟩

set_option maxHeartbeats 1000000 in
theorem copyCheck_sew {S : Nat} {vl ad vb : Value} {bs : List Value} {en mv : Int} {w : World} (h : SewM S vl ad vb bs en mv w) :
    Calls Tryz.prog 108 #[.pointer (some ⟨S, 1, none⟩)] w fun e w' => e = .returned (.tuple #[]) ∧ SewM S vl (.pointer (some ⟨S, 1, none⟩)) vb bs en mv w' ∧ Below S w w' ∧ Lib.OthersKept 5 (some S) w w' := by
  obtain ⟨j, hj, hjs⟩ := Option.map_eq_some_iff.1 size_builder
  have c1 : w.cell? ⟨S, 1, none⟩ = some ad := cell_of h.blk rfl
  have hsh : w.shape? S = some (76, 5) := by simp [World.shape?, h.blk]
  have hfz : w.frozen? ⟨S, 1, none⟩ = false := frozen_of h.blk
  rcases h.adr with rfl | rfl
  · go_enter Tryz.func108, Tryz.ntmps108
    go_wp2_with fail
    rw [Lib.run_to_unsafe w ⟨S, 1, none⟩ Tryz.underlying71 Tryz.underlying190 hj (by rw [hjs]; decide) hsh (by show 1 < 5; decide)]
    simp only [Result.andThen]
    rw [Oper.upon_value]
    go_wp2_with fail
    rw [run_callFunc_extern Tryz.func132 (by kernel_rfl) (by kernel_rfl) (by kernel_rfl) (e := Extern.AbiNoEscape.same) (by kernel_rfl)]
    rw [Lib.run_noEscape]
    simp only [Result.andThen]
    rw [Oper.upon_value]
    go_wp2
    rw [Lib.run_from_unsafe w ⟨S, 1, none⟩ Tryz.underlying190 Tryz.underlying71 hj hsh lies_builder]
    simp only [Result.andThen]
    rw [Oper.upon_value]
    go_wp2
    go_end0
    exact ⟨rfl, h.set1, (Below.refl _ w).setCell (p := ⟨S, 1, none⟩) (Nat.le_refl _) _, (Lib.OthersKept.refl _ _ w).setCell ⟨S, 1, none⟩ rfl _⟩
  · go_enter Tryz.func108, Tryz.ntmps108
    go_wp2
    rw [Lib.run_neq_ptr_same w _ Tryz.underlying71 hj]
    go_wp2
    go_end0
    exact ⟨rfl, h, Below.refl _ _, Lib.OthersKept.refl _ _ _⟩
theorem SewM.put2 {S : Nat} {vl ad vb : Value} {bs bs' : List Value} {en mv : Int} {w w2 : World} (h : SewM S vl ad vb bs en mv w) (hb : w2.heap[S]? = w.heap[S]?) {vb' : Value} (hown : w2.ownsRow (S + 1) 5 1 vb' bs'.length bs') :
    SewM S vl ad vb' bs' en mv (w2.setCell ⟨S, 2, none⟩ vb') := by
  have hb2 := hb.trans h.blk
  exact ⟨heap_setCell_same _ _ _ _ _ _ _ hb2, h.adr, hown.kept (grownBy_setCell _ _ _ _) (.inr (owns_ne hown hb2 (by decide)))⟩

set_option maxHeartbeats 2000000 in
theorem writeString_sew {S : Nat} {vl ad vb : Value} {bs : List Value} {en mv : Int} {w : World} (s : ByteArray) (h : SewM S vl ad vb bs en mv w) (hlen : bs.length + s.size ≤ 140737488355328) :
    Calls Tryz.prog 71 #[.pointer (some ⟨S, 1, none⟩), .string s] w fun e w' => e = .returned (.tuple #[.int .i64 s.size, .nilIface]) ∧ ∃ vb', SewM S vl (.pointer (some ⟨S, 1, none⟩)) vb' (bs ++ Lib.strCells s) en mv w' ∧ Below S w w' ∧ Lib.OthersKept 5 (some S) w w' := by
  obtain ⟨i0, hi, hz0, hz1, hz2⟩ := info_parts info_byte
  have hlt := h.lt
  go_enter Tryz.func71, Tryz.ntmps71
  go_wp2_with (go_at_call 108; refine (copyCheck_sew h).mono ?_)
  rintro e w1 ⟨rfl, h1, hb1, hk1⟩
  have hz := hb1.size
  have hlt1 := h1.lt
  have c2 : w1.cell? ⟨S, 2, none⟩ = some vb := cell_of h1.blk rfl
  go_wp2_with (at_builtin; refine Lib.wpList_append_own_string _ rfl _ _ 72 9 rfl (S + 1) 5 i0 Tryz.underlying72 Tryz.underlying9 hi hz0 hz1 hz2 _ _ _ rfl h1.own s rfl (by unfold maxLen; omega) (by omega) (by omega) ?_)
  intro vb' w2 hown' hgrow _
  have hb2 : w2.heap[S]? = w1.heap[S]? := hgrow.block S hlt1 (fun e => h1.ne e.symm)
  have d2 : w2.cell? ⟨S, 2, none⟩ = some vb := cell_of (hb2.trans h1.blk) rfl
  have f2 : w2.frozen? ⟨S, 2, none⟩ = false := frozen_of (hb2.trans h1.blk)
  obtain ⟨ab, cb, rfl⟩ := owns_isSlice hown'
  go_wp2
  go_ret2
  refine ⟨rfl, _, h1.put2 hb2 (bs' := bs ++ Lib.strCells s) (by simpa [Lib.strCells_length] using hown'), ?_, (hk1.grown hgrow (owns_kind h1.own)).setCell ⟨S, 2, none⟩ rfl _⟩
  exact (hb1.grown hgrow (by omega) (fun k hk => by have := (h1.own.lt k hk).1; omega)).setCell (p := ⟨S, 2, none⟩) (Nat.le_refl _) _

set_option maxHeartbeats 2000000 in
theorem writeByte_sew {S : Nat} {vl ad vb : Value} {bs : List Value} {en mv : Int} {w : World} (c : Int) (h : SewM S vl ad vb bs en mv w) (hlen : bs.length + 1 ≤ 140737488355328) :
    Calls Tryz.prog 74 #[.pointer (some ⟨S, 1, none⟩), .int .u8 c] w fun e w' => e = .returned .nilIface ∧ ∃ vb', SewM S vl (.pointer (some ⟨S, 1, none⟩)) vb' (bs ++ [.int .u8 c]) en mv w' ∧ Below S w w' ∧ Lib.OthersKept 5 (some S) w w' := by
  obtain ⟨i0, hi, hz0, hz1, hz2⟩ := info_parts info_byte
  have hlt := h.lt
  have hone : ∀ u ∈ [Value.int .u8 c], u.oneCell' = true := by intro u hu; simp at hu; subst hu; rfl
  go_enter Tryz.func74, Tryz.ntmps74
  go_wp2_with (go_at_call 108; refine (copyCheck_sew h).mono ?_)
  rintro e w1 ⟨rfl, h1, hb1, hk1⟩
  have hz := hb1.size
  have hlt1 := h1.lt
  have c2 : w1.cell? ⟨S, 2, none⟩ = some vb := cell_of h1.blk rfl
  obtain ⟨ab0, cb0, rfl⟩ := owns_isSlice h1.own
  go_wp2_with (at_builtin; refine wpList_append_own _ rfl (.tmp 11) (.tmp 13) 72 rfl (S + 1) 5 i0 _ 1 1 Tryz.underlying72 hi hz0 hz1 hz2 rfl (by decide) (.slice ab0 bs.length cb0) bs.length bs rfl (h1.own.alloc _) ⟨w1.heap.size, 0, none⟩ 1 1 [.int .u8 c] rfl rfl (cells_new w1 _ _) hone (by unfold maxLen; omega) (by omega) (by simp; omega) ?_)
  intro vb' w2 hown' hgrow _
  have hb2 : w2.heap[S]? = w1.heap[S]? := (hgrow.block S (by simp; omega) (fun e => h1.ne e.symm)).trans (Below.heap_alloc _ _ _ hlt1)
  have d2 := (World.cell?_of_block (a := ⟨S, 2, none⟩) hb2).trans c2
  have f2 : w2.frozen? ⟨S, 2, none⟩ = false := frozen_of (hb2.trans h1.blk)
  obtain ⟨ab, cb, rfl⟩ := owns_isSlice hown'
  go_wp2
  go_ret
  refine ⟨rfl, _, h1.put2 hb2 (bs' := bs ++ [.int .u8 c]) (by simpa using hown'), ?_, ((hk1.alloc _).grown hgrow (owns_kind (h1.own.alloc _))).setCell ⟨S, 2, none⟩ rfl _⟩
  exact ((hb1.alloc (by omega) _).grown hgrow (by simp; omega) (fun k hk => by have := (h1.own.lt k hk).1; omega)).setCell (p := ⟨S, 2, none⟩) (Nat.le_refl _) _

end Go.Proofs.YtcclgodahlinbaaGreatDoor
