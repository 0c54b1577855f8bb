import Derived.Test.YtcclgodahlinbaaGreatDoorWNumC
import Derived.Test.YtcclgodahlinbaaGreatDoorWReadM
namespace Go.Proofs.YtcclgodahlinbaaGreatDoor
open Go.RowKit Go
set_option maxRecDepth 100000

def spanB (f c : Nat) : ByteArray := ⟨(spanM f c).toArray⟩
set_option maxHeartbeats 1000000 in
theorem header_any {h : HunkM} (hs : Small h) (a : Option Addr) (n cap : Nat) (w : World) : Calls Tryz.prog 72 #[hunkVal h (.slice a n cap)] w fun e w' => e = .returned (.string ⟨(headM h ++ [10]).toArray⟩) ∧ Below w.heap.size w w' := by
  have pS : Hid (∀ f c : Nat, f < 100 → c < 100 → ∀ ob n, Calls Tryz.prog 109 #[.int .i64 (f : Int), .int .i64 (c : Int)] ((w.alloc ob).drewN n) fun e w'' => e = .returned (.string (spanB f c)) ∧ ∃ k, w'' = (w.alloc ob).drewN k) :=
    fun f c hf hc ob n => (span_any hf hc _).mono fun _ _ ⟨he, hm⟩ => ⟨he, n, hm⟩
  obtain ⟨h1, h2, h3, h4⟩ := hs
  have hT : Hid ((⟨(headM h ++ [10]).toArray⟩ : ByteArray) = ⟨#[64, 64, 32, 45]⟩ ++ spanB h.fr h.fc ++ ⟨#[32, 43]⟩ ++ spanB h.tr h.tc ++ ⟨#[32, 64, 64]⟩ ++ ⟨#[10]⟩) := by
    unfold Hid spanB
    apply ByteArray.ext
    simp [ByteArray.data_append, headM]
  have z1 : (spanB h.fr h.fc).size ≤ 5 := by unfold spanB; rw [size_mk]; exact span_len h1 h2
  have z2 : (spanB h.tr h.tc).size ≤ 5 := by unfold spanB; rw [size_mk]; exact span_len h3 h4
  generalize (⟨(headM h ++ [10]).toArray⟩ : ByteArray) = s0 at *
  have q1 : ¬ 9223372036854775807 < 4 + (spanB h.fr h.fc).size := by omega
  have q2 : ¬ 9223372036854775807 < 4 + (spanB h.fr h.fc).size + 2 := by omega
  have q3 : ¬ 9223372036854775807 < 4 + (spanB h.fr h.fc).size + 2 + (spanB h.tr h.tc).size := by omega
  have q4 : ¬ 9223372036854775807 < 4 + (spanB h.fr h.fc).size + 2 + (spanB h.tr h.tc).size + 3 := by omega
  have q5 : ¬ 9223372036854775807 < 4 + (spanB h.fr h.fc).size + 2 + (spanB h.tr h.tc).size + 3 + 1 := by omega
  go_enter Tryz.func72, Tryz.ntmps72
  go_wp2_with fail
  go_quiet ((go_at_call 109; exact pS.out _ _ (by assumption) (by assumption) _ _))
  go_wp2_with fail
  go_ret
  exact ⟨by rw [hT.out]; rfl, Below.drewN' ((Below.refl _ _).alloc (Nat.le_refl _) _)⟩

/-! ### a header is read -/
theorem hb_trans3 {w w1 w2 w3 : World} (h1 : Below w.heap.size w w1) (h2 : Below w1.heap.size w1 w2) (h3 : Below w2.heap.size w2 w3) : Below w.heap.size w w3 :=
  (h1.trans (h2.mono h1.size)).trans (h3.mono (by have := h1.size; have := h2.size; omega))
abbrev hunk0 : Obj := .cells #[.int .i64 0, .int .i64 0, .int .i64 0, .int .i64 0, .slice none 0 0] 61 (0, 0)
theorem prefix_call {a p b : List UInt8} (h : Lib.hasPrefix a p = true ∧ Lib.trimPrefix a p = b) (w : World) : Calls Tryz.prog 138 #[.string ⟨a.toArray⟩, .string ⟨p.toArray⟩] w fun e w' => e = .returned (.tuple #[.string ⟨b.toArray⟩, .bool true]) ∧ w' = w := by
  refine (Tryz.strings_CutPrefix _ _ w).mono ?_
  rintro e w' ⟨rfl, rfl⟩
  refine ⟨?_, rfl⟩
  show Ending.returned (.tuple #[.string ⟨(Lib.trimPrefix a p).toArray⟩, .bool (Lib.hasPrefix a p)]) = _
  rw [h.1, h.2]
theorem suffix_call {a p b : List UInt8} (h : Lib.hasSuffix a p = true ∧ Lib.trimSuffix a p = b) (hl : a.length ≤ 1000) (w : World) : Calls Tryz.prog 139 #[.string ⟨a.toArray⟩, .string ⟨p.toArray⟩] w fun e w' => e = .returned (.tuple #[.string ⟨b.toArray⟩, .bool true]) ∧ w' = w := by
  refine (Tryz.strings_CutSuffix _ _ w (by rw [size_mk]; omega)).mono ?_
  rintro e w' ⟨rfl, rfl⟩
  refine ⟨?_, rfl⟩
  show Ending.returned (.tuple #[.string ⟨(Lib.trimSuffix a p).toArray⟩, .bool (Lib.hasSuffix a p)]) = _
  rw [h.1, h.2]
theorem set5 {W : World} {g : Nat} {a0 a1 a2 a3 a4 : Value} {t : TypeId} (h : W.heap[g]? = some (.cells #[a0, a1, a2, a3, a4] t (0, 0))) (ob : Obj) (v0 v1 v2 v3 v4 : Value) :
    ((((((W.setCell ⟨g, 0, none⟩ v0).setCell ⟨g, 1, none⟩ v1).setCell ⟨g, 2, none⟩ v2).setCell ⟨g, 3, none⟩ v3).setCell ⟨g, 4, none⟩ v4).alloc ob).heap[g]? = some (.cells #[v0, v1, v2, v3, v4] t (0, 0)) :=
  (Below.heap_alloc _ ob g (by have := (Array.getElem?_eq_some_iff.1 h).1; simpa using this)).trans (heap_setCell_same _ _ _ _ _ _ _ (heap_setCell_same _ _ _ _ _ _ _ (heap_setCell_same _ _ _ _ _ _ _ (heap_setCell_same _ _ _ _ _ _ _ (heap_setCell_same _ _ _ _ _ _ _ h)))))
set_option maxHeartbeats 4000000 in
theorem readHeader_ok {h : HunkM} (hs : Small h) {w : World} (hg : Glob w) : Calls Tryz.prog 111 #[.string ⟨(headM h).toArray⟩] w fun e w' => e = .returned (.tuple #[hunkVal h (.slice none 0 0), .bool true]) ∧ Below w.heap.size w w' := by
  have hsp := prefix_yes [64, 64, 32, 45] ((spanM h.fr h.fc ++ [32, 43] ++ spanM h.tr h.tc) ++ [32, 64, 64])
  rw [← head_split] at hsp
  have hl1 := span_len hs.1 hs.2.1
  have hl2 := span_len hs.2.2.1 hs.2.2.2
  have c1 := fun w => prefix_call hsp w
  have c2 := fun w => suffix_call (suffix_yes (spanM h.fr h.fc ++ [32, 43] ++ spanM h.tr h.tc) [32, 64, 64]) (by simp; omega) w
  have c3 : ∀ w, Glob w → _ := fun w hg => cut_yes (w := w) (a := spanM h.fr h.fc) (b := spanM h.tr h.tc) (sep := [32, 43]) rfl (span_not hs.1 hs.2.1 (by decide)) (by simp; omega) hg
  have c4 : ∀ w, Glob w → _ := fun w hg => readSpan_ok (w := w) hs.1 hs.2.1 hg
  have c5 : ∀ w, Glob w → _ := fun w hg => readSpan_ok (w := w) hs.2.2.1 hs.2.2.2 hg
  have hB0 := heap_alloc_new w hunk0
  have hb0 := (Below.refl w.heap.size w).alloc (Nat.le_refl _) hunk0
  have hg0 := hg.next hb0
  have hz0 : (w.alloc hunk0).heap.size = w.heap.size + 1 := by simp
  have hfin : Hid (∀ w1 w2 w3, Below (w.alloc hunk0).heap.size (w.alloc hunk0) w1 → Below w1.heap.size w1 w2 → Below w2.heap.size w2 w3 → w3.heap[w.heap.size]? = some hunk0 ∧ Below w.heap.size w w3 ∧ w.heap.size < w3.heap.size) := by
    intro w1 w2 w3 h1 h2 h3
    have ht := hb_trans3 h1 h2 h3
    exact ⟨(ht.block w.heap.size (by omega)).trans hB0, hb0.trans (ht.mono (by omega)), by have := ht.size; omega⟩
  clear hB0 hb0 hl1 hl2 hsp
  generalize (⟨(headM h).toArray⟩ : ByteArray) = s0 at *
  generalize (⟨((spanM h.fr h.fc ++ [32, 43] ++ spanM h.tr h.tc) ++ [32, 64, 64]).toArray⟩ : ByteArray) = s1 at *
  generalize (⟨(spanM h.fr h.fc ++ [32, 43] ++ spanM h.tr h.tc).toArray⟩ : ByteArray) = s2 at *
  generalize (⟨(spanM h.fr h.fc).toArray⟩ : ByteArray) = s3 at *
  generalize (⟨(spanM h.tr h.tc).toArray⟩ : ByteArray) = s4 at *
  go_enter Tryz.func111, Tryz.ntmps111
  go_wp2_with fail
  generalize w.alloc hunk0 = W0 at *
  go_wp2_with (first | (go_at_call 138; refine (c1 _).mono ?_; rintro e w' ⟨rfl, rfl⟩) | (go_at_call 139; refine (c2 _).mono ?_; rintro e w' ⟨rfl, rfl⟩) | (go_at_call 34; refine (c3 _ hg0).mono ?_; rintro e w1 ⟨rfl, hb1⟩; have hg1 := hg0.next hb1) | (go_at_call 140; refine (c4 _ hg1).mono ?_; clear c4; rintro e w2 ⟨rfl, hb2⟩; have hg2 := hg1.next hb2) | (go_at_call 140; refine (c5 _ hg2).mono ?_; rintro e w3 ⟨rfl, hb3⟩; obtain ⟨hB3, hbw, hlt⟩ := hfin.out w1 w2 w3 hb1 hb2 hb3; have z := fun k => frozen_of (k := k) hB3; have r0 := cell_of (k := 0) hB3 rfl; have r1 := cell_of (k := 1) hB3 rfl; have r2 := cell_of (k := 2) hB3 rfl; have r3 := cell_of (k := 3) hB3 rfl; have r4 := cell_of (k := 4) hB3 rfl))
  refine bodyPost_ret (v := .tuple #[hunkVal h (.slice none 0 0), .bool true]) ?_ rfl ⟨rfl, ?_⟩
  · have hF := set5 hB3 (.cells #[.int .i64 (h.fr : Int), .int .i64 (h.fc : Int), .int .i64 (h.tr : Int), .int .i64 (h.tc : Int), .slice none 0 0] 61) (.int .i64 (h.fr : Int)) (.int .i64 (h.fc : Int)) (.int .i64 (h.tr : Int)) (.int .i64 (h.tc : Int)) (.slice none 0 0)
    generalize ((((((w3.setCell _ _).setCell _ _).setCell _ _).setCell _ _).setCell _ _).alloc _) = WF at hF ⊢
    have r0' := cell_of (k := 0) hF rfl
    have r1' := cell_of (k := 1) hF rfl
    have r2' := cell_of (k := 2) hF rfl
    have r3' := cell_of (k := 3) hF rfl
    have r4' := cell_of (k := 4) hF rfl
    simp [results, Tryz.results111, go_sem, r0', r1', r2', r3', r4']
  · exact (((((hbw.setCell (p := ⟨w.heap.size, 0, none⟩) (Nat.le_refl _) _).setCell (p := ⟨w.heap.size, 1, none⟩) (Nat.le_refl _) _).setCell (p := ⟨w.heap.size, 2, none⟩) (Nat.le_refl _) _).setCell (p := ⟨w.heap.size, 3, none⟩) (Nat.le_refl _) _).setCell (p := ⟨w.heap.size, 4, none⟩) (Nat.le_refl _) _).alloc (by simp; omega) _
theorem prefix_miss {a p : List UInt8} (h : Lib.hasPrefix a p = false) (w : World) : Calls Tryz.prog 138 #[.string ⟨a.toArray⟩, .string ⟨p.toArray⟩] w fun e w' => e = .returned (.tuple #[.string ⟨a.toArray⟩, .bool false]) ∧ w' = w := by
  refine (Tryz.strings_CutPrefix _ _ w).mono ?_
  rintro e w' ⟨rfl, rfl⟩
  refine ⟨?_, rfl⟩
  show Ending.returned (.tuple #[.string ⟨(Lib.trimPrefix a p).toArray⟩, .bool (Lib.hasPrefix a p)]) = _
  unfold Lib.trimPrefix
  rw [h]
  rfl
theorem suffix_miss {a p : List UInt8} (h : Lib.hasSuffix a p = false) (hl : a.length ≤ 1000) (w : World) : Calls Tryz.prog 139 #[.string ⟨a.toArray⟩, .string ⟨p.toArray⟩] w fun e w' => e = .returned (.tuple #[.string ⟨a.toArray⟩, .bool false]) ∧ w' = w := by
  refine (Tryz.strings_CutSuffix _ _ w (by rw [size_mk]; omega)).mono ?_
  rintro e w' ⟨rfl, rfl⟩
  refine ⟨?_, rfl⟩
  show Ending.returned (.tuple #[.string ⟨(Lib.trimSuffix a p).toArray⟩, .bool (Lib.hasSuffix a p)]) = _
  unfold Lib.trimSuffix
  rw [h]
  rfl
set_option maxHeartbeats 4000000 in
theorem readHeader_bad {w : World} (hg : Glob w) : Calls Tryz.prog 111 #[.string ⟨#[120]⟩] w fun e w' => e = .returned (.tuple #[.agg #[.int .i64 0, .int .i64 0, .int .i64 0, .int .i64 0, .slice none 0 0], .bool false]) ∧ Below w.heap.size w w' := by
  have c1 := fun w => prefix_miss (a := [120]) (p := [64, 64, 32, 45]) (by decide) w
  have c2 := fun w => suffix_miss (a := [120]) (p := [32, 64, 64]) (by decide) (by decide) w
  have c3 : ∀ w, Glob w → _ := fun w hg => cut_no (w := w) (a := [120]) (sep := [32, 43]) rfl (by decide) (by decide) hg
  have c4 : ∀ w, Glob w → _ := fun w hg => readSpan_bad (w := w) (d := [120]) (by decide) (by decide) (by decide) hg
  have c5 : ∀ w, Glob w → _ := fun w hg => readSpan_bad (w := w) (d := []) (by decide) (by decide) (by decide) hg
  have hB0 := heap_alloc_new w hunk0
  have hb0 := (Below.refl w.heap.size w).alloc (Nat.le_refl _) hunk0
  have hg0 := hg.next hb0
  have hz0 : (w.alloc hunk0).heap.size = w.heap.size + 1 := by simp
  have hfin : Hid (∀ w1 w2 w3, Below (w.alloc hunk0).heap.size (w.alloc hunk0) w1 → Below w1.heap.size w1 w2 → Below w2.heap.size w2 w3 → w3.heap[w.heap.size]? = some hunk0 ∧ Below w.heap.size w w3 ∧ w.heap.size < w3.heap.size) := by
    intro w1 w2 w3 h1 h2 h3
    have ht := hb_trans3 h1 h2 h3
    exact ⟨(ht.block w.heap.size (by omega)).trans hB0, hb0.trans (ht.mono (by omega)), by have := ht.size; omega⟩
  clear hB0 hb0
  have hx : Hid ((⟨[].toArray⟩ : ByteArray) = ⟨#[]⟩) := rfl
  generalize (⟨#[120]⟩ : ByteArray) = s0 at *
  generalize hE : (⟨#[]⟩ : ByteArray) = s4 at *
  go_enter Tryz.func111, Tryz.ntmps111
  go_wp2_with fail
  generalize w.alloc hunk0 = W0 at *
  go_wp2_with (first | (go_at_call 138; refine (c1 _).mono ?_; rintro e w' ⟨rfl, rfl⟩) | (go_at_call 139; refine (c2 _).mono ?_; rintro e w' ⟨rfl, rfl⟩) | (go_at_call 34; refine (c3 _ hg0).mono ?_; rintro e w1 ⟨rfl, hb1⟩; have hg1 := hg0.next hb1) | (go_at_call 140; refine (c4 _ hg1).mono ?_; clear c4; rintro e w2 ⟨rfl, hb2⟩; have hg2 := hg1.next hb2) | (go_at_call 140; refine (c5 _ hg2).mono ?_; rintro e w3 ⟨rfl, hb3⟩; obtain ⟨hB3, hbw, hlt⟩ := hfin.out w1 w2 w3 hb1 hb2 hb3; have z := fun k => frozen_of (k := k) hB3; have r0 := cell_of (k := 0) hB3 rfl; have r1 := cell_of (k := 1) hB3 rfl; have r2 := cell_of (k := 2) hB3 rfl; have r3 := cell_of (k := 3) hB3 rfl; have r4 := cell_of (k := 4) hB3 rfl))
  refine bodyPost_ret (v := .tuple #[.agg #[.int .i64 0, .int .i64 0, .int .i64 0, .int .i64 0, .slice none 0 0], .bool false]) ?_ rfl ⟨rfl, ?_⟩
  · have hF := set5 hB3 (.cells #[.int .i64 0, .int .i64 0, .int .i64 0, .int .i64 0, .slice none 0 0] 61) (.int .i64 0) (.int .i64 0) (.int .i64 0) (.int .i64 0) (.slice none 0 0)
    generalize ((((((w3.setCell _ _).setCell _ _).setCell _ _).setCell _ _).setCell _ _).alloc _) = WF at hF ⊢
    have r0' := cell_of (k := 0) hF rfl
    have r1' := cell_of (k := 1) hF rfl
    have r2' := cell_of (k := 2) hF rfl
    have r3' := cell_of (k := 3) hF rfl
    have r4' := cell_of (k := 4) hF rfl
    simp [results, Tryz.results111, go_sem, r0', r1', r2', r3', r4']
  · exact (((((hbw.setCell (p := ⟨w.heap.size, 0, none⟩) (Nat.le_refl _) _).setCell (p := ⟨w.heap.size, 1, none⟩) (Nat.le_refl _) _).setCell (p := ⟨w.heap.size, 2, none⟩) (Nat.le_refl _) _).setCell (p := ⟨w.heap.size, 3, none⟩) (Nat.le_refl _) _).setCell (p := ⟨w.heap.size, 4, none⟩) (Nat.le_refl _) _).alloc (by simp; omega) _
end Go.Proofs.YtcclgodahlinbaaGreatDoor
