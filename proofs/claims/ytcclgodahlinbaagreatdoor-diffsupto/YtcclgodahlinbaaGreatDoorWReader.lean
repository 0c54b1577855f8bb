import Derived.Test.YtcclgodahlinbaaGreatDoorWSeat
import Derived.Test.YtcclgodahlinbaaGreatDoorWReadN
import Derived.Test.YtcclgodahlinbaaGreatDoorWWrite
namespace Go.Proofs.YtcclgodahlinbaaGreatDoor
open Go.RowKit Go
set_option maxRecDepth 100000

/-- the last hunk has a line more -/
theorem lineMore_fin {base g n cap : Nat} {init : List HV} {h : HunkM} {vl vl' : Value} {s : StepB} {w w2 w3 : World} (hs : HSv base g n cap (init ++ [(h, vl)]) w)
    (hown : w2.ownsRow base 93 2 vl' (h.lines.length + 1) (stepCells h.lines ++ [.int .u8 (s.kind : Nat), .string s.text]))
    (hold : ∀ k, k < w.heap.size → some k ≠ vl.ownBlock → w2.heap[k]? = w.heap[k]?)
    (hnew : vl'.ownBlock = vl.ownBlock ∨ ∀ k, vl'.ownBlock = some k → w.heap.size ≤ k)
    (hg : w2.grownBy w3 (some g))
    (hw3 : ∀ cur, w2.heap[g]? = some (.cells cur 61 (0, 0)) → cur.toList.take (n * 5) = hunkCells (init ++ [(h, vl)]) → ∃ cur', w3.heap[g]? = some (.cells cur' 61 (0, 0)) ∧ cur'.size = cur.size ∧
      cur'.toList.take (n * 5) = ((((cur.toList.take (n * 5)).set (init.length * 5) (.int .i64 (h.fr : Nat))).set (init.length * 5 + 1) (.int .i64 (h.fc : Nat))).set (init.length * 5 + 2) (.int .i64 (h.tr : Nat)) |>.set (init.length * 5 + 3) (.int .i64 (h.tc : Nat))).set (init.length * 5 + 4) vl') :
    HSv base g n cap (init ++ [({ h with lines := h.lines ++ [s] }, vl')]) w3 := by
  have hn := hs.len
  have hmem : ∀ p ∈ init, w.ownsRow base 93 2 p.2 p.1.lines.length (stepCells p.1.lines) := fun p hp => hs.lines p (by simp [hp])
  have hvl := hs.lines (h, vl) (by simp)
  have hap : ∀ p ∈ init, p.2.ownBlock = none ∨ p.2.ownBlock ≠ vl.ownBlock := by
    have := hs.apart
    rw [List.pairwise_append] at this
    exact fun p hp => this.2.2 p hp (h, vl) (by simp)
  have hgl : ∀ {v : Value} {m : Nat} {xs : List Value} {w' : World}, w'.ownsRow base 93 2 v m xs → (∃ cur, w'.heap[g]? = some (.cells cur 61 (0, 0))) → v.ownBlock ≠ some g := by
    intro v m xs w' ho ⟨cur, hc⟩
    exact owns_ne ho hc (by decide)
  obtain ⟨cur, hcur⟩ := owns_block hs.row (g := g) rfl
  have hgw : g < w.heap.size := (Array.getElem?_eq_some_iff.1 hcur).1
  have hg2 : w2.heap[g]? = w.heap[g]? := hold g hgw (fun e => hgl hvl ⟨cur, hcur⟩ e.symm)
  have hrow2 : w2.ownsRow base 61 5 (.slice (some ⟨g, 0, none⟩) n cap) n (hunkCells (init ++ [(h, vl)])) := by
    obtain ⟨a, b⟩ := hs.row
    refine ⟨a, ?_⟩
    rcases b with b | ⟨g', cap', cur', e, hb, hg', r⟩
    · exact .inl b
    · cases e
      exact .inr ⟨g, cap, cur', rfl, hb, hg2.trans hg', r⟩
  refine ⟨by simp at hn ⊢; exact hn, ?_, ?_, ?_⟩
  · have := owns_setHunk hrow2 hn (i := init.length) (by simp) ({ h with lines := h.lines ++ [s] }, vl') hw3
    simpa using this
  · intro p hp
    rw [List.mem_append] at hp
    rcases hp with hp | hp
    · have ho := hmem p hp
      have ho2 : w2.ownsRow base 93 2 p.2 p.1.lines.length (stepCells p.1.lines) := by
        obtain ⟨a, b⟩ := ho
        refine ⟨a, ?_⟩
        rcases b with b | ⟨g', cap', cur', e, hb, hg', r⟩
        · exact .inl b
        · refine .inr ⟨g', cap', cur', e, hb, (hold g' (Array.getElem?_eq_some_iff.1 hg').1 ?_).trans hg', r⟩
          intro e2
          rcases hap p hp with h3 | h3
          · rw [e] at h3; cases h3
          · exact h3 (by rw [← e2, e]; rfl)
      exact ho2.kept hg (.inr (hgl ho2 ⟨cur, hg2.trans hcur⟩))
    · simp at hp
      subst hp
      have := hown.kept hg (.inr (hgl hown ⟨cur, hg2.trans hcur⟩))
      show World.ownsRow _ _ _ _ _ (h.lines ++ [s]).length (stepCells (h.lines ++ [s]))
      rw [stepCells_append, List.length_append]
      exact this
  · rw [List.pairwise_append]
    have := hs.apart
    rw [List.pairwise_append] at this
    refine ⟨this.1, by simp, fun p hp q hq => ?_⟩
    simp at hq
    subst hq
    rcases hap p hp with h3 | h3
    · exact .inl h3
    · rcases hnew with h4 | h4
      · right; show p.2.ownBlock ≠ vl'.ownBlock; rw [h4]; exact h3
      · cases hb : p.2.ownBlock with
        | none => exact .inl rfl
        | some k =>
          right
          intro e
          have h5 := h4 k e.symm
          have h6 := ((hmem p hp).lt k hb).2
          omega


theorem heap1 {w : World} {g o1 : Nat} {v1 : Value} {cur : Array Value} {t : TypeId} (h : w.heap[g]? = some (.cells cur t (0, 0))) (n : Nat) :
    ∃ cur', (w.setCell ⟨g, o1, none⟩ v1).heap[g]? = some (.cells cur' t (0, 0)) ∧ cur'.size = cur.size ∧ cur'.toList.take n = (cur.toList.take n).set o1 v1 :=
  ⟨_, heap_setCell_same _ _ _ _ _ _ _ h, by simp, by simp [List.take_set]⟩
theorem HSo.last {base : Nat} {v : Value} {hv : List HV} {w : World} (h : HSo base v hv w) {init : List HunkM} {x : HunkM} (e : hv.map (·.1) = init ++ [x]) :
    ∃ g cap i0 vl, v = .slice (some ⟨g, 0, none⟩) (i0.length + 1) cap ∧ base ≤ g ∧ hv = i0 ++ [(x, vl)] ∧ i0.map (·.1) = init ∧ HSv base g (i0.length + 1) cap (i0 ++ [(x, vl)]) w := by
  rcases h with ⟨rfl, _⟩ | ⟨g, cap, rfl, hb, hs⟩
  · simp at e
  · obtain ⟨i0, l0, rfl, e1, e2⟩ := List.map_eq_append_iff.1 e
    obtain ⟨p, rfl, hp⟩ : ∃ p, l0 = [p] ∧ p.1 = x := by
      cases l0 with
      | nil => simp at e2
      | cons p l => cases l with
        | nil => exact ⟨p, rfl, by simpa using e2⟩
        | cons q l => simp at e2
    obtain ⟨p1, p2⟩ := p
    simp only at hp
    subst hp
    have hl : (i0 ++ [(p1, p2)]).length = i0.length + 1 := by simp
    rw [hl] at hs ⊢
    exact ⟨g, cap, i0, p2, rfl, hb, rfl, e1, hs⟩
theorem HSo.below {base : Nat} {v : Value} {hv : List HV} {w w' : World} (h : HSo base v hv w) (hb : Below w.heap.size w w') : HSo base v hv w' := by
  rcases h with h | ⟨g, cap, e, hg, hs⟩
  · exact .inl h
  · exact .inr ⟨g, cap, e, hg, hs.len, owns_below hs.row hb (fun k e => (hs.row.lt k e).2), fun p hp => owns_below (hs.lines p hp) hb (fun k e => ((hs.lines p hp).lt k e).2), hs.apart⟩
theorem RdM.below {S : Nat} {st : Rd} {v : Value} {hv : List HV} {w w' : World} (h : RdM S st v hv w) (hb : Below w.heap.size w w') : RdM S st v hv w' := ⟨(hb.block S h.lt).trans h.blk, h.hso.below hb, h.hs⟩
abbrev rdCells (v : Value) (en : Nat) (gr : Int) (f t : Nat) (b : Bool) : Obj := .cells #[v, .int .i64 (en : Int), .int .i64 gr, .int .i64 (f : Int), .int .i64 (t : Int), .bool b] 88 (0, 0)
abbrev hkCells (h : HunkM) : Obj := .cells #[.int .i64 (h.fr : Int), .int .i64 (h.fc : Int), .int .i64 (h.tr : Int), .int .i64 (h.tc : Int), .slice none 0 0] 61 (0, 0)
set_option maxHeartbeats 4000000 in
theorem rdheader_ok {S : Nat} {st : Rd} {v : Value} {hv : List HV} {w : World} {h : HunkM} (hR : RdM S st v hv w) (hs : Small h) (hl : h.lines = []) (hf : fitsM h st.en st.gr = true) (hg1 : -1000000000 ≤ st.gr) (hg2 : st.gr ≤ 1000000000) (hlen : st.hs.length ≤ 1000) (hg : Glob w) :
    Calls Tryz.prog 77 #[.pointer (some ⟨S, 0, none⟩), .string ⟨(headM h).toArray⟩] w fun e w' => e = .returned (.bool true) ∧ (∃ v' hv', RdM S ⟨st.hs ++ [h], placeM h.fr h.fc + h.fc, st.gr + h.tc - h.fc, h.fc, h.tc, false⟩ v' hv' w') ∧ Below S w w' := by
  obtain ⟨i0, hi, hz0, hz1, hz2⟩ := info_parts info_hunk
  have hrh := readHeader_ok hs hg
  have hlt := hR.lt
  have hvl : hv.length ≤ 1000 := by have := congrArg List.length hR.hs; rw [List.length_map] at this; omega
  have hone : ∀ u ∈ [Value.int .i64 (h.fr : Int), .int .i64 (h.fc : Int), .int .i64 (h.tr : Int), .int .i64 (h.tc : Int), .slice none 0 0], u.oneCell' = true := by intro u hu; simp at hu; rcases hu with rfl | rfl | rfl | rfl | rfl <;> rfl
  have hA : Hid (∀ w1, Below w.heap.size w w1 → RdM S st v hv w1) := fun w1 hb => hR.below hb
  unfold hunkVal at hrh
  generalize (⟨(headM h).toArray⟩ : ByteArray) = s0 at *
  go_enter Tryz.func77, Tryz.ntmps77
  go_wp2_with (go_at_call 111; refine hrh.mono ?_; rintro e w1 ⟨rfl, hb1⟩)
  have hR1 := hA.out w1 hb1
  have hz1' := hb1.size
  have hB1 := heap_alloc_new w1 (hkCells h)
  have hS1 := (Below.heap_alloc w1 (hkCells h) S hR1.lt).trans hR1.blk
  have hso1 := hR1.hso.alloc (hkCells h)
  have hsz1 : (w1.alloc (hkCells h)).heap.size = w1.heap.size + 1 := by simp
  have hbe1 : Below S w (w1.alloc (hkCells h)) := (hb1.mono (by omega)).alloc (by omega) _
  generalize w1.alloc (hkCells h) = W2 at *
  have htk := take_yesR h none 0 0 W2.drew hf (show W2.drew.heap[S]? = _ from hS1) hg1 hg2
  have y0 := cell_of (k := 0) hB1 rfl
  have y1 := cell_of (k := 1) hB1 rfl
  have y2 := cell_of (k := 2) hB1 rfl
  have y3 := cell_of (k := 3) hB1 rfl
  have y4 := cell_of (k := 4) hB1 rfl
  unfold hunkVal at htk
  generalize hPL : placeM h.fr h.fc + h.fc = PL at *
  refine wp_still_tail 7 mixed (by kernel_rfl) ?_
  simp only [List.take_succ_cons, List.take_zero, List.drop_succ_cons, List.drop_zero]
  repeat still_step
  refine wpStill_nil ?_
  go_wp2_with (go_at_call 68; refine htk.mono ?_; rintro e w3 ⟨rfl, hS3, hg3⟩)
  have hsz3 := hg3.size
  have hsz3' : w1.heap.size + 1 ≤ w3.heap.size := by have e : W2.drew.heap.size = W2.heap.size := rfl; omega
  have hB3 : w3.heap[w1.heap.size]? = some (hkCells h) := (hg3.block w1.heap.size (by show w1.heap.size < W2.heap.size; omega) (fun e => by have := Option.some.inj e; omega)).trans hB1
  have hso3 : HSo (S + 1) v hv w3 := HSo.kept (w := W2.drew) (by rcases hso1 with h | ⟨g, cap, e, hb, hs⟩; exact .inl h; exact .inr ⟨g, cap, e, hb, hs.len, hs.row, hs.lines, hs.apart⟩) hg3 (fun k e => by cases e; exact .inr ⟨_, _, _, hS1, by decide, by decide⟩)
  have hbe3 : Below S w w3 := (hbe1.drew).grown hg3 (by show S ≤ W2.heap.size; omega) (fun k e => by cases e; exact Nat.le_refl _)
  have hpush : Hid (∀ ob w4 g cap, w4.ownsRow (S + 1) 61 5 (.slice (some ⟨g, 0, none⟩) (hv.length + 1) cap) (hv.length + 1) (hunkCells hv ++ hunkCells1 (h, .slice none 0 0)) → (w3.drew.alloc ob).grownBy w4 v.ownBlock →
      HSo (S + 1) (.slice (some ⟨g, 0, none⟩) (hv.length + 1) cap) (hv ++ [(h, .slice none 0 0)]) w4 ∧ w4.heap[S]? = some (rdCells v PL (st.gr + h.tc - h.fc) st.f st.t st.b) ∧ w4.heap[w1.heap.size]? = some (hkCells h) ∧ Below S w w4 ∧ w1.heap.size < w4.heap.size) := by
    intro ob w4 g cap hown hgr
    have hsz4 := hgr.size
    have hsz4' : w3.heap.size + 1 ≤ w4.heap.size := by have e : (w3.drew.alloc ob).heap.size = w3.heap.size + 1 := by simp
                                                       omega
    have hvb : ∀ k, v.ownBlock = some k → S + 1 ≤ k ∧ k < w3.heap.size := fun k e => hso3.owns.lt k e
    have hso3d : HSo (S + 1) v hv w3.drew := by rcases hso3 with h | ⟨g, cap, e, hb, hs⟩; exact .inl h; exact .inr ⟨g, cap, e, hb, hs.len, hs.row, hs.lines, hs.apart⟩
    have hpv := hso3d.push h hl hgr hown
    have hgb : S + 1 ≤ g := (hown.lt g rfl).1
    have hl1 : (hv ++ [(h, Value.slice none 0 0)]).length = hv.length + 1 := by simp
    have hkeep : ∀ k, k < w3.heap.size → some k ≠ v.ownBlock → w4.heap[k]? = w3.heap[k]? := fun k hk hne => (hgr.block k (by simp; omega) hne).trans (Below.heap_alloc w3.drew ob k hk)
    refine ⟨.inr ⟨g, cap, by rw [hl1], hgb, hpv⟩, ?_, ?_, ?_, by omega⟩
    · exact (hkeep S (by omega) (fun e => by have := hvb S e.symm; omega)).trans hS3
    · refine (hkeep w1.heap.size (by omega) (fun e => ?_)).trans hB3
      obtain ⟨c, hc⟩ := owns_block hso3.owns e.symm
      have hvp := (hR1.hso.owns).lt w1.heap.size e.symm
      omega
    · exact (hbe3.drew.alloc (by show S ≤ w3.heap.size; omega) ob).grown hgr (by simp; omega) (fun k e => by have := hvb k e; omega)
  have hown3 := hso3.owns
  obtain ⟨av, cv, rfl⟩ := owns_isSlice hown3
  clear y0 y1 y2 y3 y4
  have x0 : w3.cell? ⟨S, 0, none⟩ = some (.slice av hv.length cv) := cell_of (k := 0) hS3 rfl
  have y0 : w3.cell? ⟨w1.heap.size, 0, none⟩ = some (.int .i64 (h.fr : Int)) := cell_of (k := 0) hB3 rfl
  have y1 : w3.cell? ⟨w1.heap.size, 1, none⟩ = some (.int .i64 (h.fc : Int)) := cell_of (k := 1) hB3 rfl
  have y2 : w3.cell? ⟨w1.heap.size, 2, none⟩ = some (.int .i64 (h.tr : Int)) := cell_of (k := 2) hB3 rfl
  have y3 : w3.cell? ⟨w1.heap.size, 3, none⟩ = some (.int .i64 (h.tc : Int)) := cell_of (k := 3) hB3 rfl
  have y4 : w3.cell? ⟨w1.heap.size, 4, none⟩ = some (.slice none 0 0) := cell_of (k := 4) hB3 rfl
  have x0a : (w3.alloc (.cells #[.int .i64 (h.fr : Int), .int .i64 (h.fc : Int), .int .i64 (h.tr : Int), .int .i64 (h.tc : Int), .slice none 0 0] 61)).cell? ⟨S, 0, none⟩ = some (.slice av hv.length cv) := (World.cell?_of_block (Below.heap_alloc w3 _ S (by omega))).trans x0
  have hmx : hv.length + 1 ≤ maxLen := by unfold maxLen; omega
  have hbase : S + 1 ≤ (w3.drew.alloc (.cells #[.int .i64 (h.fr : Int), .int .i64 (h.fc : Int), .int .i64 (h.tr : Int), .int .i64 (h.tc : Int), .slice none 0 0] 61)).heap.size := by simp; omega
  have hneS : ¬ w1.heap.size = S := by omega
  have hneS' : ¬ S = w1.heap.size := by omega
  have hro := fun w => restOf_any h none 0 0 w
  unfold hunkVal at hro
  go_region_law (refine step_append_own rfl (.tmp 26) (.tmp 28) 30 rfl (S + 1) 61 i0 _ 5 56 Tryz.underlying30 hi hz0 hz1 hz2 rfl (by decide) (.slice av hv.length cv) hv.length (hunkCells hv) (by simp [Act.eval]) (World.ownsRow.alloc (w := w3.drew) hown3 _) ⟨w3.heap.size, 0, none⟩ 1 1 [.int .i64 (h.fr : Int), .int .i64 (h.fc : Int), .int .i64 (h.tr : Int), .int .i64 (h.tc : Int), .slice none 0 0] (by simp [Act.eval]) rfl (cells_new w3.drew _ _) hone hmx (by omega) hbase ?_; intro v' w4 hown4 hgr4 _; obtain ⟨g', cap', rfl, hg', _⟩ := owns_slice hown4 (Nat.succ_pos _); obtain ⟨hso4, hS4, hB4, hbe4, hlt4⟩ := hpush.out _ w4 g' cap' hown4 hgr4; have x4 : w4.cell? ⟨S, 0, none⟩ = some (.slice av hv.length cv) := cell_of (k := 0) hS4 rfl; have xf : ∀ k, w4.frozen? ⟨S, k, none⟩ = false := fun k => frozen_of (k := k) hS4; have q0 : w4.cell? ⟨w1.heap.size, 0, none⟩ = some (.int .i64 (h.fr : Int)) := cell_of (k := 0) hB4 rfl; have q1 : w4.cell? ⟨w1.heap.size, 1, none⟩ = some (.int .i64 (h.fc : Int)) := cell_of (k := 1) hB4 rfl; have q2 : w4.cell? ⟨w1.heap.size, 2, none⟩ = some (.int .i64 (h.tr : Int)) := cell_of (k := 2) hB4 rfl; have q3 : w4.cell? ⟨w1.heap.size, 3, none⟩ = some (.int .i64 (h.tc : Int)) := cell_of (k := 3) hB4 rfl; have q4 : w4.cell? ⟨w1.heap.size, 4, none⟩ = some (.slice none 0 0) := cell_of (k := 4) hB4 rfl)
  all_goals
    go_wp2_with fail
    refine (hro _).mono ?_
    rintro e w6 ⟨rfl, hb6⟩
    have hsz6 := hb6.size
    rw [World.size_setCell] at hsz6
    have hS6 := (hb6.block S (by rw [World.size_setCell]; omega)).trans (heap_setCell_same w4 S 0 (.slice (some ⟨g', 0, none⟩) (hv.length + 1) cap') _ _ _ hS4)
    have xf6 : ∀ k, w6.frozen? ⟨S, k, none⟩ = false := fun k => frozen_of (k := k) hS6
    have x3 : w6.cell? ⟨S, 3, none⟩ = some (.int .i64 (st.f : Int)) := cell_of (k := 3) hS6 rfl
    have x4' : w6.cell? ⟨S, 4, none⟩ = some (.int .i64 (st.t : Int)) := cell_of (k := 4) hS6 rfl
    have x5 : w6.cell? ⟨S, 5, none⟩ = some (.bool st.b) := cell_of (k := 5) hS6 rfl
    go_wp2_with fail
    go_ret
    refine ⟨rfl, ⟨.slice (some ⟨g', 0, none⟩) (hv.length + 1) cap', hv ++ [(h, .slice none 0 0)], ?_, ?_, ?_⟩, ?_⟩
    · show _ = some (Obj.cells #[.slice (some ⟨g', 0, none⟩) (hv.length + 1) cap', .int .i64 ((placeM h.fr h.fc + h.fc : Nat) : Int), .int .i64 (st.gr + h.tc - h.fc), .int .i64 (h.fc : Int), .int .i64 (h.tc : Int), .bool false] 88 (0, 0))
      rw [hPL]
      exact heap_setCell_same _ _ _ _ _ _ _ (heap_setCell_same _ _ _ _ _ _ _ (heap_setCell_same _ _ _ _ _ _ _ hS6))
    · have a1 := hso4.kept (grownBy_setCell w4 S 0 (.slice (some ⟨g', 0, none⟩) (hv.length + 1) cap')) (fun k e => by cases e; exact .inr ⟨_, _, _, hS4, by decide, by decide⟩)
      exact (a1.below hb6).kept (grownBy_trans (grownBy_trans (grownBy_setCell _ _ _ _) (grownBy_setCell _ _ _ _)) (grownBy_setCell _ _ _ _)) (fun k e => by cases e; exact .inr ⟨_, _, _, hS6, by decide, by decide⟩)
    · rw [List.map_append, hR1.hs]
      rfl
    · exact ((((hbe4.setCell (p := ⟨S, 0, none⟩) (Nat.le_refl _) _).trans (hb6.mono (by rw [World.size_setCell]; omega))).setCell (p := ⟨S, 3, none⟩) (Nat.le_refl _) _).setCell (p := ⟨S, 4, none⟩) (Nat.le_refl _) _).setCell (p := ⟨S, 5, none⟩) (Nat.le_refl _) _
set_option maxHeartbeats 4000000 in
theorem rdheader_x {S : Nat} {st : Rd} {v : Value} {hv : List HV} {w : World} (hR : RdM S st v hv w) (hg : Glob w) :
    Calls Tryz.prog 77 #[.pointer (some ⟨S, 0, none⟩), .string ⟨#[120]⟩] w fun e w' => e = .returned (.bool false) ∧ Below w.heap.size w w' := by
  have hrh := readHeader_bad hg
  have hlt := hR.lt
  generalize (⟨#[120]⟩ : ByteArray) = s0 at *
  go_enter Tryz.func77, Tryz.ntmps77
  go_wp2_with (go_at_call 111; refine hrh.mono ?_; rintro e w1 ⟨rfl, hb1⟩)
  go_quiet (fail)
  go_wp2_with fail
  go_ret
  exact ⟨rfl, Below.drewN' (hb1.alloc hb1.size _)⟩
set_option maxHeartbeats 4000000 in
theorem rdheader_no {S : Nat} {st : Rd} {v : Value} {hv : List HV} {w : World} {h : HunkM} (hR : RdM S st v hv w) (hs : Small h) (hf3 : min h.fc 1 ≤ h.fr) (hf6 : min h.tc 1 ≤ h.tr) (hno : placeM h.fr h.fc < st.en ∨ ((placeM h.tr h.tc : Nat) : Int) ≠ placeM h.fr h.fc + st.gr) (hg1 : -1000000000 ≤ st.gr) (hg2 : st.gr ≤ 1000000000) (hg : Glob w) :
    Calls Tryz.prog 77 #[.pointer (some ⟨S, 0, none⟩), .string ⟨(headM h).toArray⟩] w fun e w' => e = .returned (.bool false) ∧ Below w.heap.size w w' := by
  have hrh := readHeader_ok hs hg
  have hlt := hR.lt
  have hA : Hid (∀ w1, Below w.heap.size w w1 → RdM S st v hv w1) := fun w1 hb => hR.below hb
  unfold hunkVal at hrh
  generalize (⟨(headM h).toArray⟩ : ByteArray) = s0 at *
  go_enter Tryz.func77, Tryz.ntmps77
  go_wp2_with (go_at_call 111; refine hrh.mono ?_; rintro e w1 ⟨rfl, hb1⟩)
  have hR1 := hA.out w1 hb1
  have hz1' := hb1.size
  have hB1 := heap_alloc_new w1 (hkCells h)
  have hS1 := (Below.heap_alloc w1 (hkCells h) S hR1.lt).trans hR1.blk
  have hsz1 : (w1.alloc (hkCells h)).heap.size = w1.heap.size + 1 := by simp
  have hbe1 : Below w.heap.size w (w1.alloc (hkCells h)) := hb1.alloc hz1' _
  generalize w1.alloc (hkCells h) = W2 at *
  have htk := take_noR h none 0 0 W2.drew (by have := hs.1; omega) (by have := hs.2.1; omega) hf3 (by have := hs.2.2.1; omega) (by have := hs.2.2.2; omega) hf6 hno (show W2.drew.heap[S]? = _ from hS1) hg1 hg2
  have y0 := cell_of (k := 0) hB1 rfl
  have y1 := cell_of (k := 1) hB1 rfl
  have y2 := cell_of (k := 2) hB1 rfl
  have y3 := cell_of (k := 3) hB1 rfl
  have y4 := cell_of (k := 4) hB1 rfl
  unfold hunkVal at htk
  refine wp_still_tail 7 mixed (by kernel_rfl) ?_
  simp only [List.take_succ_cons, List.take_zero, List.drop_succ_cons, List.drop_zero]
  repeat still_step
  refine wpStill_nil ?_
  go_wp2_with (go_at_call 68; refine htk.mono ?_; rintro e w3 ⟨rfl, hb3⟩)
  go_ret
  exact ⟨rfl, hbe1.drew.trans (hb3.mono (by show w.heap.size ≤ W2.heap.size; omega))⟩
end Go.Proofs.YtcclgodahlinbaaGreatDoor
