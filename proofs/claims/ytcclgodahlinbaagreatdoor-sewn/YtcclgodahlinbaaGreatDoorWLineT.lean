import Derived.Test.YtcclgodahlinbaaGreatDoorWLineR
namespace Go.Proofs.YtcclgodahlinbaaGreatDoor
open Go.RowKit Go
set_option maxRecDepth 100000

set_option maxHeartbeats 4000000 in
theorem line_take {S n : Nat} {st st' : Rd} {v : Value} {hv : List HV} {w : World} {s : StepB} (hR : RdM S st v hv w) (hs : Step st (.inr s) st') (hb : Bd n st) (hn : n ≤ 1000) :
    Calls Tryz.prog 35 #[.pointer (some ⟨S, 0, none⟩), .string ⟨(tokL (.inr s)).toArray⟩] w fun e w' => e = .returned (.bool true) ∧ (∃ v' hv', RdM S st' v' hv' w') ∧ Below S w w' := by
  obtain ⟨i0, hi, hz0, hz1, hz2⟩ := info_parts info_line
  obtain ⟨a1, a2, a3, a4, a5, init, h, e0, rfl⟩ := hs
  obtain ⟨b1, b2, b3, b4, b5, b6⟩ := hb
  have hlt := hR.lt
  obtain ⟨g, cap, i1, vl, rfl, hgb, rfl, him, hsv⟩ := hR.hso.last (hR.hs.trans e0)
  have hne : ¬ (st.f = 0 ∧ st.t = 0) := by have := kft a1; omega
  have hfu := full_no st.b hne w
  have x3 : w.cell? ⟨S, 3, none⟩ = some (.int .i64 (st.f : Int)) := cell_of (k := 3) hR.blk rfl
  have x4 : w.cell? ⟨S, 4, none⟩ = some (.int .i64 (st.t : Int)) := cell_of (k := 4) hR.blk rfl
  have x5 : w.cell? ⟨S, 5, none⟩ = some (.bool st.b) := cell_of (k := 5) hR.blk rfl
  have hkd : s.kind < 256 := by rcases a1 with e | e | e <;> omega
  generalize hsx : (⟨(tokL (.inr s)).toArray⟩ : ByteArray) = sx at *
  have hEm : sx.toList.isEmpty = false := by
    rw [← hsx]
    have : (⟨(tokL (.inr s)).toArray⟩ : ByteArray).toList = tokL (.inr s) := by rw [Lib.toList_data]
    rw [this]
    rfl
  have hSz : sx.size = s.text.size + 1 := by rw [← hsx, size_mk]; rfl
  have hI1 : (1 : Int) ≤ (s.text.size : Int) + 1 := by omega
  have hI0 : (0 : Int) < ((s.text.size + 1 : Nat) : Int) := by omega
  go_enter Tryz.func35, Tryz.ntmps35
  go_wp2_with (go_at_call 76; refine hfu.mono ?_; rintro e w1 ⟨rfl, hb1⟩)
  refine wp_still_tail 8 mixed (by kernel_rfl) ?_
  simp only [List.take_succ_cons, List.take_zero, List.drop_succ_cons, List.drop_zero]
  repeat still_step
  refine wpStill_nil ?_
  have hK0 : ∀ hh : 0 < sx.size, (sx[0]'hh).toNat = s.kind := by
    intro hh
    subst hsx
    show (UInt8.ofNat s.kind).toNat = s.kind
    simp
    omega
  have hT1 : Hid (sx.extract 1 sx.size = s.text) := by
    unfold Hid
    rw [Lib.extract_eq, ← hsx, size_mk]
    show (⟨((tokL (.inr s)).drop 1 |>.take _).toArray⟩ : ByteArray) = _
    have : (tokL (.inr s)).drop 1 = s.text.data.toList := rfl
    rw [this, List.take_of_length_le (by show s.text.data.toList.length ≤ (tokL (.inr s)).length - 1; simp [tokL])]
  simp only [hK0]
  have hS1 := (hb1.block S hlt).trans hR.blk
  have hz1' := hb1.size
  have htk := resttake_yesR w1.drew (show w1.drew.heap[S]? = _ from hS1) a1 a2 a3 (by omega) (by omega)
  have hsv1 : HSv (S + 1) g (i1.length + 1) cap (i1 ++ [(h, vl)]) w1 := ⟨hsv.len, owns_below hsv.row hb1 (fun k e => (hsv.row.lt k e).2), fun p hp => owns_below (hsv.lines p hp) hb1 (fun k e => ((hsv.lines p hp).lt k e).2), hsv.apart⟩
  have hsv1d : HSv (S + 1) g (i1.length + 1) cap (i1 ++ [(h, vl)]) w1.drew := ⟨hsv1.len, hsv1.row, hsv1.lines, hsv1.apart⟩
  have hA : Hid (∀ w2, w1.drew.grownBy w2 (some S) → HSv (S + 1) g (i1.length + 1) cap (i1 ++ [(h, vl)]) w2 ∧ Below S w w2 ∧ w.heap.size ≤ w2.heap.size) := by
    intro w2 hg2
    refine ⟨hsv1d.kept hg2 (fun k e => by cases e; exact .inr ⟨_, _, _, hS1, by decide, by decide⟩), ((hb1.mono (by omega)).drew).grown hg2 (by show S ≤ w1.heap.size; omega) (fun k e => by cases e; exact Nat.le_refl _), ?_⟩
    have := hg2.size
    have e : w1.drew.heap.size = w1.heap.size := rfl
    omega
  clear x3 x4 x5 hfu hsv1 hsv1d hS1 hsv hEm hR
  obtain ⟨f2, hf2⟩ : ∃ f2, f2 = st.f - kf s.kind := ⟨_, rfl⟩
  obtain ⟨t2, ht2⟩ : ∃ t2, t2 = st.t - kt s.kind := ⟨_, rfl⟩
  obtain ⟨bb, hbb⟩ : ∃ bb, bb = (st.b || decide (s.kind ≠ 32)) := ⟨_, rfl⟩
  rw [← hf2, ← ht2, ← hbb] at htk
  have hF2 : Hid (f2 = st.f - kf s.kind ∧ t2 = st.t - kt s.kind ∧ bb = (st.b || decide (s.kind ≠ 32))) := ⟨hf2, ht2, hbb⟩
  clear hf2 ht2 hbb
  go_wp2_with (go_at_call 78; refine htk.mono ?_; rintro e w2 ⟨rfl, hS2, hg2⟩)
  obtain ⟨hsv2, hbe2, hsz2⟩ := hA.out w2 hg2
  clear htk hA
  have x0 : w2.cell? ⟨S, 0, none⟩ = some (.slice (some ⟨g, 0, none⟩) (i1.length + 1) cap) := cell_of (k := 0) hS2 rfl
  have hil : i1.length ≤ 1000 := by have := congrArg List.length him; rw [List.length_map] at this; rw [e0] at b1; simp at b1; omega
  have hwv2 : IntKind.i64.wrap (i1.length : Int) = i1.length := by rw [IntKind.wrap_i64]; omega
  have hix3 : (i1.length : Int) < ((i1.length + 1 : Nat) : Int) := by omega
  have hix4 : (i1.length : Int) < (i1.length : Int) + 1 := by omega
  have hix5 : (0 : Int) ≤ (i1.length : Int) := by omega
  go_quiet (fail)
  have hsv0 : HSv (S + 1) g (i1.length + 1) cap (i1 ++ [(h, vl)]) (w2.drewN nq) := ⟨hsv2.len, hsv2.row, hsv2.lines, hsv2.apart⟩
  have hS0 : (w2.drewN nq).heap[S]? = _ := hS2
  have hbe0 : Below S w (w2.drewN nq) := Below.drewN' hbe2
  have hsz0 : w.heap.size ≤ (w2.drewN nq).heap.size := hsz2
  clear hsv2 hS2 hbe2 hsz2 x0
  generalize w2.drewN nq = W0 at *
  have hvl := hsv0.lines (h, vl) (by simp)
  obtain ⟨cur, hcur⟩ := owns_block hsv0.row (g := g) rfl
  have hgw : g < W0.heap.size := (Array.getElem?_eq_some_iff.1 hcur).1
  have hSw : S < W0.heap.size := by omega
  have hge : vl.ownBlock ≠ some g := owns_ne hvl hcur (by decide)
  have hcells := owns_hunk hsv0.row (i := i1.length) (by simp)
  simp only [last_get] at hcells
  obtain ⟨c0, c1, c2, c3, c4⟩ := hcells
  have hfz : ∀ k, W0.frozen? ⟨g, k, none⟩ = false := fun k => frozen_of hcur
  have hOg : Hid (hunkCells (i1 ++ [(h, vl)]) = hunkCells (i1 ++ [(h, vl)])) := rfl
  have hget := hunkCells_get (i1 ++ [(h, vl)]) i1.length (by simp)
  simp only [last_get] at hget
  have G : Hid _ := hget
  generalize hO : i1.length * 5 = O at c0 c1 c2 c3 c4 G ⊢
  have hll : h.lines.length ≤ 1000 := by have := b6 h (by rw [e0]; simp); omega
  have hT : s.text.size ≤ 281474976710656 := by omega
  have hbk : ∀ k, vl.ownBlock = some k → S + 1 ≤ k ∧ k < W0.heap.size := fun k e => hvl.lt k e
  have hX : Hid (∀ w1, Below W0.heap.size W0.drew w1 → w1.ownsRow (S + 1) 93 2 vl h.lines.length (stepCells h.lines) ∧ S + 1 ≤ w1.heap.size ∧ w1.cell? ⟨g, O + 4, none⟩ = some vl ∧ ∀ ob, (w1.alloc ob).cell? ⟨g, O + 4, none⟩ = some vl) := by
    intro w1 hb
    refine ⟨owns_below (w := W0.drew) hvl hb (fun k e => (hbk k e).2), by have := hb.size; have e : W0.drew.heap.size = W0.heap.size := rfl; omega, ?_⟩
    have hd := (hb.cell (p := ⟨g, O + 4, none⟩) (by show g < _; omega)).trans c4
    exact ⟨hd, fun ob => (World.cell?_of_block (Below.heap_alloc w1 ob g (by have := hb.size; have e : W0.drew.heap.size = W0.heap.size := rfl; omega))).trans hd⟩
  have hY : Hid (∀ w1 ob w2, Below W0.heap.size W0.drew w1 → (w1.alloc ob).grownBy w2 vl.ownBlock → w2.heap[g]? = W0.heap[g]? ∧ w2.heap[S]? = W0.heap[S]? ∧ (∀ k, k < W0.heap.size → some k ≠ vl.ownBlock → w2.heap[k]? = W0.heap[k]?) ∧ Below S w w2 ∧ W0.heap.size ≤ w2.heap.size) := by
    intro w1 ob w2 hb hg
    have hz1 := hb.size
    have e : W0.drew.heap.size = W0.heap.size := rfl
    have hz2 := hg.size
    rw [World.size_alloc] at hz2
    have hk1 : ∀ k, k < W0.heap.size → some k ≠ vl.ownBlock → w2.heap[k]? = W0.heap[k]? := by
      intro k hk hne
      rw [hg.block k (by rw [World.size_alloc]; omega) hne, Below.heap_alloc w1 ob k (by omega)]
      exact hb.block k hk
    refine ⟨hk1 g hgw (fun e => hge e.symm), hk1 S hSw (fun e => by have := hbk S e.symm; omega), hk1, ?_, by omega⟩
    exact ((hbe0.drew.trans (hb.mono (by omega))).alloc (by omega) ob).grown hg (by rw [World.size_alloc]; omega) (fun k e => by have := hbk k e; omega)
  have hone : ∀ u ∈ [Value.int .u8 (s.kind : Int), Value.string s.text], u.oneCell' = true := by intro u hu; simp at hu; rcases hu with rfl | rfl <;> rfl
  have hm1 : h.lines.length + 1 ≤ maxLen := by unfold maxLen; omega
  have hm2 : (h.lines.length + 1) * 24 ≤ 140737488355328 := by omega
  have hbs : ∀ (w1 : World) ob, S + 1 ≤ w1.heap.size → S + 1 ≤ (w1.alloc ob).heap.size := by intro w1 ob hh; rw [World.size_alloc]; omega
  have hT1a := hT1.out
  have hT1b : sx.extract 1 (s.text.size + 1) = s.text := by rw [← hSz]; exact hT1a
  clear hT1 hcur
  go_wp2_with fail
  go_region_law (first | (refine step_call rfl 79 _ _ rfl #[.string s.text] (by simp [Act.eval] <;> rfl) (run_clone _ _) (fun v w' => v = .string s.text ∧ Below W0.heap.size W0.drew w') ((clone_any s.text W0.drew hT).mono (fun e w' h => ⟨_, h.1, rfl, h.2⟩)) ?_; rintro v w1 ⟨rfl, hb1⟩; obtain ⟨hl1, hz1', d41, d42⟩ := hX.out w1 hb1) | (refine step_append_own rfl (.tmp 44) (.tmp 51) 59 rfl (S + 1) 93 i0 _ 2 24 Tryz.underlying59 hi hz0 hz1 hz2 rfl (by decide) vl h.lines.length (stepCells h.lines) (by simp [Act.eval] <;> rfl) (hl1.alloc _) ⟨w1.heap.size, 0, none⟩ 1 1 [.int .u8 (s.kind : Int), .string s.text] (by simp [Act.eval] <;> rfl) rfl (cells_new w1 _ _) hone hm1 hm2 (hbs w1 _ hz1') ?_; intro vl' w2 hown' hgrow hnew; obtain ⟨g', cap', rfl, _, _⟩ := owns_slice hown' (Nat.succ_pos _); obtain ⟨e1, e2, e3, e4, e5⟩ := hY.out w1 _ w2 hb1 hgrow; have f4 : w2.cell? ⟨g, O + 4, none⟩ = some vl := (World.cell?_of_block (a := ⟨g, O + 4, none⟩) e1).trans c4; have ff : ∀ k, w2.frozen? ⟨g, k, none⟩ = false := fun k => (World.frozen?_of_block (a := ⟨g, k, none⟩) e1).trans (hfz k)))
  all_goals
    go_wp2_with fail
    go_ret
    refine ⟨rfl, ⟨.slice (some ⟨g, 0, none⟩) (i1.length + 1) cap, i1 ++ [({ h with lines := h.lines ++ [s] }, .slice (some ⟨g', 0, none⟩) (h.lines.length + 1) cap')], ?_, ?_, ?_⟩, ?_⟩
    · show _ = some (Obj.cells #[.slice (some ⟨g, 0, none⟩) (i1.length + 1) cap, .int .i64 (st.en : Int), .int .i64 st.gr, .int .i64 ((st.f - kf s.kind : Nat) : Int), .int .i64 ((st.t - kt s.kind : Nat) : Int), .bool (st.b || decide (s.kind ≠ 32))] 88 (0, 0))
      rw [← hF2.out.1, ← hF2.out.2.1, ← hF2.out.2.2]
      exact ((heap_setCell_other _ g S _ _ (by omega)).trans e2).trans hS0
    · refine .inr ⟨g, cap, by simp, hgb, ?_⟩
      have hlen : (i1 ++ [(({ h with lines := h.lines ++ [s] } : HunkM), Value.slice (some ⟨g', 0, none⟩) (h.lines.length + 1) cap')]).length = i1.length + 1 := by simp
      rw [hlen]
      refine lineMore_fin hsv0 hown' e3 (hnew.imp id (fun hh k e => by have h1 := hh k e; have h2 := hb1.size; rw [World.size_alloc] at h1; have e : W0.drew.heap.size = W0.heap.size := rfl; omega)) (grownBy_setCell _ _ _ _) ?_
      intro cu hcu htk
      obtain ⟨cu', k1, k2, k3⟩ := heap1 (o1 := O + 4) (v1 := .slice (some ⟨g', 0, none⟩) (h.lines.length + 1) cap') hcu ((i1.length + 1) * 5)
      refine ⟨cu', k1, k2, ?_⟩
      obtain ⟨G0, G1, G2, G3, G4⟩ := G.out
      rw [k3, hO, htk, set_self G0, set_self G1, set_self G2, set_self G3]
    · rw [List.map_append, him]
      rfl
    · exact e4.setCell (p := ⟨g, O + 4, none⟩) (by show S ≤ g; omega) _
end Go.Proofs.YtcclgodahlinbaaGreatDoor
