import Derived.Test.YtcclgodahlinbaaGreatDoorWHunk
import Derived.Deep.Cut
namespace Go.Proofs.YtcclgodahlinbaaGreatDoor
open Go.RowKit Go
set_option maxRecDepth 100000

theorem last_get {α : Type} (l : List α) (x : α) : (l ++ [x])[l.length]'(by simp) = x := by simp

theorem set_self {l : List Value} {i : Nat} {v : Value} (h : l[i]? = some v) : l.set i v = l := by
  apply List.ext_getElem?
  intro j
  rw [List.getElem?_set]
  split
  · rename_i e; subst e
    split
    · exact h.symm
    · rename_i hh; rw [List.getElem?_eq_none (by omega)] at h; cases h
  · rfl

theorem five {l : List Value} {O : Nat} {f a t b c : Value} (h0 : l[O]? = some f) (h2 : l[O + 2]? = some t) :
    ((((l.set O f).set (O + 1) a).set (O + 2) t).set (O + 3) b).set (O + 4) c = ((l.set (O + 4) c).set (O + 1) a).set (O + 3) b := by
  rw [set_self h0]
  have e : ((l.set (O + 1) a)).set (O + 2) t = l.set (O + 1) a := set_self (by rw [List.getElem?_set]; simp [h2])
  rw [e, List.set_comm b c (by omega), List.set_comm a c (by omega)]

theorem heap3 {w : World} {g o1 o2 o3 : Nat} {v1 v2 v3 : Value} {cur : Array Value} {t : TypeId} (h : w.heap[g]? = some (.cells cur t (0, 0))) (n : Nat) :
    ∃ cur', (((w.setCell ⟨g, o1, none⟩ v1).setCell ⟨g, o2, none⟩ v2).setCell ⟨g, o3, none⟩ v3).heap[g]? = some (.cells cur' t (0, 0)) ∧ cur'.size = cur.size ∧ cur'.toList.take n = (((cur.toList.take n).set o1 v1).set o2 v2).set o3 v3 :=
  ⟨_, heap_setCell_same _ _ _ _ _ _ _ (heap_setCell_same _ _ _ _ _ _ _ (heap_setCell_same _ _ _ _ _ _ _ h)), by simp, by simp [List.take_set]⟩
theorem heap2 {w : World} {g o1 o2 : Nat} {v1 v2 : Value} {cur : Array Value} {t : TypeId} (h : w.heap[g]? = some (.cells cur t (0, 0))) (n : Nat) :
    ∃ cur', ((w.setCell ⟨g, o1, none⟩ v1).setCell ⟨g, o2, none⟩ v2).heap[g]? = some (.cells cur' t (0, 0)) ∧ cur'.size = cur.size ∧ cur'.toList.take n = ((cur.toList.take n).set o1 v1).set o2 v2 :=
  ⟨_, heap_setCell_same _ _ _ _ _ _ _ (heap_setCell_same _ _ _ _ _ _ _ h), by simp, by simp [List.take_set]⟩

/-- what addLine leaves: the last hunk has a line more -/
theorem addLine_fin {base g n cap : Nat} {init : List HV} {h : HunkM} {vl vl' : Value} {s : StepB} {w w2 w3 : World} (hs : HSv base g n cap (init ++ [(h, vl)]) w)
    (hown : w2.ownsRow base 93 2 vl' (h.lines.length + 1) (stepCells h.lines ++ [.int .u8 (s.kind : Nat), .string s.text]))
    (hold : ∀ k, k < w.heap.size → some k ≠ vl.ownBlock → w2.heap[k]? = w.heap[k]?)
    (hnew : vl'.ownBlock = vl.ownBlock ∨ ∀ k, vl'.ownBlock = some k → w.heap.size ≤ k)
    (hg : w2.grownBy w3 (some g))
    (hw3 : ∀ cur, w2.heap[g]? = some (.cells cur 61 (0, 0)) → cur.toList.take (n * 5) = hunkCells (init ++ [(h, vl)]) → ∃ cur', w3.heap[g]? = some (.cells cur' 61 (0, 0)) ∧ cur'.size = cur.size ∧
      cur'.toList.take (n * 5) = ((((cur.toList.take (n * 5)).set (init.length * 5) (.int .i64 (h.fr : Nat))).set (init.length * 5 + 1) (.int .i64 ((addL h s).fc : Nat))).set (init.length * 5 + 2) (.int .i64 (h.tr : Nat)) |>.set (init.length * 5 + 3) (.int .i64 ((addL h s).tc : Nat))).set (init.length * 5 + 4) vl') :
    HSv base g n cap (init ++ [(addL h s, vl')]) w3 := by
  have hn := hs.len
  have hmem : ∀ p ∈ init, w.ownsRow base 93 2 p.2 p.1.lines.length (stepCells p.1.lines) := fun p hp => hs.lines p (by simp [hp])
  have hvl := hs.lines (h, vl) (by simp)
  have hap : ∀ p ∈ init, p.2.ownBlock = none ∨ p.2.ownBlock ≠ vl.ownBlock := by
    have := hs.apart
    rw [List.pairwise_append] at this
    exact fun p hp => this.2.2 p hp (h, vl) (by simp)
  have hgl : ∀ {v : Value} {m : Nat} {xs : List Value} {w' : World}, w'.ownsRow base 93 2 v m xs → (∃ cur, w'.heap[g]? = some (.cells cur 61 (0, 0))) → v.ownBlock ≠ some g := by
    intro v m xs w' ho ⟨cur, hc⟩
    exact owns_ne ho hc (by decide)
  obtain ⟨cur, hcur⟩ := owns_block hs.row (g := g) rfl
  have hgw : g < w.heap.size := (Array.getElem?_eq_some_iff.1 hcur).1
  have hg2 : w2.heap[g]? = w.heap[g]? := hold g hgw (fun e => hgl hvl ⟨cur, hcur⟩ e.symm)
  have hrow2 : w2.ownsRow base 61 5 (.slice (some ⟨g, 0, none⟩) n cap) n (hunkCells (init ++ [(h, vl)])) := by
    obtain ⟨a, b⟩ := hs.row
    refine ⟨a, ?_⟩
    rcases b with b | ⟨g', cap', cur', e, hb, hg', r⟩
    · exact .inl b
    · cases e
      exact .inr ⟨g, cap, cur', rfl, hb, hg2.trans hg', r⟩
  refine ⟨by simp at hn ⊢; exact hn, ?_, ?_, ?_⟩
  · have := owns_setHunk hrow2 hn (i := init.length) (by simp) (addL h s, vl') hw3
    simpa using this
  · intro p hp
    rw [List.mem_append] at hp
    rcases hp with hp | hp
    · have ho := hmem p hp
      have ho2 : w2.ownsRow base 93 2 p.2 p.1.lines.length (stepCells p.1.lines) := by
        obtain ⟨a, b⟩ := ho
        refine ⟨a, ?_⟩
        rcases b with b | ⟨g', cap', cur', e, hb, hg', r⟩
        · exact .inl b
        · refine .inr ⟨g', cap', cur', e, hb, (hold g' (Array.getElem?_eq_some_iff.1 hg').1 ?_).trans hg', r⟩
          intro e2
          rcases hap p hp with h3 | h3
          · rw [e] at h3; cases h3
          · exact h3 (by rw [← e2, e]; rfl)
      exact ho2.kept hg (.inr (hgl ho2 ⟨cur, hg2.trans hcur⟩))
    · simp at hp
      subst hp
      have := hown.kept hg (.inr (hgl hown ⟨cur, hg2.trans hcur⟩))
      show World.ownsRow _ _ _ _ _ (h.lines ++ [s]).length (stepCells (h.lines ++ [s]))
      rw [stepCells_append, List.length_append]
      exact this
  · rw [List.pairwise_append]
    have := hs.apart
    rw [List.pairwise_append] at this
    refine ⟨this.1, by simp, fun p hp q hq => ?_⟩
    simp at hq
    subst hq
    rcases hap p hp with h3 | h3
    · exact .inl h3
    · rcases hnew with h4 | h4
      · right; show p.2.ownBlock ≠ vl'.ownBlock; rw [h4]; exact h3
      · cases hb : p.2.ownBlock with
        | none => exact .inl rfl
        | some k =>
          right
          intro e
          have h5 := h4 k e.symm
          have h6 := ((hmem p hp).lt k hb).2
          omega

set_option maxHeartbeats 2000000 in
theorem addLine_sm {base g n cap : Nat} {init : List HV} {h : HunkM} {vl : Value} {w : World} (s : StepB) (hs : HSv base g n cap (init ++ [(h, vl)]) w) (hbase : base ≤ w.heap.size) (hgb : base ≤ g)
    (hk : s.kind = 32 ∨ s.kind = 45 ∨ s.kind = 43) (hfc : h.fc ≤ 1000) (htc : h.tc ≤ 1000) (hll : h.lines.length ≤ 1000) (hT : s.text.size ≤ 281474976710656) :
    Calls Tryz.prog 57 #[.pointer (some ⟨g, init.length * 5, none⟩), .agg #[.int .u8 (s.kind : Nat), .string s.text]] w fun e w' =>
      e = .returned (.tuple #[]) ∧ ∃ vl', HSv base g n cap (init ++ [(addL h s, vl')]) w' ∧ Below base w w' ∧ ∀ k, k < w.heap.size → k ≠ g → some k ≠ vl.ownBlock → w'.heap[k]? = w.heap[k]? := by
  obtain ⟨i0, hi, hz0, hz1, hz2⟩ := info_parts info_line
  have hvl := hs.lines (h, vl) (by simp)
  obtain ⟨cur, hcur⟩ := owns_block hs.row (g := g) rfl
  have hgw : g < w.heap.size := (Array.getElem?_eq_some_iff.1 hcur).1
  have hge : vl.ownBlock ≠ some g := owns_ne hvl hcur (by decide)
  have hcells := owns_hunk hs.row (i := init.length) (by simp)
  simp only [last_get] at hcells
  obtain ⟨c0, c1, c2, c3, c4⟩ := hcells
  have hfz : ∀ k, w.frozen? ⟨g, k, none⟩ = false := fun k => frozen_of hcur
  generalize hO : init.length * 5 = O at c0 c1 c2 c3 c4 ⊢
  go_enter Tryz.func57, Tryz.ntmps57
  go_wp2_with fail
  have hB0 := heap_alloc_new w (.cells #[.int .u8 (s.kind : Int), .string s.text] 120)
  have hO0 := fun k (hk : k < w.heap.size) => Below.heap_alloc w (.cells #[.int .u8 (s.kind : Int), .string s.text] 120) k hk
  have hZ0 : (w.alloc (.cells #[.int .u8 (s.kind : Int), .string s.text] 120)).heap.size = w.heap.size + 1 := by simp
  have hbel0 : Below base w (w.alloc (.cells #[.int .u8 (s.kind : Int), .string s.text] 120)) := (Below.refl _ _).alloc hbase _
  have hvl0 := hvl.alloc (.cells #[.int .u8 (s.kind : Int), .string s.text] 120)
  generalize w.alloc (.cells #[.int .u8 (s.kind : Int), .string s.text] 120) = W0 at hB0 hO0 hZ0 hbel0 hvl0 ⊢
  have hZ0' : Hid (W0.heap.size = w.heap.size + 1) := hZ0
  have hB0' : Hid (W0.heap[w.heap.size]? = some (.cells #[.int .u8 (s.kind : Int), .string s.text] 120 (0, 0))) := hB0
  have hO0' : Hid (∀ k, k < w.heap.size → W0.heap[k]? = w.heap[k]?) := hO0
  have b0 : W0.cell? ⟨w.heap.size, 0, none⟩ = some (.int .u8 (s.kind : Int)) := cell_of hB0 rfl
  have b1 : W0.cell? ⟨w.heap.size, 1, none⟩ = some (.string s.text) := cell_of hB0 rfl
  have d4 : W0.cell? ⟨g, O + 4, none⟩ = some vl := by rw [← c4]; exact World.cell?_of_block (hO0 g hgw)
  have hbk : ∀ k, vl.ownBlock = some k → k < w.heap.size := fun k e => (hvl.lt k e).2
  have hX : Hid (∀ w1, Below W0.heap.size W0.drew w1 → w1.ownsRow base 93 2 vl h.lines.length (stepCells h.lines) ∧ base ≤ w1.heap.size ∧ w1.cell? ⟨g, O + 4, none⟩ = some vl ∧ w1.cell? ⟨w.heap.size, 0, none⟩ = some (.int .u8 (s.kind : Int)) ∧ g < w1.heap.size ∧ w.heap.size < w1.heap.size) := by
    intro w1 hb
    refine ⟨owns_below (w := W0.drew) hvl0 hb (fun k e => by have := hbk k e; omega), by have := hb.size; have := hZ0; simp at *; omega, ?_, ?_, by have := hb.size; have := hZ0; simp at *; omega, by have := hb.size; have := hZ0; simp at *; omega⟩
    · exact (hb.cell (p := ⟨g, O + 4, none⟩) (by show g < _; omega)).trans d4
    · exact (hb.cell (p := ⟨w.heap.size, 0, none⟩) (by show w.heap.size < _; omega)).trans b0
  have hY : Hid (∀ w1 ob w2, Below W0.heap.size W0.drew w1 → (w1.alloc ob).grownBy w2 vl.ownBlock → w2.heap[g]? = w.heap[g]? ∧ w2.heap[w.heap.size]? = some (.cells #[.int .u8 (s.kind : Int), .string s.text] 120 (0, 0)) ∧ (∀ k, k < w.heap.size → some k ≠ vl.ownBlock → w2.heap[k]? = w.heap[k]?) ∧ Below base w w2) := by
    intro w1 ob w2 hb hg
    have hz1 := hb.size
    have hk1 : ∀ k, k ≤ w.heap.size → some k ≠ vl.ownBlock → w2.heap[k]? = W0.heap[k]? := by
      intro k hk hne
      rw [hg.block k (by simp at *; omega) hne, Below.heap_alloc w1 ob k (by simp at *; omega)]
      exact hb.block k (by omega)
    refine ⟨(hk1 g (by omega) (fun e => hge e.symm)).trans (hO0 g hgw), (hk1 w.heap.size (by omega) (fun e => by have := hbk _ e.symm; omega)).trans hB0, fun k hk hne => (hk1 k (by omega) hne).trans (hO0 k hk), ?_⟩
    exact ((hbel0.drew.trans (hb.mono (by omega))).alloc (by simp at *; omega) ob).grown hg (by simp at *; omega) (fun k e => (hvl.lt k e).1)
  have hone : ∀ u ∈ [Value.int .u8 (s.kind : Int), Value.string s.text], u.oneCell' = true := by intro u hu; simp at hu; rcases hu with rfl | rfl <;> rfl
  have hm1 : h.lines.length + 1 ≤ maxLen := by unfold maxLen; omega
  have hm2 : (h.lines.length + 1) * 24 ≤ 140737488355328 := by omega
  have hbs : ∀ (w1 : World) ob, base ≤ w1.heap.size → base ≤ (w1.alloc ob).heap.size := by intro w1 ob hh; simp; omega
  clear hB0 hO0 hZ0 hbel0 hvl0
  go_cut [] from 4 (fun wc => ∃ g' cap' w2, w2.ownsRow base 93 2 (.slice (some ⟨g', 0, none⟩) (h.lines.length + 1) cap') (h.lines.length + 1) (stepCells h.lines ++ [.int .u8 (s.kind : Int), .string s.text]) ∧
      w2.heap[g]? = w.heap[g]? ∧ w2.heap[w.heap.size]? = some (.cells #[.int .u8 (s.kind : Int), .string s.text] 120 (0, 0)) ∧ (∀ k, k < w.heap.size → some k ≠ vl.ownBlock → w2.heap[k]? = w.heap[k]?) ∧ Below base w w2 ∧
      ((Value.slice (some ⟨g', 0, none⟩) (h.lines.length + 1) cap').ownBlock = vl.ownBlock ∨ ∀ k, (Value.slice (some ⟨g', 0, none⟩) (h.lines.length + 1) cap').ownBlock = some k → w.heap.size ≤ k) ∧ wc = w2.setCell ⟨g, O + 4, none⟩ (.slice (some ⟨g', 0, none⟩) (h.lines.length + 1) cap'))
  case first =>
    go_region_law (first | (refine step_call rfl 79 _ _ rfl #[.string s.text] (by simp [Act.eval]) (run_clone _ _) (fun v w' => v = .string s.text ∧ Below W0.heap.size W0.drew w') ((clone_any s.text W0.drew hT).mono (fun e w' h => ⟨_, h.1, rfl, h.2⟩)) ?_; rintro v w1 ⟨rfl, hb1⟩; obtain ⟨hl1, hz1', d41, b01, hgw1, hbw1⟩ := hX.out w1 hb1) | (refine step_append_own rfl (.tmp 8) (.tmp 15) 59 rfl base 93 i0 _ 2 24 Tryz.underlying59 hi hz0 hz1 hz2 rfl (by decide) vl h.lines.length (stepCells h.lines) (by simp [Act.eval]) (hl1.alloc _) ⟨w1.heap.size, 0, none⟩ 1 1 [.int .u8 (s.kind : Int), .string s.text] (by simp [Act.eval]) rfl (cells_new w1 _ _) hone hm1 hm2 (hbs w1 _ hz1') ?_; intro vl' w2 hown' hgrow hnew; obtain ⟨g', cap', rfl, _, _⟩ := owns_slice hown' (Nat.succ_pos _); obtain ⟨e1, e2, e3, e4⟩ := hY.out w1 _ w2 hb1 hgrow; have f1 := (World.cell?_of_block (a := ⟨g, O + 1, none⟩) e1).trans c1; have f3 := (World.cell?_of_block (a := ⟨g, O + 3, none⟩) e1).trans c3; have f4 := (World.cell?_of_block (a := ⟨g, O + 4, none⟩) e1).trans c4; have ff := fun k => (World.frozen?_of_block (a := ⟨g, k, none⟩) e1).trans (hfz k); have b02 : w2.cell? ⟨w.heap.size, 0, none⟩ = some (.int .u8 (s.kind : Int)) := cell_of e2 rfl))
    all_goals
      go_wp2_with fail
      go_meet
      case rel => exact ⟨g', cap', w2, hown', e1, e2, e3, e4, hnew.imp id (fun hh k e => by have h1 := hh k e; have h2 := hb1.size; have h3 := hZ0'.out; simp at h1 h2; omega), rfl⟩
  case rest =>
    obtain ⟨g', cap', w2, hown', e1, e2, e3, e4, hnew, rfl⟩ := hcut
    have f1 := (World.cell?_of_block (a := ⟨g, O + 1, none⟩) e1).trans c1
    have f3 := (World.cell?_of_block (a := ⟨g, O + 3, none⟩) e1).trans c3
    have f4 := (World.cell?_of_block (a := ⟨g, O + 4, none⟩) e1).trans c4
    have ff := fun k => (World.frozen?_of_block (a := ⟨g, k, none⟩) e1).trans (hfz k)
    have b02 : w2.cell? ⟨w.heap.size, 0, none⟩ = some (.int .u8 (s.kind : Int)) := cell_of e2 rfl
    have hgB : ¬ g = w.heap.size := by omega
    have hgB' : ¬ w.heap.size = g := by omega
    clear hX hY b0 b1 d4 c0 c1 c2 c3 c4 hone hm1 hm2 hbs hZ0' hB0' hO0'
    have E : Hid ((∀ k, k < w.heap.size → some k ≠ vl.ownBlock → w2.heap[k]? = w.heap[k]?) ∧ Below base w w2 ∧ ((Value.slice (some ⟨g', 0, none⟩) (h.lines.length + 1) cap').ownBlock = vl.ownBlock ∨ ∀ k, (Value.slice (some ⟨g', 0, none⟩) (h.lines.length + 1) cap').ownBlock = some k → w.heap.size ≤ k)) := ⟨e3, e4, hnew⟩
    have hget := hunkCells_get (init ++ [(h, vl)]) init.length (by simp)
    simp only [last_get, hO] at hget
    have G : Hid _ := hget
    clear e1 e2 e3 e4 hnew hget hfz hcur hbk hge
    rcases hk with hk | hk | hk
    · have b03 : w2.cell? ⟨w.heap.size, 0, none⟩ = some (.int .u8 32) := by rw [b02, hk]; rfl
      clear b02
      have hA : Hid ((addL h s).fc = h.fc + 1 ∧ (addL h s).tc = h.tc + 1) := by unfold Hid addL; simp [hk]
      clear hk
      go_wp2
      go_end0
      refine ⟨rfl, _, addLine_fin hs hown' E.out.1 E.out.2.2 (grownBy_trans (grownBy_trans (grownBy_setCell _ _ _ _) (grownBy_setCell _ _ _ _)) (grownBy_setCell _ _ _ _)) ?_, ((E.out.2.1.setCell (p := ⟨g, O + 4, none⟩) hgb _).setCell (p := ⟨g, O + 1, none⟩) hgb _).setCell (p := ⟨g, O + 3, none⟩) hgb _, fun k h1 h2 h3 => (heap_setCell_other _ g k _ _ h2).trans ((heap_setCell_other _ g k _ _ h2).trans ((heap_setCell_other _ g k _ _ h2).trans (E.out.1 k h1 h3)))⟩
      intro cu hcu htk
      obtain ⟨cu', k1, k2, k3⟩ := heap3 (o1 := O + 4) (o2 := O + 1) (o3 := O + 3) (v1 := .slice (some ⟨g', 0, none⟩) (h.lines.length + 1) cap') (v2 := .int .i64 ((h.fc : Int) + 1)) (v3 := .int .i64 ((h.tc : Int) + 1)) hcu (n * 5)
      refine ⟨cu', k1, k2, ?_⟩
      rw [k3, hO, five (by rw [htk]; exact G.out.1) (by rw [htk]; exact G.out.2.2.1), hA.out.1, hA.out.2]
      rfl
    · have b03 : w2.cell? ⟨w.heap.size, 0, none⟩ = some (.int .u8 45) := by rw [b02, hk]; rfl
      clear b02
      have hA : Hid ((addL h s).fc = h.fc + 1 ∧ (addL h s).tc = h.tc) := by unfold Hid addL; simp [hk]
      clear hk
      go_wp2
      go_end0
      refine ⟨rfl, _, addLine_fin hs hown' E.out.1 E.out.2.2 (grownBy_trans (grownBy_setCell _ _ _ _) (grownBy_setCell _ _ _ _)) ?_, (E.out.2.1.setCell (p := ⟨g, O + 4, none⟩) hgb _).setCell (p := ⟨g, O + 1, none⟩) hgb _, fun k h1 h2 h3 => (heap_setCell_other _ g k _ _ h2).trans ((heap_setCell_other _ g k _ _ h2).trans (E.out.1 k h1 h3))⟩
      intro cu hcu htk
      obtain ⟨cu', k1, k2, k3⟩ := heap2 (o1 := O + 4) (o2 := O + 1) (v1 := .slice (some ⟨g', 0, none⟩) (h.lines.length + 1) cap') (v2 := .int .i64 ((h.fc : Int) + 1)) hcu (n * 5)
      refine ⟨cu', k1, k2, ?_⟩
      rw [k3, hO, five (by rw [htk]; exact G.out.1) (by rw [htk]; exact G.out.2.2.1), hA.out.1, hA.out.2]
      refine (set_self ?_).symm
      rw [List.getElem?_set, List.getElem?_set, htk]
      simp [G.out.2.2.2.1]
    · have b03 : w2.cell? ⟨w.heap.size, 0, none⟩ = some (.int .u8 43) := by rw [b02, hk]; rfl
      clear b02
      have hA : Hid ((addL h s).fc = h.fc ∧ (addL h s).tc = h.tc + 1) := by unfold Hid addL; simp [hk]
      clear hk
      go_wp2
      go_end0
      refine ⟨rfl, _, addLine_fin hs hown' E.out.1 E.out.2.2 (grownBy_trans (grownBy_setCell _ _ _ _) (grownBy_setCell _ _ _ _)) ?_, (E.out.2.1.setCell (p := ⟨g, O + 4, none⟩) hgb _).setCell (p := ⟨g, O + 3, none⟩) hgb _, fun k h1 h2 h3 => (heap_setCell_other _ g k _ _ h2).trans ((heap_setCell_other _ g k _ _ h2).trans (E.out.1 k h1 h3))⟩
      intro cu hcu htk
      obtain ⟨cu', k1, k2, k3⟩ := heap2 (o1 := O + 4) (o2 := O + 3) (v1 := .slice (some ⟨g', 0, none⟩) (h.lines.length + 1) cap') (v2 := .int .i64 ((h.tc : Int) + 1)) hcu (n * 5)
      refine ⟨cu', k1, k2, ?_⟩
      rw [k3, hO, five (by rw [htk]; exact G.out.1) (by rw [htk]; exact G.out.2.2.1), hA.out.1, hA.out.2]
      rw [set_self (l := (List.take (n * 5) cu.toList).set (O + 4) _) (i := O + 1)]
      · rfl
      · rw [List.getElem?_set, htk]; simp [G.out.2.1]
end Go.Proofs.YtcclgodahlinbaaGreatDoor
