import Derived.Test.YtcclgodahlinbaaGreatDoorPatchesuptoT06
import Derived.Deep.RegionLaw
import Derived.Deep.DeepCutAuto
import Derived.Test.YtcclgodahlinbaaGreatDoorPatchesuptoT03
import Derived.Test.YtcclgodahlinbaaGreatDoorPatchesuptoT08
import Derived.Laws.CopyRow
import Derived.OwnWalk
import Derived.BigRegion
namespace Go.Proofs.YtcclgodahlinbaaGreatDoor
open Go.RowKit Go
set_option maxRecDepth 100000
theorem owns_addrl {w : World} {base e size n cl : Nat} {al : Option Addr} {xs : List Value} (h : w.ownsRow base e size (.slice al n cl) n xs) : ∀ a, al = some a → a = ⟨a.block, 0, none⟩ := by
  intro a ha
  subst ha
  rcases h.2 with ⟨e, _⟩ | ⟨g, cap, cur, e, _⟩
  · cases e
  · cases e; rfl
theorem info_ls : (Tryz.prog.info? 59).map (fun i => (i.zero, i.size, i.bytes)) = some (some (.slice none 0 0), 1, 24) := by kernel_rfl
theorem owns_set2l {w : World} {bl n i : Nat} {xs : List Value} {a b : Value} {al : Option Addr} {cl : Nat} (h : w.ownsRow bl 93 2 (.slice al n cl) n (pats [a, b] i ++ xs.drop (i * 2))) (hx : xs.length = n * 2) (hi : i < n) :
    ∃ g, al = some ⟨g, 0, none⟩ ∧ g < w.heap.size ∧ (∃ cur, w.heap[g]? = some (.cells cur 93 (0, 0)) ∧ i * 2 + 1 < cur.size) ∧ ((w.setCell ⟨g, i * 2, none⟩ a).setCell ⟨g, i * 2 + 1, none⟩ b).ownsRow bl 93 2 (.slice al n cl) n (pats [a, b] (i + 1) ++ xs.drop ((i + 1) * 2)) := by
  rcases h.2 with ⟨_, h0⟩ | ⟨g, cap, cur, e, hb, hg, h1, h2, h3, h4⟩
  · omega
  · cases e
    have hsz : i * 2 + 1 < cur.size := by rw [h3]; omega
    have hpl : (pats [a, b] i).length = i * 2 := pats_length [a, b] i
    refine ⟨g, rfl, (Array.getElem?_eq_some_iff.1 hg).1, ⟨cur, hg, hsz⟩, ?_, .inr ⟨g, cl, _, rfl, hb, heap_setCell_same _ _ _ _ _ _ _ (heap_setCell_same _ _ _ _ _ _ _ hg), h1, h2, by simp [h3], ?_⟩⟩
    · rw [List.length_append, pats_length, List.length_drop, hx]
      show (i + 1) * 2 + _ = _
      omega
    · have h5 : List.take (n * 2) ((cur.setIfInBounds (i * 2) a).setIfInBounds (i * 2 + 1) b).toList = ((List.take (n * 2) cur.toList).set (i * 2) a).set (i * 2 + 1) b := by
        simp [List.take_set]
      rw [h5, h4]
      apply List.ext_getElem?
      intro j
      rw [List.getElem?_set, List.getElem?_set]
      have hl1 : (pats [a, b] i ++ xs.drop (i * 2)).length = n * 2 := by rw [List.length_append, hpl, List.length_drop, hx]; omega
      have hl2 : (pats [a, b] (i + 1)).length = (i + 1) * 2 := pats_length [a, b] (i + 1)
      by_cases e1 : i * 2 + 1 = j
      · subst e1
        rw [if_pos rfl, if_pos (by rw [List.length_set, hl1]; omega), List.getElem?_append_left (by rw [hl2]; omega)]
        have := pats_get [a, b] (i + 1) i 1 (by omega) (by simp)
        simpa using this.symm
      · rw [if_neg e1]
        by_cases e2 : i * 2 = j
        · subst e2
          rw [if_pos rfl, if_pos (by rw [hl1]; omega), List.getElem?_append_left (by rw [hl2]; omega)]
          have := pats_get [a, b] (i + 1) i 0 (by omega) (by simp)
          simpa using this.symm
        · rw [if_neg e2]
          by_cases e3 : j < i * 2
          · rw [List.getElem?_append_left (by rw [hpl]; omega), List.getElem?_append_left (by rw [hl2]; omega)]
            rw [pats, List.getElem?_append_left (by rw [hpl]; omega)]
          · rw [List.getElem?_append_right (by rw [hpl]; omega), List.getElem?_append_right (by rw [hl2]; omega), List.getElem?_drop, List.getElem?_drop, hpl, hl2]
            congr 1
            omega
theorem linesOf_step {base wb bl N cl' : Nat} {al' : Option Addr} {x : WV} {B : Bk} {E : List (Value × Value)} {w4 w5 : World} {t : ByteArray} {v' : Value} {ob : Obj} (K : Kept base wb x { B with l := B.l ++ E } w4) (hN : N ≤ 1990000)
    (row4 : w4.ownsRow bl 93 2 (.slice al' N cl') N (pats (patT (.string t)) N)) (hE : ∀ p ∈ E, p.2 = .string t ∧ ∃ al m cl, p.1 = .slice al m cl ∧ m ≤ N ∧ ∀ a, al = some a → a = ⟨a.block, 0, none⟩) (hfr : ∀ p ∈ B.l, p.1.ownBlock = none ∨ p.1.ownBlock ≠ (Value.slice al' N cl').ownBlock)
    (row5 : w5.ownsRow bl 93 2 v' (N + 1) (pats (patT (.string t)) N ++ [.int .u8 63, .string t]))
    (h3 : (v'.ownBlock = (Value.slice al' N cl').ownBlock ∧ (w4.alloc ob).grownBy w5 (Value.slice al' N cl').ownBlock) ∨ ((∀ g, v'.ownBlock = some g → (w4.alloc ob).heap.size ≤ g) ∧ (w4.alloc ob).grownBy w5 none)) :
    Kept base wb x { B with l := B.l ++ E } w5 ∧ Frame base w4 w5 (fun g => some g = (Value.slice al' N cl').ownBlock) ∧ w5.ownsRow bl 93 2 v' (N + 1) (pats (patT (.string t)) (N + 1)) ∧ (∀ p ∈ B.l, p.1.ownBlock = none ∨ p.1.ownBlock ≠ v'.ownBlock) ∧ (∀ g, g < w4.heap.size → some g ≠ (Value.slice al' N cl').ownBlock → w5.heap[g]? = w4.heap[g]?) := by
  have hrow : w5.ownsRow bl 93 2 v' (N + 1) (pats (patT (.string t)) (N + 1)) := row5
  have hold : ∀ g, g < w4.heap.size → some g ≠ (Value.slice al' N cl').ownBlock → w5.heap[g]? = w4.heap[g]? := fun g hg hne => by
    rcases h3 with ⟨_, h⟩ | ⟨_, h⟩
    · rw [h.block g (by simp; omega) hne]; exact Below.heap_alloc w4 ob g hg
    · rw [h.block g (by simp; omega) (by simp)]; exact Below.heap_alloc w4 ob g hg
  have hz : w4.heap.size ≤ w5.heap.size := by
    rcases h3 with ⟨_, h⟩ | ⟨_, h⟩
    · have := h.size; simp at this; omega
    · have := h.size; simp at this; omega
  have hOut : Outs w4 w5 := by
    rcases h3 with ⟨_, h⟩ | ⟨_, h⟩
    · exact (Outs.alloc w4 ob).trans (Outs.of_grown h)
    · exact (Outs.alloc w4 ob).trans (Outs.of_grown h)
  refine ⟨?_, ⟨hz, fun g hg => ?_, hOut⟩, hrow, ?_, hold⟩
  · refine K.skip_l (vb := (Value.slice al' N cl').ownBlock) (fun g hg _ => ?_) hold (fun p hp => ?_)
    · obtain ⟨c, hc⟩ := owns_block row4 hg
      exact ⟨c, _, hc⟩
    · rcases List.mem_append.1 hp with hp' | hp'
      · exact .inl (hfr p hp')
      · by_cases hq : p.1.ownBlock = (Value.slice al' N cl').ownBlock
        · right
          rcases h3 with ⟨e, _⟩ | ⟨_, h⟩
          · obtain ⟨e2, al, m, cl, e1, hm, ha⟩ := hE p hp'
            rw [e2]
            rw [e1] at hq ⊢
            exact Mark.of_owns (pat := patT (.string t)) hrow (by omega) (by omega) (e.trans hq.symm) ha
          · exact (K.l.ok p hp).same fun g _ ⟨c, f, hg⟩ => by
              have hlt := (Array.getElem?_eq_some_iff.1 hg).1
              rw [h.block g (by simp; omega) (by simp)]; exact Below.heap_alloc w4 ob g hlt
        · exact .inl (.inr hq)
  · by_cases hq : some g = (Value.slice al' N cl').ownBlock
    · exact .inr (.inl hq)
    · exact .inl (hold g hg hq)
  · intro p hp
    rcases h3 with ⟨e, _⟩ | ⟨e, _⟩
    · rw [e]; exact hfr p hp
    · cases hv : p.1.ownBlock with
      | none => exact .inl rfl
      | some g =>
        right
        intro e2
        have h1 := e g e2.symm
        have hM := ((K.l.ok p (List.mem_append_left _ hp)).lt g hv).1
        simp at h1
        omega
set_option maxHeartbeats 8000000 in
theorem linesOf_far {F : Nat → Prop} {base wb bl n cl : Nat} {al : Option Addr} {x : WV} {B : Bk} {w : World} {xs : List Value} (K : Kept base wb x B w) (hv : w.ownsRow bl 93 2 (.slice al n cl) n xs) (hn : n ≤ 1900000)
    (hfresh : ∀ p ∈ B.l, p.1.ownBlock = none ∨ p.1.ownBlock ≠ (Value.slice al n cl).ownBlock) (hbase : base ≤ w.heap.size) (hbl : bl ≤ w.heap.size) (hc : x.c ≤ 8000000000000) (hl : B.l.length ≤ 800000000000)
    (hFar : Hid (∀ g, F g → g < w.heap.size ∧ g ≠ wb ∧ x.l.ownBlock ≠ some g ∧ x.lm.ownBlock ≠ some g ∧ (Value.slice al n cl).ownBlock ≠ some g)) :
    Calls Tryz.prog 113 #[.pointer (some ⟨wb, 0, none⟩), .slice al n cl] w fun e w' => e = .returned (.tuple #[]) ∧ ∃ (x' : WV) (E : List (Value × Value)), Kept base wb x' { B with l := B.l ++ E } w' ∧ E.length = 4 ∧ x'.c = x.c + 1 ∧
      (∀ p ∈ E, p.1.ownBlock = (Value.slice al n cl).ownBlock ∨ ∀ g, p.1.ownBlock = some g → w.heap.size ≤ g) ∧ Frame base w w' (fun g => some g = (Value.slice al n cl).ownBlock) ∧ (∀ g, F g → w'.heap[g]? = w.heap[g]? ∧ x'.l.ownBlock ≠ some g ∧ x'.lm.ownBlock ≠ some g) := by
  obtain ⟨i0, hi, ix0, ix1, ix2⟩ := info_parts info_ls
  obtain ⟨j0, ji, jx0, jx1, jx2⟩ := info_parts info_str
  obtain ⟨k0, ki, kx0, kx1, kx2⟩ := info_parts info_line
  have hwb : wb < w.heap.size := (Array.getElem?_eq_some_iff.1 K.blk).1
  go_enter Tryz.func113, Tryz.ntmps113
  go_wp2_with fail
  refine (word_ok K.blk hc).mono ?_
  rintro e w1 ⟨t, rfl, ht8, hk1, hs1, hz1, hO1⟩
  have K1 := K.count hk1 hs1
  have hFw : Hid (∀ g, F g → w1.heap[g]? = w.heap[g]?) := fun g hg => hs1 g (hFar.out g hg).1 (hFar.out g hg).2.1
  have hnw : ∀ g, (Value.slice al n cl).ownBlock = some g → g ≠ wb := fun g hg => by
    obtain ⟨c, hc⟩ := owns_block hv hg
    exact block_ne hc K.blk (by decide)
  have hv1 : w1.ownsRow bl 93 2 (.slice al n cl) n xs := owns_same hv fun g hg => hs1 g (hv.lt g hg).2 (hnw g hg)
  have hxb : (w1.alloc (.cells #[.int .u8 63, .string t] 93)).heap[w1.heap.size]? = some (.cells #[.int .u8 63, .string t] 93 (0, 0)) := heap_alloc_new w1 _
  have hw2 : Hid (∀ g, g < w1.heap.size → (w1.alloc (.cells #[.int .u8 63, .string t] 93)).heap[g]? = w1.heap[g]?) := fun g hg => Below.heap_alloc w1 _ g hg
  have hz2 : (w1.alloc (.cells #[.int .u8 63, .string t] 93)).heap.size = w1.heap.size + 1 := by simp
  have hv2 := hv1.alloc (.cells #[.int .u8 63, .string t] 93)
  have hgx : Hid (∀ g, (Value.slice al n cl).ownBlock = some g → g < w1.heap.size) := fun g hg => (hv1.lt g hg).2
  have hlen : Hid (xs.length = n * 2) := hv.1
  have hF1 : Hid (∀ g, g < w.heap.size → w1.heap[g]? = w.heap[g]? ∨ ∃ cur t fr, w.heap[g]? = some (.cells cur t fr) ∧ t ∈ Tys ∧ base ≤ g) := fun g hg => by
    by_cases e : g = wb
    · subst e; exact .inr ⟨_, _, _, K.blk, by decide, K.wlo⟩
    · exact .inl (hs1 g hg e)
  have hO2 : Hid (Outs w (w1.alloc (.cells #[.int .u8 63, .string t] 93))) := hO1.trans (Outs.alloc _ _)
  have hv0 : Hid (∀ g, (Value.slice al n cl).ownBlock = some g → ∃ cur fr, w1.heap[g]? = some (.cells cur 93 fr)) := fun g hg => by
    obtain ⟨c, hc⟩ := owns_block hv1 hg
    exact ⟨c, _, hc⟩
  go_wp2_with fail
  obtain ⟨xb, hxbE⟩ : ∃ xb, w1.heap.size = xb := ⟨_, rfl⟩
  rw [hxbE] at hxb hz2 ⊢
  generalize w1.alloc (.cells #[.int .u8 63, .string t] 93) = w2 at *
  clear hk1 hs1 hv1
  go_loopg [5] n (fun g t5 wr => ∃ i : Nat, g = n - i ∧ i ≤ n ∧ t5 = .int .i64 i ∧ wr.ownsRow bl 93 2 (.slice al n cl) n (pats (patT (.string t)) i ++ xs.drop (i * 2)) ∧ Hid ((∀ g, some g ≠ (Value.slice al n cl).ownBlock → wr.heap[g]? = w2.heap[g]?) ∧ Outs w wr) ∧ wr.heap.size = xb + 1)
  case atStart => exact ⟨0, by omega, by omega, rfl, by simpa [pats] using hv2, ⟨fun g _ => rfl, hO2.out⟩, hz2⟩
  case round =>
    rename World => wr
    obtain ⟨i, hgi, hin, rfl, hrow, hoth, hzr⟩ := hrel
    have hG : Hid (_ = n - i) := hgi
    clear hgi
    have hxr : wr.heap[xb]? = some (.cells #[.int .u8 63, .string t] 93 (0, 0)) := by
      rw [hoth.out.1 xb (fun e => by have := hgx.out xb e.symm; omega)]; exact hxb
    by_cases hi2 : i < n
    · have hiI : (i : Int) < n := by omega
      obtain ⟨g, rfl, hg, ⟨cur, hcur, hsz⟩, hrow2⟩ := owns_set2l (a := .int .u8 63) (b := .string t) hrow hlen.out hi2
      have c0 : wr.cell? ⟨g, i * 2, none⟩ = some (cur[i * 2]'(by omega)) := cell_of hcur (by simp)
      have c1 : wr.cell? ⟨g, i * 2 + 1, none⟩ = some (cur[i * 2 + 1]'hsz) := cell_of hcur (by simp [hsz])
      have fz : ∀ k, wr.frozen? ⟨g, k, none⟩ = false := fun k => frozen_of hcur
      have y0 : wr.cell? ⟨xb, 0, none⟩ = some (.int .u8 63) := cell_of hxr rfl
      have y1 : wr.cell? ⟨xb, 1, none⟩ = some (.string t) := cell_of hxr rfl
      have hR : (∃ j : Nat, n - (i + 1) = n - j ∧ j ≤ n ∧ Value.int .i64 ((i : Int) + 1) = .int .i64 j ∧ ((wr.setCell ⟨g, i * 2, none⟩ (.int .u8 63)).setCell ⟨g, i * 2 + 1, none⟩ (.string t)).ownsRow bl 93 2 (.slice (some ⟨g, 0, none⟩) n cl) n (pats (patT (.string t)) j ++ xs.drop (j * 2)) ∧ Hid ((∀ g', some g' ≠ (Value.slice (some ⟨g, 0, none⟩) n cl).ownBlock → ((wr.setCell ⟨g, i * 2, none⟩ (.int .u8 63)).setCell ⟨g, i * 2 + 1, none⟩ (.string t)).heap[g']? = w2.heap[g']?) ∧ Outs w ((wr.setCell ⟨g, i * 2, none⟩ (.int .u8 63)).setCell ⟨g, i * 2 + 1, none⟩ (.string t))) ∧ ((wr.setCell ⟨g, i * 2, none⟩ (.int .u8 63)).setCell ⟨g, i * 2 + 1, none⟩ (.string t)).heap.size = xb + 1) := by
        refine ⟨i + 1, rfl, by omega, by push_cast; rfl, hrow2, ⟨fun g' hne => ?_, hoth.out.2.trans ((Outs.setCell _ _ _).trans (Outs.setCell _ _ _))⟩, by simp; exact hzr⟩
        have hgg : g' ≠ g := fun e => hne (by rw [e]; rfl)
        rw [heap_setCell_other _ _ _ _ _ hgg, heap_setCell_other _ _ _ _ _ hgg]
        exact hoth.out.1 g' hne
      have hRH : Hid _ := hR
      clear hR hrow2 hrow hoth hcur hxr
      go_wp2_with fail
      go_roundg (n - (i + 1))
      · exact hRH.out
      · have := hG.out; omega
    · obtain rfl : i = n := by omega
      have hiI : ¬ ((i : Int) < i) := by omega
      have hrow3 : wr.ownsRow bl 93 2 (.slice al i cl) i (pats (patT (.string t)) i) := by
        have h := hrow
        rw [List.drop_of_length_le (by rw [hlen.out]; exact Nat.le_refl _), List.append_nil] at h
        exact h
      have K3 : Kept base wb { x with c := x.c + 1 } B wr := by
        refine Kept.skip_l (vb := (Value.slice al i cl).ownBlock) K1 (fun g hg _ => hv0.out g hg) (fun g hg hne => (hoth.out.1 g hne).trans (hw2.out g hg)) (fun p hp => .inl (hfresh p hp))
      have hFr : Frame base w wr (fun g => some g = (Value.slice al i cl).ownBlock) := by
        refine ⟨by omega, fun g hg => ?_, hoth.out.2⟩
        by_cases e : some g = (Value.slice al i cl).ownBlock
        · exact .inr (.inl e)
        · rw [hoth.out.1 g e, hw2.out g (by omega)]
          rcases hF1.out g hg with h | h
          · exact .inl h
          · exact .inr (.inr h)
      have hKH : Hid (Kept base wb { x with c := x.c + 1 } B wr ∧ Frame base w wr (fun g => some g = (Value.slice al i cl).ownBlock)) := ⟨K3, hFr⟩
      have hF3 : Hid (∀ g, F g → wr.heap[g]? = w.heap[g]?) := fun g hg => by
        obtain ⟨f1, f2, f3, f4, f5⟩ := hFar.out g hg
        rw [hoth.out.1 g (fun e => f5 e.symm), hw2.out g (by omega)]
        exact hFw.out g hg
      have hnx : Hid ((Value.slice al i cl).ownBlock ≠ some xb) := fun e => by have := hgx.out xb e; omega
      clear K1 K3 hFr hrow hoth hv2 hxb hF1 hv0 hgx
      go_wp2_with fail
      go_loopg [1, 6] 4 (fun g t1 t6 wk => ∃ (j : Nat) (al' : Option Addr) (cl' : Nat) (x' : WV) (E : List (Value × Value)), g = 4 - j ∧ j ≤ 4 ∧ t6 = .int .i64 j ∧ t1 = .slice al' (i + j) cl' ∧ wk.ownsRow bl 93 2 (.slice al' (i + j) cl') (i + j) (pats (patT (.string t)) (i + j)) ∧ Kept base wb x' { B with l := B.l ++ E } wk ∧ E.length = j ∧ x'.c = x.c + 1 ∧
        Hid ((∀ p ∈ E, p.1.ownBlock = (Value.slice al i cl).ownBlock ∨ ∀ g, p.1.ownBlock = some g → w.heap.size ≤ g) ∧ (∀ p ∈ E, p.2 = .string t ∧ ∃ al m cl, p.1 = .slice al m cl ∧ m ≤ i + j ∧ ∀ a, al = some a → a = ⟨a.block, 0, none⟩) ∧ (∀ p ∈ B.l, p.1.ownBlock = none ∨ p.1.ownBlock ≠ (Value.slice al' (i + j) cl').ownBlock) ∧ ((Value.slice al' (i + j) cl').ownBlock = (Value.slice al i cl).ownBlock ∨ ∀ g, (Value.slice al' (i + j) cl').ownBlock = some g → w.heap.size ≤ g) ∧ (Value.slice al' (i + j) cl').ownBlock ≠ some xb ∧ Frame base w wk (fun g => some g = (Value.slice al i cl).ownBlock) ∧ ∀ g, F g → wk.heap[g]? = w.heap[g]? ∧ x'.l.ownBlock ≠ some g ∧ x'.lm.ownBlock ≠ some g ∧ (Value.slice al' (i + j) cl').ownBlock ≠ some g) ∧ wk.heap[xb]? = some (.cells #[.int .u8 63, .string t] 93 (0, 0)))
      case atStart => exact ⟨0, al, cl, { x with c := x.c + 1 }, [], rfl, by omega, rfl, rfl, hrow3, by simpa using hKH.out.1, rfl, rfl, ⟨by simp, by simp, hfresh, .inl rfl, hnx.out, hKH.out.2, fun g hg => ⟨hF3.out g hg, (hFar.out g hg).2.2.1, (hFar.out g hg).2.2.2.1, (hFar.out g hg).2.2.2.2⟩⟩, hxr⟩
      case round =>
        rename World => wk
        obtain ⟨j, al', cl', x', E, hgj, hj4, rfl, rfl, hrowk, Kk, hEl, hxc, hH, hxk⟩ := hrel
        have hG2 : Hid (_ = 4 - j) := hgj
        have hxbk : xb < wk.heap.size := (Array.getElem?_eq_some_iff.1 hxk).1
        clear hgj hKH hnx hrow3 hxr
        by_cases hj2 : j < 4
        · have hjI : (j : Int) < 4 := by omega
          obtain ⟨N, hNe⟩ : ∃ N, (B.l ++ E).length = N := ⟨_, rfl⟩
          have hNN : Hid ((B.l ++ E).length = N) := hNe
          have hN : N = B.l.length + j := by rw [← hNe, List.length_append, hEl]
          have hwbk : wb < wk.heap.size := (Array.getElem?_eq_some_iff.1 Kk.blk).1
          have hbk : base ≤ wk.heap.size := by have := hH.out.2.2.2.2.2.1.1; omega
          have hblk : bl ≤ wk.heap.size := by have := hH.out.2.2.2.2.2.1.1; omega
          have c2 : wk.cell? ⟨wb, 2, none⟩ = some x'.l := cell_of Kk.blk rfl
          have hor : wk.ownsRow base 59 1 x'.l N ((B.l ++ E).map (·.1)) := by rw [← hNe]; exact Kk.l.row
          have hmar : wk.ownsRow base 9 1 x'.lm N ((B.l ++ E).map (·.2)) := by rw [← hNe]; exact Kk.l.marks
          have hon1 : ∀ u ∈ [Value.slice al' (i + j) cl'], u.oneCell' = true := by intro u hu; simp at hu; subst hu; rfl
          have hon2 : ∀ u ∈ [Value.string t], u.oneCell' = true := by intro u hu; simp at hu; subst hu; rfl
          have hon3 : ∀ u ∈ [Value.int .u8 63, Value.string t], u.oneCell' = true := by intro u hu; simp at hu; rcases hu with rfl | rfl <;> rfl
          have hm2 : (N + 1) * 24 ≤ 140737488355328 := by omega
          have hm3 : (N + 1) * 16 ≤ 140737488355328 := by omega
          have hm6 : i + j + 1 ≤ 1990000 := Nat.le_trans (Nat.add_le_add_right (Nat.add_le_add hn (Nat.le_of_lt hj2)) 1) (by decide)
          have hm5 : (i + j + 1) * 24 ≤ 140737488355328 := Nat.le_trans (Nat.mul_le_mul_right 24 hm6) (by decide)
          have hxcb : x'.c ≤ 8000000000001 := by rw [hxc]; exact Nat.succ_le_succ hc
          have hm1 : N + 1 ≤ maxLen := by unfold maxLen; omega
          have hm4 : i + j + 1 ≤ maxLen := Nat.le_trans hm6 (by decide)
          have hnr : Hid (x'.l.ownBlock ≠ some wb ∧ x'.lm.ownBlock ≠ some wb ∧ x'.l.ownBlock ≠ some xb ∧ x'.lm.ownBlock ≠ some xb ∧ ∀ g, x'.lm.ownBlock = some g → g ≠ wb ∧ some g ≠ x'.l.ownBlock) := by
            refine ⟨fun e => ?_, fun e => ?_, fun e => ?_, fun e => ?_, fun g e => ⟨?_, fun e2 => ?_⟩⟩
            · obtain ⟨c, hc⟩ := owns_block Kk.l.row e; exact block_ne hc Kk.blk (by decide) rfl
            · obtain ⟨c, hc⟩ := owns_block Kk.l.marks e; exact block_ne hc Kk.blk (by decide) rfl
            · obtain ⟨c, hc⟩ := owns_block Kk.l.row e; exact block_ne hc hxk (by decide) rfl
            · obtain ⟨c, hc⟩ := owns_block Kk.l.marks e; exact block_ne hc hxk (by decide) rfl
            · obtain ⟨c, hc⟩ := owns_block Kk.l.marks e; exact block_ne hc Kk.blk (by decide)
            · obtain ⟨c, hc⟩ := owns_block Kk.l.marks e; obtain ⟨c2, hc2⟩ := owns_block Kk.l.row e2.symm; exact block_ne hc hc2 (by decide) rfl
          have hA : Hid (∀ (ob : Obj) (wA : World), (wk.alloc ob).grownBy wA x'.l.ownBlock → wA.heap[wb]? = some x'.obj ∧ wA.heap[xb]? = some (.cells #[.int .u8 63, .string t] 93 (0, 0)) ∧ wA.ownsRow base 9 1 x'.lm N ((B.l ++ E).map (·.2)) ∧ wk.heap.size ≤ wA.heap.size) := by
            intro ob wA g1
            have k1 : ∀ g, g < wk.heap.size → some g ≠ x'.l.ownBlock → wA.heap[g]? = wk.heap[g]? := fun g hg hne => by
              rw [g1.block g (by simp; omega) hne]; exact Below.heap_alloc wk ob g hg
            have z1 := g1.size
            simp at z1
            exact ⟨(k1 wb hwbk (fun e => hnr.out.1 e.symm)).trans Kk.blk, (k1 xb hxbk (fun e => hnr.out.2.2.1 e.symm)).trans hxk, owns_same hmar fun g hg => k1 g (Kk.l.marks.lt g hg).2 (hnr.out.2.2.2.2 g hg).2, by omega⟩
          have hM : Hid (Mark 93 2 (patT (.string t)) wk (.slice al' (i + j) cl')) := Mark.of_owns (pat := patT (.string t)) hrowk (Nat.le_refl _) (by exact Nat.le_trans (Nat.le_succ _) (Nat.le_trans hm6 (by decide))) rfl (owns_addrl hrowk)
          have hKH : Hid (Kept base wb x' { B with l := B.l ++ E } wk) := Kk
          have hrH : Hid (wk.ownsRow bl 93 2 (.slice al' (i + j) cl') (i + j) (pats (patT (.string t)) (i + j))) := hrowk
          have haddr : Hid (∀ a, al' = some a → a = ⟨a.block, 0, none⟩) := owns_addrl hrowk
          have hfzk : ∀ k, wk.frozen? ⟨wb, k, none⟩ = false := fun k => frozen_of Kk.blk
          have hxkH : Hid (wk.heap[xb]? = some (.cells #[.int .u8 63, .string t] 93 (0, 0))) := hxk
          have hxw : xb ≠ wb := block_ne hxk Kk.blk (by decide)
          clear Kk hrowk hxk hlen hw2 hN hNe
          go_wp2_with (at_builtin; refine wpList_append_own2 rfl (.tmp 28) (.tmp 30) 51 rfl base 59 i0 _ 1 24 Tryz.underlying51 hi ix0 ix1 ix2 rfl (by decide) x'.l N ((B.l ++ E).map (·.1)) rfl (hor.alloc _) ⟨wk.heap.size, 0, none⟩ 1 1 [.slice al' (i + j) cl'] rfl rfl (cells_new wk _ _) hon1 hm1 hm2 (by simp; omega) ?_; intro v1 wA o1 g1 n1; obtain ⟨a1, c1, rfl⟩ := owns_isSlice o1; obtain ⟨bA, xA, mA, zA⟩ := hA.out _ wA g1; have cA : wA.cell? ⟨wb, 2, none⟩ = some x'.l := cell_of bA rfl; have fA : ∀ k, wA.frozen? ⟨wb, k, none⟩ = false := fun k => frozen_of bA; have o1H : Hid _ := o1; have g1H : Hid _ := g1; have n1H : Hid _ := n1; clear o1 g1 n1)
          obtain ⟨U, hUe⟩ : ∃ U, wA.setCell ⟨wb, 2, none⟩ (.slice a1 (N + 1) c1) = U := ⟨_, rfl⟩
          have bU : U.heap[wb]? = some ({ x' with l := .slice a1 (N + 1) c1 } : WV).obj := by rw [← hUe, heap_setCell_same _ _ _ _ _ _ _ bA]; rfl
          have xU : U.heap[xb]? = some (.cells #[.int .u8 63, .string t] 93 (0, 0)) := by rw [← hUe, heap_setCell_other _ _ _ _ _ hxw]; exact xA
          have mU : U.ownsRow base 9 1 x'.lm N ((B.l ++ E).map (·.2)) := by rw [← hUe]; exact owns_same mA fun g hg => heap_setCell_other _ _ _ _ _ (hnr.out.2.2.2.2 g hg).1
          have zU : wk.heap.size ≤ U.heap.size := by rw [← hUe]; simpa using zA
          have d3 : U.cell? ⟨wb, 3, none⟩ = some x'.lm := cell_of bU rfl
          have dx : U.cell? ⟨xb, 1, none⟩ = some (.string t) := cell_of xU rfl
          have dfz : ∀ k, U.frozen? ⟨wb, k, none⟩ = false := fun k => frozen_of bU
          have hxbU : xb < U.heap.size := Nat.lt_of_lt_of_le hxbk zU
          have hwbU : wb < U.heap.size := Nat.lt_of_lt_of_le hwbk zU
          have hbs : ∀ ob, base ≤ ((U.alloc ob).drew).heap.size := by intro ob; simp; exact Nat.le_trans (Nat.le_trans hbk zU) (Nat.le_succ _)
          have mUd : ((U.alloc (.cells #[.string t] 9)).drew).ownsRow base 9 1 x'.lm N ((B.l ++ E).map (·.2)) := mU.alloc _
          have hcn : ∀ (j : Nat) (u : Value), [Value.string t][j]? = some u → ((U.alloc (.cells #[.string t] 9)).drew).cell? ((⟨U.heap.size, 0, none⟩ : Addr).add j) = some u := cells_new U [.string t] 9
          have hY : Hid (∀ (ob : Obj) (w3 : World), ((U.alloc ob).drew).grownBy w3 x'.lm.ownBlock → w3.heap[wb]? = U.heap[wb]?) := by
            intro ob w3 g2
            rw [g2.block wb (by simp; exact Nat.lt_of_lt_of_le hwbU (Nat.le_succ _)) (fun e => hnr.out.2.1 e.symm)]
            exact Below.heap_alloc U ob wb hwbU
          have hpush : Hid (∀ (ob : Obj) (v2 : Value) (w3 : World), ((U.alloc ob).drew).grownBy w3 x'.lm.ownBlock → w3.ownsRow base 9 1 v2 (N + 1) ((B.l ++ E).map (·.2) ++ [.string t]) → (v2.ownBlock = x'.lm.ownBlock ∨ ∀ g, v2.ownBlock = some g → ((U.alloc ob).drew).heap.size ≤ g) →
              ∃ x2 : WV, Kept base wb x2 { B with l := B.l ++ (E ++ [(.slice al' (i + j) cl', .string t)]) } (w3.setCell ⟨wb, 3, none⟩ v2) ∧ x2.c = x'.c ∧ Frame base wk (w3.setCell ⟨wb, 3, none⟩ v2) (fun _ => False) ∧ (∀ g, F g → (w3.setCell ⟨wb, 3, none⟩ v2).heap[g]? = w.heap[g]? ∧ x2.l.ownBlock ≠ some g ∧ x2.lm.ownBlock ≠ some g)) := by
            intro ob v2 w3 g2 o2 n2
            obtain ⟨k1, k2, k3⟩ := hKH.out.push_l (m := .string t) (v1 := .slice a1 (N + 1) c1) (v2 := v2) (w3 := w3) g1H.out (by show wA.ownsRow base 59 1 _ ((B.l ++ E).length + 1) _; rw [hNN.out]; exact o1H.out) (by rw [hUe]; exact ⟨g2.os, g2.tape, g2.output, g2.size, g2.block⟩) (by show w3.ownsRow base 9 1 _ ((B.l ++ E).length + 1) _; rw [hNN.out]; exact o2) (n2.imp id fun h g e => by have h1 := h g e; simp at h1; omega) hM.out ⟨fun h => absurd h (by decide), fun _ => ⟨t, rfl⟩⟩
            refine ⟨{ x' with l := .slice a1 (N + 1) c1, lm := v2 }, ?_, rfl, k2, fun g hg => ?_⟩
            · rw [← List.append_assoc]
              exact k1
            · obtain ⟨f1, f2, f3, f4⟩ := hH.out.2.2.2.2.2.2 g hg
              have hgw := (hFar.out g hg).1
              have hwk := hH.out.2.2.2.2.2.1.1
              refine ⟨(k3 g (by omega) (hFar.out g hg).2.1 (fun e => f2 e.symm) (fun e => f3 e.symm)).trans f1, ?_, ?_⟩
              · rcases n1H.out with e | e
                · intro e2; exact f2 (e.symm.trans e2)
                · intro e2
                  have h1 := e g e2
                  simp at h1
                  omega
              · rcases n2 with e | e
                · intro e2; exact f3 (e.symm.trans e2)
                · intro e2
                  have h1 := e g e2
                  simp at h1
                  omega
          clear bA xA mA zA cA fA
          rw [hUe]
          clear hUe o1H g1H n1H bU xU hA hor c2 hfzk hmar
          go_cut [] (fun wx => ∃ x2 : WV, Kept base wb x2 { B with l := B.l ++ (E ++ [(.slice al' (i + j) cl', .string t)]) } wx ∧ x2.c = x'.c ∧ Frame base wk wx (fun _ => False) ∧ (∀ g, F g → wx.heap[g]? = w.heap[g]? ∧ x2.l.ownBlock ≠ some g ∧ x2.lm.ownBlock ≠ some g))
          case first =>
            go_region_law (refine step_append_own rfl (.tmp 38) (.tmp 41) 27 rfl base 9 j0 _ 1 16 Tryz.underlying27 ji jx0 jx1 jx2 rfl (by decide) x'.lm N ((B.l ++ E).map (·.2)) (by simp [Act.eval]) mUd ⟨U.heap.size, 0, none⟩ 1 1 [.string t] (by simp [Act.eval]) rfl hcn hon2 hm1 hm3 (hbs _) ?_; intro v2 w3 o2 g2 n2; obtain ⟨a2, c2, rfl⟩ := owns_isSlice o2; have b3 := hY.out _ w3 g2; have e3 := (World.cell?_of_block (a := ⟨wb, 3, none⟩) b3).trans d3; have f3 := fun k => (World.frozen?_of_block (a := ⟨wb, k, none⟩) b3).trans (dfz k))
            all_goals
              have hR := hpush.out _ _ w3 g2 o2 n2
              have hRH : Hid _ := hR
              clear hR hpush hY g2 o2 n2
              go_wp2_with fail
              go_meet
              case rel => exact hRH.out
          case rest =>
            obtain ⟨x2, K4, hx2c, F4, hF4⟩ := hcut
            have hF4H : Hid _ := hF4
            clear hF4
            obtain ⟨W4, rfl⟩ : ∃ W4, W4 = wc := ⟨_, rfl⟩
            have hx4 : W4.heap[xb]? = some (.cells #[.int .u8 63, .string t] 93 (0, 0)) := (F4.at hxkH.out (by decide) (fun h => h)).trans hxkH.out
            have row4 : W4.ownsRow bl 93 2 (.slice al' (i + j) cl') (i + j) (pats (patT (.string t)) (i + j)) := owns_same hrH.out fun g hg => by
              obtain ⟨c, hc⟩ := owns_block hrH.out hg
              exact F4.at hc (by decide) (fun h => h)
            have hbl4 : bl ≤ W4.heap.size := Nat.le_trans hblk F4.1
            have e0 : W4.cell? ⟨xb, 0, none⟩ = some (.int .u8 63) := cell_of hx4 rfl
            have e1 : W4.cell? ⟨xb, 1, none⟩ = some (.string t) := cell_of hx4 rfl
            have hFin : Hid (∀ (ob : Obj) (v5 : Value) (w5 : World), w5.ownsRow bl 93 2 v5 (i + j + 1) (pats (patT (.string t)) (i + j) ++ [.int .u8 63, .string t]) → ((v5.ownBlock = (Value.slice al' (i + j) cl').ownBlock ∧ (W4.alloc ob).grownBy w5 (Value.slice al' (i + j) cl').ownBlock) ∨ ((∀ g, v5.ownBlock = some g → (W4.alloc ob).heap.size ≤ g) ∧ (W4.alloc ob).grownBy w5 none)) →
                ∃ (j' : Nat) (al5 : Option Addr) (cl5 : Nat) (x5 : WV) (E5 : List (Value × Value)), 4 - (j + 1) = 4 - j' ∧ j' ≤ 4 ∧ Value.int .i64 ((j : Int) + 1) = .int .i64 j' ∧ v5 = .slice al5 (i + j') cl5 ∧ w5.ownsRow bl 93 2 (.slice al5 (i + j') cl5) (i + j') (pats (patT (.string t)) (i + j')) ∧ Kept base wb x5 { B with l := B.l ++ E5 } w5 ∧ E5.length = j' ∧ x5.c = x.c + 1 ∧
                Hid ((∀ p ∈ E5, p.1.ownBlock = (Value.slice al i cl).ownBlock ∨ ∀ g, p.1.ownBlock = some g → w.heap.size ≤ g) ∧ (∀ p ∈ E5, p.2 = .string t ∧ ∃ al m cl, p.1 = .slice al m cl ∧ m ≤ i + j' ∧ ∀ a, al = some a → a = ⟨a.block, 0, none⟩) ∧ (∀ p ∈ B.l, p.1.ownBlock = none ∨ p.1.ownBlock ≠ (Value.slice al5 (i + j') cl5).ownBlock) ∧ ((Value.slice al5 (i + j') cl5).ownBlock = (Value.slice al i cl).ownBlock ∨ ∀ g, (Value.slice al5 (i + j') cl5).ownBlock = some g → w.heap.size ≤ g) ∧ (Value.slice al5 (i + j') cl5).ownBlock ≠ some xb ∧ Frame base w w5 (fun g => some g = (Value.slice al i cl).ownBlock) ∧ ∀ g, F g → w5.heap[g]? = w.heap[g]? ∧ x5.l.ownBlock ≠ some g ∧ x5.lm.ownBlock ≠ some g ∧ (Value.slice al5 (i + j') cl5).ownBlock ≠ some g) ∧ w5.heap[xb]? = some (.cells #[.int .u8 63, .string t] 93 (0, 0))) := by
              intro ob v5 w5 row5 h3
              obtain ⟨q1, q2, q3, q4, q5, q6, q7⟩ := hH.out
              have hE2 : ∀ p ∈ E ++ [(Value.slice al' (i + j) cl', Value.string t)], p.2 = .string t ∧ ∃ al m cl, p.1 = .slice al m cl ∧ m ≤ i + j ∧ ∀ a, al = some a → a = ⟨a.block, 0, none⟩ := by
                intro p hp
                rcases List.mem_append.1 hp with hp | hp
                · exact q2 p hp
                · rw [List.mem_singleton] at hp
                  subst hp
                  exact ⟨rfl, al', i + j, cl', rfl, Nat.le_refl _, haddr.out⟩
              obtain ⟨s1, s2, s3, s4, s5⟩ := linesOf_step (ob := ob) K4 (Nat.le_of_succ_le hm6) row4 hE2 q3 row5 h3
              obtain ⟨al5, cl5, rfl⟩ := owns_isSlice row5
              have hFz := F4.1
              have hq61 := q6.1
              have hold : (Value.slice al5 (i + j + 1) cl5).ownBlock = (Value.slice al' (i + j) cl').ownBlock ∨ ∀ g, (Value.slice al5 (i + j + 1) cl5).ownBlock = some g → W4.heap.size ≤ g := h3.imp (fun h => h.1) (fun h g e => by have := h.1 g e; simp at this; omega)
              refine ⟨j + 1, al5, cl5, x2, _, rfl, hj2, by push_cast; rfl, rfl, s3, s1, by rw [List.length_append, hEl]; rfl, hx2c.trans hxc, ⟨?_, ?_, s4, ?_, ?_, ?_, ?_⟩, ?_⟩
              · intro p hp
                rcases List.mem_append.1 hp with hp | hp
                · exact q1 p hp
                · rw [List.mem_singleton] at hp
                  subst hp
                  exact q4
              · intro p hp
                obtain ⟨r1, al, m, cl, r2, r3, r4⟩ := hE2 p hp
                exact ⟨r1, al, m, cl, r2, Nat.le_succ_of_le r3, r4⟩
              · rcases hold with h | h
                · have h' : (Value.slice al5 (i + (j + 1)) cl5).ownBlock = (Value.slice al' (i + j) cl').ownBlock := h
                  rw [h']; exact q4
                · right
                  intro g e
                  have := h g e
                  omega
              · rcases hold with h | h
                · have h' : (Value.slice al5 (i + (j + 1)) cl5).ownBlock = (Value.slice al' (i + j) cl').ownBlock := h
                  rw [h']; exact q5
                · intro e
                  have := h xb e
                  omega
              · have hF := (q6.trans F4).trans s2
                refine hF.mono fun g hg h => ?_
                rcases h with (h | h) | h
                · exact h
                · exact h.elim
                · rcases q4 with e | e
                  · exact h.trans e
                  · have := e g h.symm; omega
              · intro g hg
                obtain ⟨f1, f2, f3⟩ := hF4H.out g hg
                have f4 := (q7 g hg).2.2.2
                have hgw := (hFar.out g hg).1
                refine ⟨(s5 g (by omega) (fun e => f4 e.symm)).trans f1, f2, f3, ?_⟩
                rcases hold with h | h
                · have h' : (Value.slice al5 (i + (j + 1)) cl5).ownBlock = (Value.slice al' (i + j) cl').ownBlock := h
                  rw [h']; exact f4
                · intro e
                  have := h g e
                  omega
              · rw [s5 xb (by omega) (fun e => q5 e.symm)]
                exact hx4
            clear hH hKH hM K4 F4 hnr hrH
            go_wp2_with (at_builtin; refine wpList_append_own3 rfl (.tmp 45) (.tmp 47) 59 rfl bl 93 k0 _ 2 24 Tryz.underlying59 ki kx0 kx1 kx2 rfl (by decide) (.slice al' (i + j) cl') (i + j) (pats (patT (.string t)) (i + j)) rfl (row4.alloc _) ⟨W4.heap.size, 0, none⟩ 1 1 [.int .u8 63, .string t] rfl rfl (cells_new W4 _ _) hon3 hm4 hm5 (by simp; omega) ?_; intro v5 w5 row5 h3; have hR := hFin.out _ v5 w5 row5 h3; have hRH : Hid _ := hR; clear hR row5 h3)
            go_roundg (4 - (j + 1))
            · exact hRH.out
            · have := hG2.out; omega
        · obtain rfl : j = 4 := by omega
          have hR : ∃ (x' : WV) (E : List (Value × Value)), Kept base wb x' { B with l := B.l ++ E } wk ∧ E.length = 4 ∧ x'.c = x.c + 1 ∧ (∀ p ∈ E, p.1.ownBlock = (Value.slice al i cl).ownBlock ∨ ∀ g, p.1.ownBlock = some g → w.heap.size ≤ g) ∧ Frame base w wk (fun g => some g = (Value.slice al i cl).ownBlock) ∧ (∀ g, F g → wk.heap[g]? = w.heap[g]? ∧ x'.l.ownBlock ≠ some g ∧ x'.lm.ownBlock ≠ some g) := ⟨x', E, Kk, hEl, hxc, hH.out.1, hH.out.2.2.2.2.2.1, fun g hg => ⟨(hH.out.2.2.2.2.2.2 g hg).1, (hH.out.2.2.2.2.2.2 g hg).2.1, (hH.out.2.2.2.2.2.2 g hg).2.2.1⟩⟩
          have hRH : Hid _ := hR
          clear hR Kk hH hrowk hxk
          go_wp2_with fail
          go_end0
          exact ⟨rfl, hRH.out⟩
theorem linesOf_ok {base wb bl n cl : Nat} {al : Option Addr} {x : WV} {B : Bk} {w : World} {xs : List Value} (K : Kept base wb x B w) (hv : w.ownsRow bl 93 2 (.slice al n cl) n xs) (hn : n ≤ 1900000)
    (hfresh : ∀ p ∈ B.l, p.1.ownBlock = none ∨ p.1.ownBlock ≠ (Value.slice al n cl).ownBlock) (hbase : base ≤ w.heap.size) (hbl : bl ≤ w.heap.size) (hc : x.c ≤ 8000000000000) (hl : B.l.length ≤ 800000000000) :
    Calls Tryz.prog 113 #[.pointer (some ⟨wb, 0, none⟩), .slice al n cl] w fun e w' => e = .returned (.tuple #[]) ∧ ∃ (x' : WV) (E : List (Value × Value)), Kept base wb x' { B with l := B.l ++ E } w' ∧ E.length = 4 ∧ x'.c = x.c + 1 ∧
      (∀ p ∈ E, p.1.ownBlock = (Value.slice al n cl).ownBlock ∨ ∀ g, p.1.ownBlock = some g → w.heap.size ≤ g) ∧ Frame base w w' (fun g => some g = (Value.slice al n cl).ownBlock) := by
  refine (linesOf_far (F := fun _ => False) K hv hn hfresh hbase hbl hc hl (fun g h => h.elim)).mono ?_
  rintro e w' ⟨rfl, x', E, k1, k2, k3, k4, k5, _⟩
  exact ⟨rfl, x', E, k1, k2, k3, k4, k5⟩
end Go.Proofs.YtcclgodahlinbaaGreatDoor
namespace Go.Proofs.YtcclgodahlinbaaGreatDoor
open Go.RowKit Go
set_option maxRecDepth 100000
theorem info_hs : (Tryz.prog.info? 30).map (fun i => (i.zero, i.size, i.bytes)) = some (some (.slice none 0 0), 1, 24) := by kernel_rfl
theorem info_i : (Tryz.prog.info? 3).map (fun i => (i.zero, i.size, i.bytes)) = some (some (.int .i64 0), 1, 8) := by kernel_rfl
theorem owns_set5 {w : World} {bl n i : Nat} {xs : List Value} {a b c d e : Value} {al : Option Addr} {cl : Nat} (h : w.ownsRow bl 61 5 (.slice al n cl) n (pats [a, b, c, d, e] i ++ xs.drop (i * 5))) (hx : xs.length = n * 5) (hi : i < n) :
    ∃ g, al = some ⟨g, 0, none⟩ ∧ g < w.heap.size ∧ (∃ cur, w.heap[g]? = some (.cells cur 61 (0, 0)) ∧ i * 5 + 4 < cur.size) ∧ (((((w.setCell ⟨g, i * 5, none⟩ a).setCell ⟨g, i * 5 + 1, none⟩ b).setCell ⟨g, i * 5 + 2, none⟩ c).setCell ⟨g, i * 5 + 3, none⟩ d).setCell ⟨g, i * 5 + 4, none⟩ e).ownsRow bl 61 5 (.slice al n cl) n (pats [a, b, c, d, e] (i + 1) ++ xs.drop ((i + 1) * 5)) := by
  rcases h.2 with ⟨_, h0⟩ | ⟨g, cap, cur, e', hb, hg, h1, h2, h3, h4⟩
  · omega
  · cases e'
    have hsz : i * 5 + 4 < cur.size := by rw [h3]; omega
    have hpl : (pats [a, b, c, d, e] i).length = i * 5 := pats_length [a, b, c, d, e] i
    refine ⟨g, rfl, (Array.getElem?_eq_some_iff.1 hg).1, ⟨cur, hg, hsz⟩, ?_, .inr ⟨g, cl, _, rfl, hb, heap_setCell_same _ _ _ _ _ _ _ (heap_setCell_same _ _ _ _ _ _ _ (heap_setCell_same _ _ _ _ _ _ _ (heap_setCell_same _ _ _ _ _ _ _ (heap_setCell_same _ _ _ _ _ _ _ hg)))), h1, h2, by simp [h3], ?_⟩⟩
    · rw [List.length_append, pats_length, List.length_drop, hx]
      show (i + 1) * 5 + _ = _
      omega
    · have h5 : List.take (n * 5) (((((cur.setIfInBounds (i * 5) a).setIfInBounds (i * 5 + 1) b).setIfInBounds (i * 5 + 2) c).setIfInBounds (i * 5 + 3) d).setIfInBounds (i * 5 + 4) e).toList = (((((List.take (n * 5) cur.toList).set (i * 5) a).set (i * 5 + 1) b).set (i * 5 + 2) c).set (i * 5 + 3) d).set (i * 5 + 4) e := by
        simp [List.take_set]
      rw [h5, h4]
      apply List.ext_getElem?
      intro j
      have hl1 : (pats [a, b, c, d, e] i ++ xs.drop (i * 5)).length = n * 5 := by rw [List.length_append, hpl, List.length_drop, hx]; omega
      have hl2 : (pats [a, b, c, d, e] (i + 1)).length = (i + 1) * 5 := pats_length [a, b, c, d, e] (i + 1)
      simp only [List.getElem?_set, List.length_set, hl1]
      have hp := fun k hk => pats_get [a, b, c, d, e] (i + 1) i k (Nat.lt_succ_self i) hk
      by_cases e4 : i * 5 + 4 = j
      · subst e4
        rw [if_pos rfl, if_pos (by omega), List.getElem?_append_left (by rw [hl2]; omega)]
        simpa using (hp 4 (by simp)).symm
      rw [if_neg e4]
      by_cases e3 : i * 5 + 3 = j
      · subst e3
        rw [if_pos rfl, if_pos (by omega), List.getElem?_append_left (by rw [hl2]; omega)]
        simpa using (hp 3 (by simp)).symm
      rw [if_neg e3]
      by_cases e2 : i * 5 + 2 = j
      · subst e2
        rw [if_pos rfl, if_pos (by omega), List.getElem?_append_left (by rw [hl2]; omega)]
        simpa using (hp 2 (by simp)).symm
      rw [if_neg e2]
      by_cases e1 : i * 5 + 1 = j
      · subst e1
        rw [if_pos rfl, if_pos (by omega), List.getElem?_append_left (by rw [hl2]; omega)]
        simpa using (hp 1 (by simp)).symm
      rw [if_neg e1]
      by_cases e0 : i * 5 = j
      · subst e0
        rw [if_pos rfl, if_pos (by omega), List.getElem?_append_left (by rw [hl2]; omega)]
        simpa using (hp 0 (by simp)).symm
      rw [if_neg e0]
      by_cases ej : j < i * 5
      · rw [List.getElem?_append_left (by rw [hpl]; omega), List.getElem?_append_left (by rw [hl2]; omega)]
        rw [pats, List.getElem?_append_left (by rw [hpl]; omega)]
      · rw [List.getElem?_append_right (by rw [hpl]; omega), List.getElem?_append_right (by rw [hl2]; omega), List.getElem?_drop, List.getElem?_drop, hpl, hl2]
        congr 1
        omega
theorem patch_step {base wb bl N cl' : Nat} {al' : Option Addr} {x : WV} {B : Bk} {E : List (Value × Value)} {w4 w5 : World} {c : Int} {v' : Value} {ob : Obj} (K : Kept base wb x { B with h := B.h ++ E } w4) (hN : N ≤ 1990000)
    (row4 : w4.ownsRow bl 61 5 (.slice al' N cl') N (pats (patH (.int .i64 c)) N)) (hE : ∀ p ∈ E, p.2 = .int .i64 c ∧ ∃ al m cl, p.1 = .slice al m cl ∧ m ≤ N ∧ ∀ a, al = some a → a = ⟨a.block, 0, none⟩) (hfr : ∀ p ∈ B.h, p.1.ownBlock = none ∨ p.1.ownBlock ≠ (Value.slice al' N cl').ownBlock)
    (row5 : w5.ownsRow bl 61 5 v' (N + 1) (pats (patH (.int .i64 c)) N ++ patH (.int .i64 c)))
    (h3 : (v'.ownBlock = (Value.slice al' N cl').ownBlock ∧ (w4.alloc ob).grownBy w5 (Value.slice al' N cl').ownBlock) ∨ ((∀ g, v'.ownBlock = some g → (w4.alloc ob).heap.size ≤ g) ∧ (w4.alloc ob).grownBy w5 none)) :
    Kept base wb x { B with h := B.h ++ E } w5 ∧ Frame base w4 w5 (fun g => some g = (Value.slice al' N cl').ownBlock) ∧ w5.ownsRow bl 61 5 v' (N + 1) (pats (patH (.int .i64 c)) (N + 1)) ∧ (∀ p ∈ B.h, p.1.ownBlock = none ∨ p.1.ownBlock ≠ v'.ownBlock) ∧ (∀ g, g < w4.heap.size → some g ≠ (Value.slice al' N cl').ownBlock → w5.heap[g]? = w4.heap[g]?) := by
  have hrow : w5.ownsRow bl 61 5 v' (N + 1) (pats (patH (.int .i64 c)) (N + 1)) := row5
  have hold : ∀ g, g < w4.heap.size → some g ≠ (Value.slice al' N cl').ownBlock → w5.heap[g]? = w4.heap[g]? := fun g hg hne => by
    rcases h3 with ⟨_, h⟩ | ⟨_, h⟩
    · rw [h.block g (by simp; omega) hne]; exact Below.heap_alloc w4 ob g hg
    · rw [h.block g (by simp; omega) (by simp)]; exact Below.heap_alloc w4 ob g hg
  have hz : w4.heap.size ≤ w5.heap.size := by
    rcases h3 with ⟨_, h⟩ | ⟨_, h⟩
    · have := h.size; simp at this; omega
    · have := h.size; simp at this; omega
  have hOut : Outs w4 w5 := by
    rcases h3 with ⟨_, h⟩ | ⟨_, h⟩
    · exact (Outs.alloc w4 ob).trans (Outs.of_grown h)
    · exact (Outs.alloc w4 ob).trans (Outs.of_grown h)
  refine ⟨?_, ⟨hz, fun g hg => ?_, hOut⟩, hrow, ?_, hold⟩
  · refine K.skip_h (vb := (Value.slice al' N cl').ownBlock) (fun g hg _ => ?_) hold (fun p hp => ?_)
    · obtain ⟨c, hc⟩ := owns_block row4 hg
      exact ⟨c, _, hc⟩
    · rcases List.mem_append.1 hp with hp' | hp'
      · exact .inl (hfr p hp')
      · by_cases hq : p.1.ownBlock = (Value.slice al' N cl').ownBlock
        · right
          rcases h3 with ⟨e, _⟩ | ⟨_, h⟩
          · obtain ⟨e2, al, m, cl, e1, hm, ha⟩ := hE p hp'
            rw [e2]
            rw [e1] at hq ⊢
            exact Mark.of_owns (pat := patH (.int .i64 c)) hrow (by omega) (by omega) (e.trans hq.symm) ha
          · exact (K.h.ok p hp).same fun g _ ⟨c, f, hg⟩ => by
              have hlt := (Array.getElem?_eq_some_iff.1 hg).1
              rw [h.block g (by simp; omega) (by simp)]; exact Below.heap_alloc w4 ob g hlt
        · exact .inl (.inr hq)
  · by_cases hq : some g = (Value.slice al' N cl').ownBlock
    · exact .inr (.inl hq)
    · exact .inl (hold g hg hq)
  · intro p hp
    rcases h3 with ⟨e, _⟩ | ⟨e, _⟩
    · rw [e]; exact hfr p hp
    · cases hv : p.1.ownBlock with
      | none => exact .inl rfl
      | some g =>
        right
        intro e2
        have h1 := e g e2.symm
        have hM := ((K.h.ok p (List.mem_append_left _ hp)).lt g hv).1
        simp at h1
        omega
def LinesLeft (base wb bl : Nat) (x : WV) (B : Bk) (v : Value) (hv : List HV) (w : World) (i : Nat) (wi : World) : Prop :=
  ∃ (x' : WV) (E : List (Value × Value)), Kept base wb x' { B with l := B.l ++ E } wi ∧ E.length = 4 * i ∧ x'.c = x.c + i ∧ (∀ q ∈ hv.drop i, wi.ownsRow bl 93 2 q.2 q.1.lines.length (stepCells q.1.lines)) ∧ wi.ownsRow bl 61 5 v hv.length (hunkCells hv) ∧
    (∀ p ∈ B.l ++ E, ∀ q ∈ hv.drop i, p.1.ownBlock = none ∨ p.1.ownBlock ≠ q.2.ownBlock) ∧ Frame base w wi (fun g => bl ≤ g) ∧ ∀ p ∈ E, ∀ g, p.1.ownBlock = some g → bl ≤ g
theorem LinesLeft.start {base wb bl : Nat} {x : WV} {B : Bk} {v : Value} {hv : List HV} {w w0 : World} (K : Kept base wb x B w0) (hso : HSo bl v hv w0) (hF : Frame base w w0 (fun g => bl ≤ g)) (hfr : ∀ p ∈ B.l, ∀ q ∈ hv, p.1.ownBlock = none ∨ p.1.ownBlock ≠ q.2.ownBlock) : LinesLeft base wb bl x B v hv w 0 w0 := by
  refine ⟨x, [], by simpa using K, rfl, rfl, fun q hq => ?_, hso.owns, fun p hp q hq => ?_, hF, by simp⟩
  · rw [List.drop_zero] at hq
    rcases hso with ⟨rfl, _⟩ | ⟨g, cap, _, _, hs⟩
    · simp at hq
    · exact hs.lines q hq
  · rw [List.drop_zero] at hq
    rw [List.append_nil] at hp
    exact hfr p hp q hq
theorem LinesLeft.next {base wb bl : Nat} {x : WV} {B : Bk} {v : Value} {hv : List HV} {w : World} {i : Nat} {wi w' : World} (hi : i < hv.length) (hap : hv.Pairwise fun p q => p.2.ownBlock = none ∨ p.2.ownBlock ≠ q.2.ownBlock) {x1 : WV} {E : List (Value × Value)}
    (h : Kept base wb x1 { B with l := B.l ++ E } wi ∧ E.length = 4 * i ∧ x1.c = x.c + i ∧ (∀ q ∈ hv.drop i, wi.ownsRow bl 93 2 q.2 q.1.lines.length (stepCells q.1.lines)) ∧ wi.ownsRow bl 61 5 v hv.length (hunkCells hv) ∧ (∀ p ∈ B.l ++ E, ∀ q ∈ hv.drop i, p.1.ownBlock = none ∨ p.1.ownBlock ≠ q.2.ownBlock) ∧ Frame base w wi (fun g => bl ≤ g) ∧ ∀ p ∈ E, ∀ g, p.1.ownBlock = some g → bl ≤ g)
    {x2 : WV} {E2 : List (Value × Value)} (k : Kept base wb x2 { B with l := B.l ++ E ++ E2 } w') (he : E2.length = 4) (hc : x2.c = x1.c + 1) (ho : ∀ p ∈ E2, p.1.ownBlock = hv[i].2.ownBlock ∨ ∀ g, p.1.ownBlock = some g → wi.heap.size ≤ g) (hF : Frame base wi w' (fun g => some g = hv[i].2.ownBlock)) (hbl : bl ≤ wi.heap.size) :
    LinesLeft base wb bl x B v hv w (i + 1) w' := by
  obtain ⟨h1, h2, h3, h4, h5, h6, h7, h8⟩ := h
  have hdrop : hv.drop i = hv[i] :: hv.drop (i + 1) := List.drop_eq_getElem_cons hi
  have hap2 : ∀ q ∈ hv.drop (i + 1), hv[i].2.ownBlock = none ∨ hv[i].2.ownBlock ≠ q.2.ownBlock := by
    have h0 := List.Pairwise.sublist (List.drop_sublist i hv) hap
    rw [hdrop] at h0
    exact (List.pairwise_cons.1 h0).1
  have hi0 := h4 hv[i] (by rw [hdrop]; exact List.mem_cons_self)
  refine ⟨x2, E ++ E2, by rw [← List.append_assoc]; exact k, by rw [List.length_append, h2, he]; omega, by rw [hc, h3]; omega, fun q hq => ?_, ?_, fun p hp q hq => ?_, ?_, fun p hp g e => ?_⟩
  · refine owns_same (h4 q (by rw [hdrop]; exact List.mem_cons_of_mem _ hq)) fun g hg => ?_
    obtain ⟨c, hcc⟩ := owns_block (h4 q (by rw [hdrop]; exact List.mem_cons_of_mem _ hq)) hg
    refine hF.at hcc (by decide) (fun e => ?_)
    rcases hap2 q hq with e2 | e2
    · rw [e2] at e; cases e
    · exact e2 (e.symm.trans hg.symm)
  · refine owns_same h5 fun g hg => ?_
    obtain ⟨c, hcc⟩ := owns_block h5 hg
    refine hF.at hcc (by decide) (fun e => ?_)
    obtain ⟨c2, hc2⟩ := owns_block hi0 e.symm
    exact block_ne hcc hc2 (by decide) rfl
  · rw [← List.append_assoc] at hp
    rcases List.mem_append.1 hp with hp | hp
    · exact h6 p hp q (by rw [hdrop]; exact List.mem_cons_of_mem _ hq)
    · rcases ho p hp with e | e
      · rw [e]
        exact hap2 q hq
      · cases hv' : p.1.ownBlock with
        | none => exact .inl rfl
        | some g =>
          right
          intro e2
          have q1 := e g hv'
          have q2 := ((h4 q (by rw [hdrop]; exact List.mem_cons_of_mem _ hq)).lt g e2.symm).2
          omega
  · refine (h7.trans hF).mono fun g hg h => ?_
    rcases h with h | h
    · exact h
    · exact (hi0.lt g h.symm).1
  · rcases List.mem_append.1 hp with hp | hp
    · exact h8 p hp g e
    · rcases ho p hp with e2 | e2
      · rw [e2] at e
        exact (hi0.lt g e).1
      · have := e2 g e
        omega
end Go.Proofs.YtcclgodahlinbaaGreatDoor
namespace Go.Proofs.YtcclgodahlinbaaGreatDoor
open Go.RowKit Go
set_option maxRecDepth 100000
theorem run_copy_two (P : Program) (w : World) (dT sT ty elem : TypeId) (g dLen dCap : Nat) (sp : Option Addr) (sLen sCap : Nat) (cur : Array Value) (t : TypeId) (cs : List Value)
    (hu : P.underlying dT = some (.slice elem)) (hs : (P.info? elem).map (·.size) = some 2)
    (hg : w.heap[g]? = some (.cells cur t (0, 0))) (hle : sLen ≤ dLen) (hn : cs.length = sLen * 2)
    (hsrc : sLen = 0 ∨ ∃ a, sp = some a ∧ ∀ j v, cs[j]? = some v → w.cell? (a.add j) = some v) (hfit : cs.length ≤ cur.size) (h1 : ∀ v ∈ cs, v.oneCell' = true) :
    (Builtin.copy_ #[dT, sT] ty #[.slice (some ⟨g, 0, none⟩) dLen dCap, .slice sp sLen sCap]).run P w =
      .ok (goInt sLen) (w.setRow g (cs ++ cur.toList.drop cs.length).toArray) := by
  have hmin : Nat.min sLen dLen = sLen := Nat.min_eq_left hle
  have hst := run_storeCells_at P g 0 t cs 0 cur w hg (by simpa using hfit) h1
  simp only [Nat.add_zero, Nat.zero_add, List.take_zero, List.nil_append] at hst
  cases hq : P.info? elem with
  | none => simp [hq] at hs
  | some i =>
    have hi : i.size = 2 := by simpa [hq] using hs
    rcases hsrc with rfl | ⟨a, rfl, hc⟩
    · obtain rfl : cs = [] := List.eq_nil_of_length_eq_zero (by simpa using hn)
      have hself : w.setRow g ([] ++ cur.toList.drop ([] : List Value).length).toArray = w := by simpa using setRow_self w g cur t (0, 0) hg
      rw [hself]
      cases sp with
      | none => simp [Builtin.copy_, run_underlying hu, Builtin.lenOf, Builtin.firstCells, sizeOf, typeInfo, hq, storeCells]
      | some a =>
        have hl := run_loadCells_list (P := P) w a [] (by simp)
        simp only [List.length_nil] at hl
        simp [Builtin.copy_, run_underlying hu, Builtin.lenOf, Builtin.firstCells, sizeOf, typeInfo, hq, hl, storeCells]
    · have hl := run_loadCells_list (P := P) w a cs hc
      rw [hn] at hl
      simp [Builtin.copy_, run_underlying hu, Builtin.lenOf, Builtin.firstCells, sizeOf, typeInfo, hq, hi, hmin, hl, hst]
def OnlyAt (ga : Nat) (w w' : World) : Prop := w.heap.size ≤ w'.heap.size ∧ (∀ k, k < w.heap.size → k ≠ ga → w'.heap[k]? = w.heap[k]?) ∧ Outs w w'
theorem OnlyAt.trans {ga : Nat} {a b c : World} (h : OnlyAt ga a b) (k : OnlyAt ga b c) : OnlyAt ga a c := ⟨Nat.le_trans h.1 k.1, fun i hi hn => (k.2.1 i (Nat.lt_of_lt_of_le hi h.1) hn).trans (h.2.1 i hi hn), h.2.2.trans k.2.2⟩
theorem OnlyAt.new {ga g : Nat} {a b c : World} (h : OnlyAt ga a b) (hg : a.heap.size ≤ g) (hs : c.heap.size = b.heap.size) (hb : ∀ k, k ≠ g → c.heap[k]? = b.heap[k]?) (ho : Outs b c) : OnlyAt ga a c := ⟨by have := h.1; omega, fun i hi hn => (hb i (by omega)).trans (h.2.1 i hi hn), h.2.2.trans ho⟩
theorem OnlyAt.at {ga : Nat} {a b : World} (hs : b.heap.size = a.heap.size) (hb : ∀ k, k ≠ ga → b.heap[k]? = a.heap[k]?) (ho : Outs a b) : OnlyAt ga a b := ⟨by omega, fun i _ hn => hb i hn, ho⟩
theorem OnlyAt.grown {ga : Nat} {a b : World} (h : a.grownBy b none) : OnlyAt ga a b := ⟨h.size, fun i hi _ => h.block i hi (by simp), Outs.of_grown h⟩
theorem OnlyAt.below {ga B : Nat} {w a b : World} (h : Below B w a) (k : OnlyAt ga a b) (hB : B ≤ ga) (hz : B ≤ a.heap.size) : Below B w b :=
  ⟨k.2.2.1.trans h.os, k.2.2.2.1.trans h.tape, k.2.2.2.2.trans h.output, Nat.le_trans h.size k.1, fun i hi => (k.2.1 i (by omega) (by omega)).trans (h.block i hi)⟩
theorem OnlyAt.cell {ga k off : Nat} {a b : World} (h : OnlyAt ga a b) (hk : k < a.heap.size) (hn : k ≠ ga) : b.cell? ⟨k, off, none⟩ = a.cell? ⟨k, off, none⟩ := World.cell?_of_block (a := ⟨k, off, none⟩) (h.2.1 k hk hn)
theorem wpList_copy_two {P : Program} {w : World} {ops : Array Oper} {rest : List Oper} {o : Oper} {a : Act} {Q : Exit → Act → World → Prop} (hgd : o.guard = none) (d s : Operand) (dT sT : TypeId)
    (ho : o.op = .call { callee := .builtin .copy, args := #[d, s], argTypes := #[dT, sT] }) (elem : TypeId) (hu : P.underlying dT = some (.slice elem)) (hsz : (P.info? elem).map (·.size) = some 2)
    (g dLen dCap : Nat) (sp : Option Addr) (sLen sCap : Nat) (hd : a.eval d = .slice (some ⟨g, 0, none⟩) dLen dCap) (hs : a.eval s = .slice sp sLen sCap)
    (cs old Z : List Value) (t : TypeId) (hg : w.heap[g]? = some (.cells (old ++ Z).toArray t (0, 0))) (hle : sLen ≤ dLen) (hn : cs.length = sLen * 2) (hol : old.length = cs.length)
    (hsrc : sLen = 0 ∨ ∃ ad, sp = some ad ∧ ∀ j v, cs[j]? = some v → w.cell? (ad.add j) = some v) (h1 : ∀ v ∈ cs, v.oneCell' = true)
    (h : ∀ w', w'.heap[g]? = some (.cells (cs ++ Z).toArray t (0, 0)) → w'.heap.size = w.heap.size → (∀ k, k ≠ g → w'.heap[k]? = w.heap[k]?) → Outs w w' → wpList P ops Q rest (a.put o.dst (goInt sLen)) w') : wpList P ops Q (o :: rest) a w := by
  refine wpList_plain hgd fun K hK => ?_
  have hrun := run_copy_two P w dT sT o.type elem g dLen dCap sp sLen sCap _ t cs hu hsz hg hle hn hsrc (by simp; omega) h1
  have hd2 : (old ++ Z).toArray.toList.drop cs.length = Z := by simp [← hol]
  rw [hd2] at hrun
  unfold Oper.wp
  simp [execOp, ho, resolve, invoke, builtin, hd, hs, hrun, Result.andThen]
  exact hK _ _ (h _ (setRow_heap w g _ _ t _ hg) (by simp) (fun k hk => setRow_other w g k _ hk) ⟨rfl, rfl, rfl⟩)
theorem wpList_store_in {P : Program} {w : World} {ops : Array Oper} {rest : List Oper} {o : Oper} {a : Act} {Q : Exit → Act → World → Prop} (hgd : o.guard = none) (ty : TypeId) (x y : Operand) (ho : o.op = .store ty x y)
    (g off : Nat) (hx : a.eval x = .pointer (some ⟨g, off, none⟩)) (cs A old Z : List Value) (hy : (a.eval y).cells = cs.toArray) (hi : (P.info? ty).map (·.size) = some cs.length) (t : TypeId)
    (hg : w.heap[g]? = some (.cells (A ++ (old ++ Z)).toArray t (0, 0))) (hA : A.length = off) (hold : old.length = cs.length) (h1 : ∀ u ∈ cs, u.oneCell' = true)
    (h : ∀ w', w'.heap[g]? = some (.cells (A ++ (cs ++ Z)).toArray t (0, 0)) → w'.heap.size = w.heap.size → (∀ k, k ≠ g → w'.heap[k]? = w.heap[k]?) → Outs w w' → wpList P ops Q rest (a.put o.dst undef) w') : wpList P ops Q (o :: rest) a w := by
  refine wpList_plain hgd fun K hK => ?_
  have hst := run_storeCells_at P g off t cs 0 _ w hg (by simp; omega) h1
  have hl : ((A ++ (old ++ Z)).toArray.toList.take (off + 0) ++ cs ++ (A ++ (old ++ Z)).toArray.toList.drop (off + 0 + cs.length)) = A ++ (cs ++ Z) := by
    simp [← hA, ← hold, List.drop_append]
  rw [hl] at hst
  cases hq : P.info? ty with
  | none => simp [hq] at hi
  | some i =>
    have hs : i.size = cs.length := by simpa [hq] using hi
    unfold Oper.wp execOp
    simp only [ho, hx, Instr.storeAt, Instr.sureAddr, Sem.run_bind, Sem.run_pure, Result.andThen_ok]
    simp [storeVar, sizeOf, typeInfo, hq, hy, hs, hst]
    exact hK _ _ (h _ (setRow_heap w g _ _ t _ hg) (by simp) (fun k hk => setRow_other w g k _ hk) ⟨rfl, rfl, rfl⟩)
def behindS : StepB := ⟨33, ⟨#[98, 101, 104, 105, 110, 100]⟩⟩
def lentH (p : HI × Nat) : List Value := [.int .i64 p.1.fr, .int .i64 p.1.fc, .int .i64 p.1.tr, .int .i64 p.1.tc, .slice (some ⟨p.2, 0, none⟩) p.1.lines.length (p.1.lines.length + 2)]
def lentCells (bs : List (HI × Nat)) : List Value := bs.flatMap lentH
theorem lentCells_length (bs : List (HI × Nat)) : (lentCells bs).length = bs.length * 5 := by
  induction bs with
  | nil => rfl
  | cons p l ih => simp [lentCells, lentH] at ih ⊢; omega
theorem lentCells_push (bs : List (HI × Nat)) (p : HI × Nat) : lentCells (bs ++ [p]) = lentCells bs ++ lentH p := by simp [lentCells]
def lentRow (p : HI × Nat) : Value := .slice (some ⟨p.2, 0, none⟩) (p.1.lines.length + 2) (p.1.lines.length + 2)
def lentLine (h : HI) : List Value := stepCells (h.lines ++ [behindS, behindS])
structure Lent (base ga : Nat) (vr : Value) (bs : List (HI × Nat)) (Z : List Value) (W : World) : Prop where
  all : W.heap[ga]? = some (.cells (lentCells bs ++ Z).toArray 61 (0, 0))
  lo : base ≤ ga
  rows : W.ownsRow base 59 1 vr bs.length (bs.map lentRow)
  line : ∀ p ∈ bs, base ≤ p.2 ∧ W.heap[p.2]? = some (.cells (lentLine p.1).toArray 93 (0, 0))
  apart : bs.Pairwise fun p q => p.2 ≠ q.2
theorem Lent.push {base ga g : Nat} {vr v' : Value} {bs : List (HI × Nat)} {Z Z' : List Value} {wr w6 w7 : World} {h : HI} {ob : Obj} (L : Lent base ga vr bs Z wr) (hO : OnlyAt ga wr w6) (hg : wr.heap.size ≤ g) (hb : base ≤ g)
    (hgl : w6.heap[g]? = some (.cells (lentLine h).toArray 93 (0, 0))) (hga : w6.heap[ga]? = some (.cells (lentCells bs ++ (lentH (h, g) ++ Z')).toArray 61 (0, 0)))
    (hgr : (w6.alloc ob).grownBy w7 vr.ownBlock) (hown : w7.ownsRow base 59 1 v' (bs.length + 1) (bs.map lentRow ++ [lentRow (h, g)])) : Lent base ga v' (bs ++ [(h, g)]) Z' w7 := by
  have key : ∀ k o, w6.heap[k]? = some o → some k ≠ vr.ownBlock → w7.heap[k]? = some o := fun k o hk hn => by
    have hlt := (Array.getElem?_eq_some_iff.1 hk).1
    rw [hgr.block k (by simp; omega) hn, Below.heap_alloc w6 ob k hlt]
    exact hk
  have hvr : ∀ k c t f, wr.heap[k]? = some (.cells c t f) → t ≠ 59 → some k ≠ vr.ownBlock := fun k c t f hk ht e => owns_ne L.rows hk (fun e2 => ht e2.symm) e.symm
  refine ⟨?_, L.lo, ?_, fun p hp => ?_, ?_⟩
  · rw [lentCells_push, List.append_assoc]
    exact key ga _ hga (hvr ga _ _ _ L.all (by decide))
  · rw [List.map_append, List.length_append]
    exact hown
  · rcases List.mem_append.1 hp with hp | hp
    · obtain ⟨h1, h2⟩ := L.line p hp
      refine ⟨h1, key _ _ ((hO.2.1 p.2 (Array.getElem?_eq_some_iff.1 h2).1 (block_ne h2 L.all (by decide))).trans h2) (hvr p.2 _ _ _ h2 (by decide))⟩
    · rw [List.mem_singleton] at hp
      subst hp
      refine ⟨hb, key g _ hgl fun e => ?_⟩
      have := (L.rows.lt g e.symm).2
      omega
  · rw [List.pairwise_append]
    refine ⟨L.apart, List.pairwise_singleton _ _, fun p hp q hq => ?_⟩
    rw [List.mem_singleton] at hq
    subst hq
    have := (Array.getElem?_eq_some_iff.1 (L.line p hp).2).1
    show p.2 ≠ g
    omega
end Go.Proofs.YtcclgodahlinbaaGreatDoor
namespace Go.Proofs.YtcclgodahlinbaaGreatDoor
open Go.RowKit Go
set_option maxRecDepth 100000
theorem size_hunk : (Tryz.prog.info? 61).map (·.size) = some 5 := by kernel_rfl
theorem size_line : (Tryz.prog.info? 93).map (·.size) = some 2 := by kernel_rfl
theorem size_lines : (Tryz.prog.info? 59).map (·.size) = some 1 := by kernel_rfl
theorem owns_made {w : World} {base e size g n : Nat} {xs : List Value} (h : w.ownsRow base e size (.slice (some ⟨g, 0, none⟩) n n) n xs) : ∃ cur : List Value, w.heap[g]? = some (.cells cur.toArray e (0, 0)) ∧ cur.length = n * size := by
  rcases h.2 with ⟨e, _⟩ | ⟨g', cap, cur, e, hb, hg, h1, h2, h3, h4⟩
  · cases e
  · cases e
    exact ⟨cur.toList, by simpa using hg, by simpa using h3⟩
theorem lines_src {B c : Nat} {W : World} {a : Option Addr} {L : List StepB} (h : LinesAt B W (.slice a L.length c) L) : L.length = 0 ∨ ∃ ad, a = some ad ∧ ∀ j v, (stepCells L)[j]? = some v → W.cell? (ad.add j) = some v := by
  rcases h with ⟨rfl, _⟩ | ⟨b, off, cap, e, hb, hc⟩
  · exact .inl rfl
  · cases e
    refine .inr ⟨⟨b, off, none⟩, rfl, fun j v hv => ?_⟩
    rw [show (⟨b, off, none⟩ : Addr).add j = ⟨b, off + j, none⟩ by unfold Addr.add; split <;> simp_all]
    have hlt : j < L.length * 2 := by rw [← stepCells_length]; exact (List.getElem?_eq_some_iff.1 hv).1
    have hi : j / 2 < L.length := by omega
    obtain ⟨q0, q1⟩ := stepCells_get L (j / 2) hi
    obtain ⟨c0, c1⟩ := hc (j / 2) hi
    rcases Nat.mod_two_eq_zero_or_one j with h2 | h2
    · have e1 : j = j / 2 * 2 := by omega
      rw [e1] at hv ⊢
      rw [q0] at hv; rw [c0]; exact hv
    · have e1 : j = j / 2 * 2 + 1 := by omega
      have e2 : off + j = off + j / 2 * 2 + 1 := by omega
      rw [e2, c1, ← hv, ← q1, ← e1]
theorem Lent.done {base ga : Nat} {vr : Value} {bs : List (HI × Nat)} {Z Z' : List Value} {W W' : World} (L : Lent base ga vr bs Z W) (hs : ∀ k, base ≤ k → k < W.heap.size → k ≠ ga → W'.heap[k]? = W.heap[k]?) (hga : W'.heap[ga]? = some (.cells (lentCells bs ++ Z').toArray 61 (0, 0))) : Lent base ga vr bs Z' W' :=
  ⟨hga, L.lo, owns_same L.rows fun g hg => hs g (L.rows.lt g hg).1 (L.rows.lt g hg).2 (fun e => owns_ne L.rows L.all (by decide) (e ▸ hg)), fun p hp => ⟨(L.line p hp).1, (hs p.2 (L.line p hp).1 (Array.getElem?_eq_some_iff.1 (L.line p hp).2).1 (block_ne (L.line p hp).2 L.all (by decide))).trans (L.line p hp).2⟩, L.apart⟩
def lentEnd : List Value := [.int .i64 77, .int .i64 0, .int .i64 0, .int .i64 0, .slice none 0 0, .int .i64 78, .int .i64 0, .int .i64 0, .int .i64 0, .slice none 0 0]
set_option maxHeartbeats 16000000 in
theorem lent_some {hs : List HI} {a : Option Addr} {cap : Nat} {w : World} (hH : HIAt w.heap.size w (.slice a hs.length cap) hs) (hL : Lim hs) (hn : 0 < hs.length) :
    Calls Tryz.prog 86 #[.agg #[.slice a hs.length cap]] w fun e w' => ∃ ga vr bs, e = .returned (.tuple #[.agg #[.slice (some ⟨ga, 0, none⟩) hs.length (hs.length + 2)], .slice (some ⟨ga, 0, none⟩) (hs.length + 2) (hs.length + 2), vr]) ∧ bs.map (·.1) = hs ∧ Lent (w.heap.size + 2) ga vr bs lentEnd w' ∧ Below w.heap.size w w' := by
  have hb0 := ((Below.refl w.heap.size w).alloc (Nat.le_refl _) (.cells #[.slice a hs.length cap] 32)).alloc (by simp) (.cells #[.slice none 0 0] 32)
  have hP1 := heap_alloc_new w (.cells #[.slice a hs.length cap] 32)
  have hP2 := heap_alloc_new (w.alloc (.cells #[.slice a hs.length cap] 32)) (.cells #[.slice none 0 0] 32)
  rw [World.size_alloc] at hP2
  have hP1' := (Below.heap_alloc (w.alloc (.cells #[.slice a hs.length cap] 32)) (.cells #[.slice none 0 0] 32) w.heap.size (by simp)).trans hP1
  have hz : ((w.alloc (.cells #[.slice a hs.length cap] 32)).alloc (.cells #[.slice none 0 0] 32)).heap.size = w.heap.size + 2 := by simp
  have hlh := hL.1
  have hll : Hid (∀ h ∈ hs, h.lines.length ≤ 1048576) := fun h hh => (hL.2 h hh).1
  have hHH : Hid (HIAt w.heap.size w (.slice a hs.length cap) hs) := hH
  obtain ⟨i0, hi, ix0, ix1, ix2⟩ := info_parts info_ls
  obtain ⟨j0, ji, jx0, jx1, jx2⟩ := info_parts info_line
  obtain ⟨k0, ki, kx0, kx1, kx2⟩ := info_parts info_hunk
  obtain ⟨n, hnE⟩ : ∃ n, hs.length = n := ⟨_, rfl⟩
  have hnH : Hid (hs.length = n) := hnE
  clear hH hL hP1
  rw [hnE] at hn hb0 hP2 hP1' hz hlh hHH ⊢
  have hn0 : (n == 0) = false := by rw [beq_eq_false_iff_ne]; omega
  have hnz : ¬ ((n : Int) = 0) := by omega
  clear hnE
  go_enter Tryz.func86, Tryz.ntmps86
  go_wp2_with (at_make; go_loud (refine wpList_make_full _ rfl (.tmp 18) (.tmp 18) 30 rfl (w.heap.size + 2) 61 k0 _ 5 Tryz.underlying30 ki kx0 kx1 .i64 .i64 _ _ (n + 2) rfl rfl (by push_cast; rfl) (by push_cast; rfl) (by rw [kx2]; omega) (by unfold maxLen; omega) (by omega) ?_; intro W1 hown1 hgr1))
  obtain ⟨C0, hC0, hCl⟩ := owns_made hown1
  clear hown1
  rw [hz] at hC0
  generalize (w.alloc (.cells #[.slice a n cap] 32)).alloc (.cells #[.slice none 0 0] 32) = W0 at *
  have hb1 : Below (w.heap.size + 2) W0 W1 := (Below.refl _ W0).grown hgr1 (by omega) (fun k e => by cases e)
  have hz1 := hb1.size
  go_loopg [6, 8] n (fun g t6 t8 wr => ∃ (i : Nat) (vr : Value) (bs : List (HI × Nat)) (Z : List Value), g = n - i ∧ i ≤ n ∧ t8 = .int .i64 i ∧ vr = t6 ∧ Lent (w.heap.size + 2) (w.heap.size + 2) vr bs Z wr ∧ Hid (bs.map (·.1) = hs.take i) ∧ Hid (Z.length = (n + 2 - i) * 5) ∧ Below (w.heap.size + 2) W0 wr)
  case atStart => exact ⟨0, .slice none 0 0, [], C0, by omega, by omega, rfl, rfl, ⟨by simpa [lentCells] using hC0, Nat.le_refl _, ⟨rfl, .inl ⟨rfl, rfl⟩⟩, by simp, List.Pairwise.nil⟩, by show _ = _; simp, by show _ = _; simpa using hCl, hb1⟩
  case round =>
    rename World => wr
    obtain ⟨i, vr, bs, Z, hgi, hin, rfl, rfl, hLn, hbs, hZ, hbel⟩ := hrel
    have hG : Hid (_ = n - i) := hgi
    clear hgi hC0 hCl hgr1 hb1
    have hsw := hbel.size
    have hsw' : w.heap.size + 2 ≤ wr.heap.size := by omega
    have hbw := hb0.trans (hbel.mono (by omega))
    have p1 : wr.cell? ⟨w.heap.size, 0, none⟩ = some (.slice a n cap) := cell_of ((hbel.block w.heap.size (by omega)).trans hP1') rfl
    by_cases hi2 : i < n
    · have hiI : (i : Int) < n := by omega
      have hi3 : i < hs.length := by rw [hnH.out]; exact hi2
      obtain ⟨b, off, a1, c1, rfl, hbA, r0, r1, r2, r3, r4, hsA⟩ := (hHH.out.below hbw).at hi3
      have l1 := hll.out _ (List.getElem_mem hi3)
      have htk : Hid (hs.take (i + 1) = hs.take i ++ [hs[i]]) := List.take_succ_eq_append_getElem hi3
      generalize hs[i] = h at *
      have hbl : Hid (bs.length = i) := by
        have h1 := congrArg List.length hbs.out
        rw [List.length_map, List.length_take] at h1
        show _ = _; omega
      have hA5 : (lentCells bs).length = i * 5 := by rw [lentCells_length, hbl.out]
      have hga0 : wr.heap[w.heap.size + 2]? = some (.cells (lentCells bs ++ (Z.take 5 ++ Z.drop 5)).toArray 61 (0, 0)) := by rw [List.take_append_drop]; exact hLn.all
      have hgz : w.heap.size + 2 < wr.heap.size := (Array.getElem?_eq_some_iff.1 hga0).1
      have hZ5 : (Z.take 5).length = 5 := by rw [List.length_take, hZ.out]; omega
      have hone5 : ∀ u ∈ [Value.int .i64 h.fr, .int .i64 h.fc, .int .i64 h.tr, .int .i64 h.tc, .slice a1 h.lines.length c1], u.oneCell' = true := by intro u hu; simp at hu; rcases hu with rfl | rfl | rfl | rfl | rfl <;> rfl
      have hone1 : ∀ u ∈ [Value.slice (some ⟨wr.heap.size, 0, none⟩) (h.lines.length + 2) (h.lines.length + 2)], u.oneCell' = true := by intro u hu; rw [List.mem_singleton] at hu; subst hu; rfl
      have hbl' : bs.length ≤ 300000 := by rw [hbl.out]; omega
      have hone2 : ∀ u ∈ [Value.int .u8 33, .string ⟨#[98, 101, 104, 105, 110, 100]⟩], u.oneCell' = true := by intro u hu; simp at hu; rcases hu with rfl | rfl <;> rfl
      go_wp2_with (first
        | (refine wpList_store_in rfl 61 (.tmp 32) (.tmp 31) rfl (w.heap.size + 2) (i * 5) ?_ [.int .i64 h.fr, .int .i64 h.fc, .int .i64 h.tr, .int .i64 h.tc, .slice a1 h.lines.length c1] (lentCells bs) (Z.take 5) (Z.drop 5) ?_ size_hunk 61 hga0 hA5 hZ5 hone5 ?_
           go_loud (rfl)
           go_loud (rfl)
           intro w1 q1 z1 o1 u1
           have hO1 : OnlyAt (w.heap.size + 2) wr w1 := OnlyAt.at z1 o1 u1
           have hb1 := OnlyAt.below hbel hO1 (Nat.le_refl _) hsw'
           have p1' : w1.cell? ⟨w.heap.size, 0, none⟩ = some (.slice (some ⟨b, off, none⟩) n cap) := (hO1.cell (by omega) (by omega)).trans p1
           have r4' : w1.cell? ⟨b, off + i * 5 + 4, none⟩ = some (.slice a1 h.lines.length c1) := (hO1.cell (by omega) (by omega)).trans r4)
        | (at_make; go_loud (
           refine wpList_make_full w1 rfl (.tmp 41) (.tmp 41) 59 rfl (w.heap.size + 2) 93 j0 _ 2 Tryz.underlying59 ji jx0 jx1 .i64 .i64 _ _ (h.lines.length + 2) rfl rfl (by push_cast; rfl) (by push_cast; rfl) (by rw [jx2]; omega) (by unfold maxLen; omega) (by omega) ?_
           intro w2 hown2 hgr2
           obtain ⟨X, hX, hXl⟩ := owns_made hown2
           clear hown2
           have hO2 : OnlyAt (w.heap.size + 2) wr w2 := hO1.trans (OnlyAt.grown hgr2)
           have q2 := (hgr2.block (w.heap.size + 2) (by omega) (by simp)).trans q1
           have hb2 := OnlyAt.below hbel hO2 (Nat.le_refl _) hsw'
           have hz2 := hgr2.size
           have p2' : w2.cell? ⟨w.heap.size, 0, none⟩ = some (.slice (some ⟨b, off, none⟩) n cap) := (hO2.cell (by omega) (by omega)).trans p1
           have r2' : w2.cell? ⟨b, off + i * 5 + 4, none⟩ = some (.slice a1 h.lines.length c1) := (hO2.cell (by omega) (by omega)).trans r4
           have hsB := hsA.below (w' := w2) ⟨hO2.2.2.1, hO2.2.2.2.1, hO2.2.2.2.2, hO2.1, fun k hk => hO2.2.1 k (by omega) (by omega)⟩
           rw [z1] at hX
           clear hgr2 r0 r1 r2 r3 hsA))
        | (refine wpList_copy_two rfl (.tmp 43) (.tmp 49) 59 59 rfl 93 Tryz.underlying59 size_line wr.heap.size (h.lines.length + 2) (h.lines.length + 2) a1 h.lines.length c1 ?_ ?_ (stepCells h.lines) (X.take (h.lines.length * 2)) (X.drop (h.lines.length * 2)) 93 (by rw [List.take_append_drop]; exact hX) (by omega) (stepCells_length _) (by rw [List.length_take, stepCells_length, hXl]; omega) (lines_src hsB) (step_one _) ?_
           go_loud (rfl)
           go_loud (rfl)
           intro w3 h3 z3 o3 u3
           have hO3 : OnlyAt (w.heap.size + 2) wr w3 := hO2.new (Nat.le_refl _) z3 o3 u3
           clear z3
           have q3 := (o3 (w.heap.size + 2) (by omega)).trans q2
           have hX4 : (X.drop (h.lines.length * 2)).length = 4 := by rw [List.length_drop, hXl]; omega
           generalize X.drop (h.lines.length * 2) = Y at *
           have h3' : w3.heap[wr.heap.size]? = some (.cells (stepCells h.lines ++ (Y.take 2 ++ Y.drop 2)).toArray 93 (0, 0)) := by rw [List.take_append_drop]; exact h3)
        | (refine wpList_store_in rfl 93 (.tmp 54) (.tmp 53) rfl wr.heap.size (h.lines.length * 2) ?_ [.int .u8 33, .string ⟨#[98, 101, 104, 105, 110, 100]⟩] (stepCells h.lines) (Y.take 2) (Y.drop 2) ?_ size_line 93 h3' (stepCells_length _) (by rw [List.length_take, hX4]; rfl) hone2 ?_
           go_loud (rfl)
           go_loud (rfl)
           intro w4 h4 z4 o4 u4
           have hO4 : OnlyAt (w.heap.size + 2) wr w4 := hO3.new (Nat.le_refl _) z4 o4 u4
           clear z4
           have q4 := (o4 (w.heap.size + 2) (by omega)).trans q3
           have y0 : w4.cell? ⟨wr.heap.size, h.lines.length * 2, none⟩ = some (.int .u8 33) := cell_of h4 (by simp [stepCells_length])
           have y1 : w4.cell? ⟨wr.heap.size, h.lines.length * 2 + 1, none⟩ = some (.string ⟨#[98, 101, 104, 105, 110, 100]⟩) := cell_of h4 (by simp [stepCells_length]))
        | (refine wpList_store_in rfl 93 (.tmp 62) (.tmp 61) rfl wr.heap.size ((h.lines.length + 1) * 2) ?_ [.int .u8 33, .string ⟨#[98, 101, 104, 105, 110, 100]⟩] (stepCells h.lines ++ [.int .u8 33, .string ⟨#[98, 101, 104, 105, 110, 100]⟩]) (Y.drop 2) [] ?_ size_line 93 (by rw [List.append_nil, List.append_assoc]; exact h4) (by rw [List.length_append, stepCells_length]; show _ + 2 = _; omega) (by rw [List.length_drop, hX4]; rfl) hone2 ?_
           go_loud (rfl)
           go_loud (rfl)
           intro w5 h5 z5 o5 u5
           have hO5 : OnlyAt (w.heap.size + 2) wr w5 := hO4.new (Nat.le_refl _) z5 o5 u5
           clear z5
           have q5 := (o5 (w.heap.size + 2) (by omega)).trans q4)
        | (refine wpList_store_in rfl 59 (.tmp 69) (.tmp 67) rfl (w.heap.size + 2) (i * 5 + 4) ?_ [.slice (some ⟨wr.heap.size, 0, none⟩) h.lines.length (h.lines.length + 2)] (lentCells bs ++ [.int .i64 h.fr, .int .i64 h.fc, .int .i64 h.tr, .int .i64 h.tc]) [.slice a1 h.lines.length c1] (Z.drop 5) ?_ size_lines 61 (by rw [List.append_assoc]; exact q5) (by rw [List.length_append, hA5]; rfl) rfl (by intro u hu; rw [List.mem_singleton] at hu; subst hu; rfl) ?_
           go_loud (rfl)
           go_loud (rfl)
           intro w6 q6 z6 o6 u6
           have hO6 : OnlyAt (w.heap.size + 2) wr w6 := hO5.trans (OnlyAt.at z6 o6 u6)
           clear z6
           have h6 := (o6 wr.heap.size (by omega)).trans h5)
        | (at_builtin; go_loud (
           have hrow6 := owns_same hLn.rows (w' := w6) (fun g hg => hO6.2.1 g (hLn.rows.lt g hg).2 (fun e => owns_ne hLn.rows hLn.all (by decide) (e ▸ hg)))
           refine wpList_append_own2 rfl (.tmp 70) (.tmp 72) 51 rfl (w.heap.size + 2) 59 i0 _ 1 24 Tryz.underlying51 hi ix0 ix1 ix2 rfl (by decide) vr bs.length (bs.map lentRow) rfl (hrow6.alloc _) ⟨w6.heap.size, 0, none⟩ 1 1 [.slice (some ⟨wr.heap.size, 0, none⟩) (h.lines.length + 2) (h.lines.length + 2)] rfl rfl (cells_new w6 _ _) hone1 (by unfold maxLen; omega) (by omega) (by rw [World.size_alloc]; have := hO6.1; omega) ?_
           intro v7 w7 hown7 hgr7 _
           have hL7 := hLn.push hO6 (Nat.le_refl _) hsw' (by unfold lentLine; rw [stepCells_append, ← List.append_nil (stepCells h.lines ++ stepCells [behindS, behindS])]; simpa [stepCells, behindS] using h6) (by simpa [lentH] using q6) hgr7 hown7
           have hb7 : Below (w.heap.size + 2) W0 w7 := ((OnlyAt.below hbel hO6 (Nat.le_refl _) hsw').alloc (by have := hO6.1; omega) _).grown hgr7 (by rw [World.size_alloc]; have := hO6.1; omega) (fun k e => (hLn.rows.lt k e).1)
           clear hown7 hgr7 hrow6)))
      go_roundg (n - (i + 1))
      · exact ⟨i + 1, v7, bs ++ [(h, wr.heap.size)], Z.drop 5, rfl, by omega, by push_cast; rfl, rfl, hL7, by show _ = _; rw [htk.out, List.map_append, hbs.out]; rfl, by show _ = _; rw [List.length_drop, hZ.out]; omega, hb7⟩
      · have := hG.out; omega
    · obtain rfl : i = n := by omega
      have hiI : ¬ ((i : Int) < i) := by omega
      have hmap : Hid (bs.map (·.1) = hs) := by
        have h1 := hbs.out
        rw [List.take_of_length_le (by rw [hnH.out]; exact Nat.le_refl _)] at h1
        exact h1
      have hbl : Hid (bs.length = i) := by
        have h1 := congrArg List.length hmap.out
        rw [List.length_map, hnH.out] at h1
        exact h1
      have hA5 : (lentCells bs).length = i * 5 := by rw [lentCells_length, hbl.out]
      have hga0 : wr.heap[w.heap.size + 2]? = some (.cells (lentCells bs ++ (Z.take 5 ++ Z.drop 5)).toArray 61 (0, 0)) := by rw [List.take_append_drop]; exact hLn.all
      have hgz : w.heap.size + 2 < wr.heap.size := (Array.getElem?_eq_some_iff.1 hga0).1
      have hZ5 : (Z.take 5).length = 5 := by rw [List.length_take, hZ.out]; omega
      have hZ6 : (Z.drop 5).length = 5 := by rw [List.length_drop, hZ.out]; omega
      have hone5 : ∀ m : Int, ∀ u ∈ [Value.int .i64 m, .int .i64 0, .int .i64 0, .int .i64 0, .slice none 0 0], u.oneCell' = true := by intro m u hu; simp at hu; rcases hu with rfl | rfl | rfl <;> rfl
      go_wp2_with (first
        | (refine wpList_store_in rfl 61 (.tmp 77) (.tmp 76) rfl (w.heap.size + 2) (i * 5) ?_ [.int .i64 77, .int .i64 0, .int .i64 0, .int .i64 0, .slice none 0 0] (lentCells bs) (Z.take 5) (Z.drop 5) ?_ size_hunk 61 hga0 hA5 hZ5 (hone5 77) ?_
           go_loud (rfl)
           go_loud (rfl)
           intro w1 q1 z1 o1 u1
           have hO1 : OnlyAt (w.heap.size + 2) wr w1 := OnlyAt.at z1 o1 u1)
        | (refine wpList_store_in rfl 61 (.tmp 82) (.tmp 81) rfl (w.heap.size + 2) ((i + 1) * 5) ?_ [.int .i64 78, .int .i64 0, .int .i64 0, .int .i64 0, .slice none 0 0] (lentCells bs ++ [.int .i64 77, .int .i64 0, .int .i64 0, .int .i64 0, .slice none 0 0]) (Z.drop 5) [] ?_ size_hunk 61 (by rw [List.append_nil, List.append_assoc]; exact q1) (by rw [List.length_append, hA5]; show _ + 5 = _; omega) hZ6 (hone5 78) ?_
           go_loud (rfl)
           go_loud (rfl)
           intro w2 q2 z2 o2 u2
           have hO2 : OnlyAt (w.heap.size + 2) wr w2 := hO1.trans (OnlyAt.at z2 o2 u2)
           have hR2 := (hO2.2.1 (w.heap.size + 1) (by omega) (by omega)).trans ((hbel.block (w.heap.size + 1) (by omega)).trans hP2)
           have d0 : w2.cell? ⟨w.heap.size + 1, 0, none⟩ = some (.slice none 0 0) := cell_of hR2 rfl
           have df : ∀ k, w2.frozen? ⟨w.heap.size + 1, k, none⟩ = false := fun k => frozen_of hR2))
      refine bodyPost_ret (v := .tuple #[.agg #[.slice (some ⟨w.heap.size + 2, 0, none⟩) i (i + 2)], .slice (some ⟨w.heap.size + 2, 0, none⟩) (i + 2) (i + 2), vr]) ?_ rfl ⟨w.heap.size + 2, vr, rfl, bs, hmap.out, ?_, ?_⟩
      · have hq : (w2.setCell ⟨w.heap.size + 1, 0, none⟩ (.slice (some ⟨w.heap.size + 2, 0, none⟩) i (i + 2))).cell? ⟨w.heap.size + 1, 0, none⟩ = some (.slice (some ⟨w.heap.size + 2, 0, none⟩) i (i + 2)) := cell_of (heap_setCell_same _ _ _ _ _ _ _ hR2) rfl
        simp [results, Tryz.results86, go_sem, hq]
      · refine hLn.done (fun k hk hlt hne => ?_) ?_
        · rw [heap_setCell_other _ _ _ _ _ (by omega)]
          exact hO2.2.1 k hlt hne
        · rw [heap_setCell_other _ _ _ _ _ (by omega)]
          simpa [lentEnd] using q2
      · exact (hb0.trans ((OnlyAt.below hbel hO2 (Nat.le_refl _) hsw').mono (by omega))).setCell (p := ⟨w.heap.size + 1, 0, none⟩) (Nat.le_succ _) _
end Go.Proofs.YtcclgodahlinbaaGreatDoor
namespace Go.Proofs.YtcclgodahlinbaaGreatDoor
open Go.RowKit Go
set_option maxRecDepth 100000
set_option maxHeartbeats 8000000 in
theorem patch_any {base wb bl cl : Nat} {al : Option Addr} {x : WV} {B : Bk} {w : World} {hv : List HV} (K : Kept base wb x B w) (hso : HSo bl (.slice al hv.length cl) hv w) (hn : hv.length ≤ 400000) (hln : ∀ p ∈ hv, p.1.lines.length ≤ 1900000)
    (hfl : ∀ p ∈ B.l, ∀ q ∈ hv, p.1.ownBlock = none ∨ p.1.ownBlock ≠ q.2.ownBlock) (hfh : ∀ p ∈ B.h, ∀ g, p.1.ownBlock = some g → g < bl) (hbase : base ≤ w.heap.size) (hbl : bl ≤ w.heap.size) (hc : x.c ≤ 7000000000000) (hll : B.l.length ≤ 700000000000) (hlh : B.h.length ≤ 700000000000) :
    Calls Tryz.prog 82 #[.pointer (some ⟨wb, 0, none⟩), .agg #[.slice al hv.length cl]] w fun e w' => e = .returned (.tuple #[]) ∧ ∃ (x' : WV) (B' : Bk), Kept base wb x' B' w' ∧ B'.s = B.s ∧ B'.r = B.r ∧ B'.h.length = B.h.length + 4 ∧ B'.l.length = B.l.length + 4 * hv.length ∧ x'.c = x.c + hv.length + 1 ∧ Frame base w w' (fun g => bl ≤ g) := by
  obtain ⟨i0, hi, ix0, ix1, ix2⟩ := info_parts info_hs
  obtain ⟨j0, ji, jx0, jx1, jx2⟩ := info_parts info_i
  obtain ⟨k0, ki, kx0, kx1, kx2⟩ := info_parts info_hunk
  have hap : Hid (hv.Pairwise fun p q => p.2.ownBlock = none ∨ p.2.ownBlock ≠ q.2.ownBlock) := by
    rcases hso with ⟨rfl, _⟩ | ⟨g, cap, _, _, hs⟩
    · exact List.Pairwise.nil
    · exact hs.apart
  have hadr : Hid (∀ a, al = some a → a = ⟨a.block, 0, none⟩) := owns_addrl hso.owns
  have hw0 : Below w.heap.size w (w.alloc (.cells #[.slice al hv.length cl] 32)) := (Below.refl _ _).alloc (Nat.le_refl _) _
  have hpb : (w.alloc (.cells #[.slice al hv.length cl] 32)).heap[w.heap.size]? = some (.cells #[.slice al hv.length cl] 32 (0, 0)) := heap_alloc_new w _
  have c0 : (w.alloc (.cells #[.slice al hv.length cl] 32)).cell? ⟨w.heap.size, 0, none⟩ = some (.slice al hv.length cl) := cell_of hpb rfl
  have hst : Hid (LinesLeft base wb bl x B (.slice al hv.length cl) hv w 0 (w.alloc (.cells #[.slice al hv.length cl] 32))) := LinesLeft.start (K.old fun g hg => hw0.block g hg) (hso.alloc _) ((Frame.of_below hw0).mono fun g _ h => h.elim) hfl
  have hz0 : (w.alloc (.cells #[.slice al hv.length cl] 32)).heap.size = w.heap.size + 1 := by simp
  have hfhH : Hid (∀ p ∈ B.h, ∀ g, p.1.ownBlock = some g → g < bl) := hfh
  have hlnH : Hid (∀ p ∈ hv, p.1.lines.length ≤ 1900000) := hln
  have hwb : wb < w.heap.size := (Array.getElem?_eq_some_iff.1 K.blk).1
  have hvbl : Hid (∀ g, (Value.slice al hv.length cl).ownBlock = some g → bl ≤ g) := fun g e => (hso.owns.lt g e).1
  go_enter Tryz.func82, Tryz.ntmps82
  go_wp2_with fail
  clear K hso hw0 hpb c0 hfl hfh hln
  generalize w.alloc (.cells #[.slice al hv.length cl] 32) = w0 at *
  obtain ⟨n, hne⟩ : ∃ n, hv.length = n := ⟨_, rfl⟩
  have hnE : Hid (hv.length = n) := hne
  rw [hne] at hn hst hvbl ⊢
  clear hne
  go_loopg [5] n (fun g t5 wi => ∃ i : Nat, g = n - i ∧ i ≤ n ∧ t5 = .int .i64 i ∧ Hid (LinesLeft base wb bl x B (.slice al n cl) hv w i wi) ∧ w.heap.size ≤ wi.heap.size)
  case atStart => exact ⟨0, by omega, by omega, rfl, hst, by omega⟩
  case round =>
    rename World => wi
    obtain ⟨i, hgi, hin, rfl, hL, hzi⟩ := hrel
    have hG : Hid (_ = n - i) := hgi
    clear hgi hst
    by_cases hi2 : i < n
    · have hiI : (i : Int) < n := by omega
      obtain ⟨x1, E, hP⟩ := hL.out
      have hi3 : i < hv.length := by rw [hnE.out]; exact hi2
      have hPr := hP.2.2.2.2.1
      have hrl := hP.2.2.2.1 hv[i] (by rw [List.drop_eq_getElem_cons hi3]; exact List.mem_cons_self)
      obtain ⟨g, cap, e, hgb, hgi, _⟩ := owns_slice hPr (by omega)
      have hag : al = some ⟨g, 0, none⟩ := by cases e; rfl
      have hrow5 := hPr
      rw [hag, hnE.out] at hrow5
      obtain ⟨_, _, _, _, d4⟩ := owns_hunk hrow5 hi3
      obtain ⟨alq, clq, hq⟩ := owns_isSlice hrl
      have hcall : Hid (Calls Tryz.prog 113 #[.pointer (some ⟨wb, 0, none⟩), .slice alq hv[i].1.lines.length clq] wi fun e w' => e = .returned (.tuple #[]) ∧ LinesLeft base wb bl x B (.slice al n cl) hv w (i + 1) w' ∧ w.heap.size ≤ w'.heap.size) := by
        have hz := hP.2.2.2.2.2.2.1.1
        refine (linesOf_ok (bl := bl) hP.1 (by rw [← hq]; exact hrl) (hlnH.out _ (List.getElem_mem hi3)) (fun p hp => by rw [← hq]; exact hP.2.2.2.2.2.1 p hp _ (by rw [List.drop_eq_getElem_cons hi3]; exact List.mem_cons_self)) (by omega) (by omega) (by have := hP.2.2.1; omega) (by
          show (B.l ++ E).length ≤ _
          have := hP.2.1; rw [List.length_append]; omega)).mono ?_
        rintro e w' ⟨rfl, x2, E2, k1, k2, k3, k4, k5⟩
        rw [← hq] at k4 k5
        exact ⟨rfl, LinesLeft.next hi3 hap.out hP k1 k2 k3 k4 k5 (by omega), Nat.le_trans hzi k5.1⟩
      rw [hq] at d4
      generalize hv[i].1.lines.length = ll at *
      subst hag
      clear hP hPr hrl hq e hrow5 hL
      go_wp2_with fail
      refine hcall.out.mono ?_
      rintro e w' ⟨rfl, hL', hz'⟩
      go_wp2_with fail
      go_roundg (n - (i + 1))
      · exact ⟨i + 1, rfl, by omega, by push_cast; rfl, hL', hz'⟩
      · have := hG.out; omega
    · obtain rfl : i = n := by omega
      have hiI : ¬ ((i : Int) < i) := by omega
      obtain ⟨x1, E, hP⟩ := hL.out
      have hxs : Hid ((hunkCells hv).length = i * 5) := by
        have := hP.2.2.2.2.1.1
        rw [hnE.out] at this
        exact this
      have hrw : wi.ownsRow bl 61 5 (.slice al i cl) i (hunkCells hv) := by
        have := hP.2.2.2.2.1
        rw [hnE.out] at this
        exact this
      obtain ⟨B1, hB1⟩ : ∃ B1 : Bk, { B with l := B.l ++ E } = B1 := ⟨_, rfl⟩
      have hBH : Hid (B1.h = B.h ∧ B1.s = B.s ∧ B1.r = B.r ∧ B1.l.length = B.l.length + 4 * i) := by
        rw [← hB1]
        exact ⟨rfl, rfl, rfl, by show (B.l ++ E).length = _; rw [List.length_append, hP.2.1]⟩
      have K1 := hP.1
      rw [hB1] at K1
      have hxc := hP.2.2.1
      have hFi := hP.2.2.2.2.2.2.1
      clear hL hP hB1
      have hwbi : wb < wi.heap.size := (Array.getElem?_eq_some_iff.1 K1.blk).1
      have c8 : wi.cell? ⟨wb, 8, none⟩ = some (.int .i64 (x1.c : Int)) := cell_of K1.blk rfl
      have fz8 : ∀ k, wi.frozen? ⟨wb, k, none⟩ = false := fun k => frozen_of K1.blk
      have hk2 : (wi.setCell ⟨wb, 8, none⟩ (.int .i64 ((x1.c : Int) + 1))).heap[wb]? = some ({ x1 with c := x1.c + 1 } : WV).obj := by
        rw [heap_setCell_same _ _ _ _ _ _ _ K1.blk]; simp [WV.obj]
      have K2 := K1.count hk2 (fun g _ hne => heap_setCell_other _ _ _ _ _ hne)
      have hF2 : Frame base w (wi.setCell ⟨wb, 8, none⟩ (.int .i64 ((x1.c : Int) + 1))) (fun g => bl ≤ g) := by
        refine (hFi.trans (s2 := fun _ => False) ⟨by simp, fun g hg => ?_, Outs.setCell _ _ _⟩).mono fun g _ h => h.elim id False.elim
        by_cases e : g = wb
        · subst e; exact .inr (.inr ⟨_, _, _, K1.blk, by decide, K1.wlo⟩)
        · exact .inl (heap_setCell_other _ _ _ _ _ e)
      have hv2 : (wi.setCell ⟨wb, 8, none⟩ (.int .i64 ((x1.c : Int) + 1))).ownsRow bl 61 5 (.slice al i cl) i (hunkCells hv) := owns_same hrw fun g hg => by
        obtain ⟨c, hc⟩ := owns_block hrw hg
        exact heap_setCell_other _ _ _ _ _ (block_ne hc K1.blk (by decide))
      have hz2 : (wi.setCell ⟨wb, 8, none⟩ (.int .i64 ((x1.c : Int) + 1))).heap.size = wi.heap.size := by simp
      have hxcb : x1.c ≤ 7000000400000 := by omega
      have hxcH : Hid (x1.c = x.c + i) := hxc
      clear hxc
      go_wp2_with fail
      have c9 : (wi.setCell ⟨wb, 8, none⟩ (.int .i64 ((x1.c : Int) + 1))).cell? ⟨wb, 8, none⟩ = some (.int .i64 ((x1.c : Int) + 1)) := cell_of (heap_setCell_same _ _ _ _ _ _ _ K1.blk) rfl
      clear c8 fz8 hk2 K1 hFi hrw
      generalize wi.setCell ⟨wb, 8, none⟩ (.int .i64 ((x1.c : Int) + 1)) = w2 at *
      obtain ⟨C, hCe⟩ : ∃ C : Nat, x1.c + 1 = C := ⟨_, rfl⟩
      have hCI : ((x1.c : Int) + 1) = (C : Int) := by rw [← hCe]; push_cast; rfl
      have hCH : Hid (C = x.c + i + 1) := by show _ = _; rw [← hCe, hxcH.out]
      rw [hCe] at K2
      rw [hCI] at c9
      have hCb : C ≤ 8000000000000 := by omega
      obtain ⟨xb, hxbE⟩ : ∃ xb, w2.heap.size = xb := ⟨_, rfl⟩
      have hwb2 : wb < w2.heap.size := (Array.getElem?_eq_some_iff.1 K2.blk).1
      have K2H : Hid (Kept base wb { x1 with c := C } B1 w2) := K2
      have hv2H : Hid (w2.ownsRow bl 61 5 (.slice al i cl) i (hunkCells hv) ∧ Frame base w w2 (fun g => bl ≤ g)) := ⟨hv2, hF2⟩
      clear K2 hv2 hF2 hCe
      go_cut [6] (fun s6 wx => s6 = .pointer (some ⟨xb, 0, none⟩) ∧ ((∀ g, g < w2.heap.size → wx.heap[g]? = w2.heap[g]?) ∧ Outs w2 wx) ∧ wx.heap[xb]? = some (.cells #[.int .i64 (-(C : Int)), .int .i64 0, .int .i64 (C : Int), .int .i64 0, .slice none 0 0] 61 (0, 0)) ∧ wx.heap.size = xb + 1)
      case first =>
        go_region
        all_goals
          go_wp2_with fail
          go_meet
          case rel => exact ⟨by rw [← hxbE, hz2], ⟨fun g hg => Below.heap_alloc w2 _ g hg, (Outs.alloc w2 _).trans (Outs.drew _)⟩, by rw [← hxbE]; exact heap_alloc_new w2 _, by rw [← hxbE]; simp⟩
      case rest =>
        obtain ⟨rfl, ⟨hw3, hO3⟩, hxb, hz3⟩ := hcut
        obtain ⟨w3, rfl⟩ : ∃ w3, w3 = wc := ⟨_, rfl⟩
        have hv3 : w3.ownsRow bl 61 5 (.slice al i cl) i (hunkCells hv) := owns_same hv2H.out.1 fun g hg => hw3 g (hv2H.out.1.lt g hg).2
        have hgx : Hid (∀ g, (Value.slice al i cl).ownBlock = some g → g < xb) := fun g hg => by have := (hv2H.out.1.lt g hg).2; omega
        have hv0 : Hid (∀ g, (Value.slice al i cl).ownBlock = some g → ∃ cur fr, w3.heap[g]? = some (.cells cur 61 fr)) := fun g hg => by
          obtain ⟨c, hc⟩ := owns_block hv3 hg
          exact ⟨c, _, hc⟩
        have K3H : Hid (Kept base wb { x1 with c := C } B1 w3) := K2H.out.old hw3
        have hF3 : Hid (Frame base w w3 (fun g => bl ≤ g)) := (hv2H.out.2.trans (s2 := fun _ => False) ⟨by omega, fun g hg => .inl (hw3 g hg), hO3⟩).mono fun g _ h => h.elim id False.elim
        have hfresh : Hid (∀ p ∈ B1.h, p.1.ownBlock = none ∨ p.1.ownBlock ≠ (Value.slice al i cl).ownBlock) := fun p hp => by
          rw [hBH.out.1] at hp
          cases hq : p.1.ownBlock with
          | none => exact .inl rfl
          | some g =>
            right
            intro e
            have h1 := hfhH.out p hp g hq
            have h2 := hvbl.out g e.symm
            omega
        have hz23 : Hid (w.heap.size ≤ w3.heap.size ∧ w.heap.size ≤ xb) := ⟨by omega, by omega⟩
        have hbb : base ≤ xb ∧ bl ≤ xb := ⟨by omega, by omega⟩
        clear K2H hv2H hw3 hfhH c9 hz2 hxbE hwb2 hadr hap hlnH hzi hwbi hxcb hxcH
        generalize hunkCells hv = xs at *
        go_wp2_with fail
        go_loopg [7] i (fun g t7 wr => ∃ k : Nat, g = i - k ∧ k ≤ i ∧ t7 = .int .i64 k ∧ wr.ownsRow bl 61 5 (.slice al i cl) i (pats (patH (.int .i64 (C : Int))) k ++ xs.drop (k * 5)) ∧ Hid ((∀ g, some g ≠ (Value.slice al i cl).ownBlock → wr.heap[g]? = w3.heap[g]?) ∧ Outs w3 wr) ∧ wr.heap.size = xb + 1)
        case atStart => exact ⟨0, by omega, by omega, rfl, by simpa [pats] using hv3, ⟨fun g _ => rfl, Outs.refl _⟩, hz3⟩
        case round =>
          rename World => wr
          obtain ⟨k, hgk, hkn, rfl, hrow, hoth, hzr⟩ := hrel
          have hG3 : Hid (_ = i - k) := hgk
          clear hgk
          have hxr : wr.heap[xb]? = some (.cells #[.int .i64 (-(C : Int)), .int .i64 0, .int .i64 (C : Int), .int .i64 0, .slice none 0 0] 61 (0, 0)) := by
            rw [hoth.out.1 xb (fun e => by have := hgx.out xb e.symm; omega)]; exact hxb
          by_cases hk2 : k < i
          · have hkI : (k : Int) < i := by omega
            obtain ⟨g, rfl, hg, ⟨cur, hcur, hsz⟩, hrow2⟩ := owns_set5 hrow hxs.out hk2
            have c0 : wr.cell? ⟨g, k * 5, none⟩ = some (cur[k * 5]'(by omega)) := cell_of hcur (by simp)
            have c1 : wr.cell? ⟨g, k * 5 + 1, none⟩ = some (cur[k * 5 + 1]'(by omega)) := cell_of hcur (by simp)
            have c2 : wr.cell? ⟨g, k * 5 + 2, none⟩ = some (cur[k * 5 + 2]'(by omega)) := cell_of hcur (by simp)
            have c3 : wr.cell? ⟨g, k * 5 + 3, none⟩ = some (cur[k * 5 + 3]'(by omega)) := cell_of hcur (by simp)
            have c4 : wr.cell? ⟨g, k * 5 + 4, none⟩ = some (cur[k * 5 + 4]'hsz) := cell_of hcur (by simp)
            have fz : ∀ k, wr.frozen? ⟨g, k, none⟩ = false := fun k => frozen_of hcur
            have y0 : wr.cell? ⟨xb, 0, none⟩ = some (.int .i64 (-(C : Int))) := cell_of hxr rfl
            have y1 : wr.cell? ⟨xb, 1, none⟩ = some (.int .i64 0) := cell_of hxr rfl
            have y2 : wr.cell? ⟨xb, 2, none⟩ = some (.int .i64 (C : Int)) := cell_of hxr rfl
            have y3 : wr.cell? ⟨xb, 3, none⟩ = some (.int .i64 0) := cell_of hxr rfl
            have y4 : wr.cell? ⟨xb, 4, none⟩ = some (.slice none 0 0) := cell_of hxr rfl
            have hR : (∃ j : Nat, i - (k + 1) = i - j ∧ j ≤ i ∧ Value.int .i64 ((k : Int) + 1) = .int .i64 j ∧ (((((wr.setCell ⟨g, k * 5, none⟩ (.int .i64 (-(C : Int)))).setCell ⟨g, k * 5 + 1, none⟩ (.int .i64 0)).setCell ⟨g, k * 5 + 2, none⟩ (.int .i64 (C : Int))).setCell ⟨g, k * 5 + 3, none⟩ (.int .i64 0)).setCell ⟨g, k * 5 + 4, none⟩ (.slice none 0 0)).ownsRow bl 61 5 (.slice (some ⟨g, 0, none⟩) i cl) i (pats (patH (.int .i64 (C : Int))) j ++ xs.drop (j * 5)) ∧ Hid ((∀ g', some g' ≠ (Value.slice (some ⟨g, 0, none⟩) i cl).ownBlock → (((((wr.setCell ⟨g, k * 5, none⟩ (.int .i64 (-(C : Int)))).setCell ⟨g, k * 5 + 1, none⟩ (.int .i64 0)).setCell ⟨g, k * 5 + 2, none⟩ (.int .i64 (C : Int))).setCell ⟨g, k * 5 + 3, none⟩ (.int .i64 0)).setCell ⟨g, k * 5 + 4, none⟩ (.slice none 0 0)).heap[g']? = w3.heap[g']?) ∧ Outs w3 (((((wr.setCell ⟨g, k * 5, none⟩ (.int .i64 (-(C : Int)))).setCell ⟨g, k * 5 + 1, none⟩ (.int .i64 0)).setCell ⟨g, k * 5 + 2, none⟩ (.int .i64 (C : Int))).setCell ⟨g, k * 5 + 3, none⟩ (.int .i64 0)).setCell ⟨g, k * 5 + 4, none⟩ (.slice none 0 0))) ∧ (((((wr.setCell ⟨g, k * 5, none⟩ (.int .i64 (-(C : Int)))).setCell ⟨g, k * 5 + 1, none⟩ (.int .i64 0)).setCell ⟨g, k * 5 + 2, none⟩ (.int .i64 (C : Int))).setCell ⟨g, k * 5 + 3, none⟩ (.int .i64 0)).setCell ⟨g, k * 5 + 4, none⟩ (.slice none 0 0)).heap.size = xb + 1) := by
              refine ⟨k + 1, rfl, by omega, by push_cast; rfl, hrow2, ⟨fun g' hne => ?_, hoth.out.2.trans ((Outs.setCell _ _ _).trans ((Outs.setCell _ _ _).trans ((Outs.setCell _ _ _).trans ((Outs.setCell _ _ _).trans (Outs.setCell _ _ _)))))⟩, by simp; exact hzr⟩
              have hgg : g' ≠ g := fun e => hne (by rw [e]; rfl)
              rw [heap_setCell_other _ _ _ _ _ hgg, heap_setCell_other _ _ _ _ _ hgg, heap_setCell_other _ _ _ _ _ hgg, heap_setCell_other _ _ _ _ _ hgg, heap_setCell_other _ _ _ _ _ hgg]
              exact hoth.out.1 g' hne
            have hRH : Hid _ := hR
            clear hR hrow2 hrow hoth hcur hxr
            obtain ⟨O, hO⟩ : ∃ O, k * 5 = O := ⟨_, rfl⟩
            simp only [hO] at c0 c1 c2 c3 c4 hRH
            go_wp2_with fail
            go_roundg (i - (k + 1))
            · exact hRH.out
            · have := hG3.out; omega
          · obtain rfl : k = i := by omega
            have hkI : ¬ ((k : Int) < k) := by omega
            have hrow3 : wr.ownsRow bl 61 5 (.slice al k cl) k (pats (patH (.int .i64 (C : Int))) k) := by
              have h := hrow
              rw [List.drop_of_length_le (by rw [hxs.out]; exact Nat.le_refl _), List.append_nil] at h
              exact h
            have K3 : Kept base wb { x1 with c := C } B1 wr := Kept.skip_h (vb := (Value.slice al k cl).ownBlock) K3H.out (fun g hg _ => hv0.out g hg) (fun g hg hne => hoth.out.1 g hne) (fun p hp => .inl (hfresh.out p hp))
            have hFr : Frame base w wr (fun g => bl ≤ g) := by
              refine (hF3.out.trans (s2 := fun g => some g = (Value.slice al k cl).ownBlock) ⟨by omega, fun g hg => ?_, hoth.out.2⟩).mono fun g _ h => ?_
              · by_cases e : some g = (Value.slice al k cl).ownBlock
                · exact .inr (.inl e)
                · exact .inl (hoth.out.1 g e)
              · rcases h with h | h
                · exact h
                · exact hvbl.out g h.symm
            have hKH : Hid (Kept base wb { x1 with c := C } B1 wr ∧ Frame base w wr (fun g => bl ≤ g)) := ⟨K3, hFr⟩
            have hnx : Hid ((Value.slice al k cl).ownBlock ≠ some xb) := fun e => by have := hgx.out xb e; omega
            clear K3H K3 hFr hrow hoth hv3 hxb hF3 hv0 hgx hxs
            go_wp2_with fail
            go_loopg [4, 8] 4 (fun g t4 t8 wk => ∃ (j : Nat) (al' : Option Addr) (cl' : Nat) (x' : WV) (E : List (Value × Value)), g = 4 - j ∧ j ≤ 4 ∧ t8 = .int .i64 j ∧ t4 = .slice al' (k + j) cl' ∧ wk.ownsRow bl 61 5 (.slice al' (k + j) cl') (k + j) (pats (patH (.int .i64 (C : Int))) (k + j)) ∧ Kept base wb x' { B1 with h := B1.h ++ E } wk ∧ E.length = j ∧ x'.c = C ∧
              Hid ((∀ p ∈ E, p.2 = (.int .i64 (C : Int)) ∧ ∃ al m cl, p.1 = .slice al m cl ∧ m ≤ k + j ∧ ∀ a, al = some a → a = ⟨a.block, 0, none⟩) ∧ (∀ p ∈ B1.h, p.1.ownBlock = none ∨ p.1.ownBlock ≠ (Value.slice al' (k + j) cl').ownBlock) ∧ (Value.slice al' (k + j) cl').ownBlock ≠ some xb ∧ Frame base w wk (fun g => bl ≤ g)) ∧ wk.heap[xb]? = some (.cells #[.int .i64 (-(C : Int)), .int .i64 0, .int .i64 (C : Int), .int .i64 0, .slice none 0 0] 61 (0, 0)))
            case atStart => exact ⟨0, al, cl, { x1 with c := C }, [], rfl, by omega, rfl, rfl, hrow3, by simpa using hKH.out.1, rfl, rfl, ⟨by simp, hfresh.out, hnx.out, hKH.out.2⟩, hxr⟩
            case round =>
              rename World => wk
              obtain ⟨j, al', cl', x', E, hgj, hj4, rfl, rfl, hrowk, Kk, hEl, hxc, hH, hxk⟩ := hrel
              have hG2 : Hid (_ = 4 - j) := hgj
              have hxbk : xb < wk.heap.size := (Array.getElem?_eq_some_iff.1 hxk).1
              clear hgj hKH hnx hrow3 hxr hfresh
              by_cases hj2 : j < 4
              · have hjI : (j : Int) < 4 := by omega
                obtain ⟨N, hNe⟩ : ∃ N, (B1.h ++ E).length = N := ⟨_, rfl⟩
                have hNN : Hid ((B1.h ++ E).length = N) := hNe
                have hN : N ≤ 700000000004 := by
                  have h1 := hBH.out.1
                  rw [← hNe, List.length_append, hEl, h1]
                  omega
                have hwbk : wb < wk.heap.size := (Array.getElem?_eq_some_iff.1 Kk.blk).1
                have hzk := hH.out.2.2.2.1
                have hbk : base ≤ wk.heap.size := Nat.le_trans hbase hzk
                have hblk : bl ≤ wk.heap.size := Nat.le_trans hbl hzk
                have c2 : wk.cell? ⟨wb, 0, none⟩ = some x'.h := cell_of Kk.blk rfl
                have hor : wk.ownsRow base 30 1 x'.h N ((B1.h ++ E).map (·.1)) := by rw [← hNe]; exact Kk.h.row
                have hmar : wk.ownsRow base 3 1 x'.hm N ((B1.h ++ E).map (·.2)) := by rw [← hNe]; exact Kk.h.marks
                have hon1 : ∀ u ∈ [Value.slice al' (k + j) cl'], u.oneCell' = true := by intro u hu; simp at hu; subst hu; rfl
                have hon2 : ∀ u ∈ [Value.int .i64 (C : Int)], u.oneCell' = true := by intro u hu; simp at hu; subst hu; rfl
                have hon3 : ∀ u ∈ [Value.int .i64 (-(C : Int)), .int .i64 0, .int .i64 (C : Int), .int .i64 0, .slice none 0 0], u.oneCell' = true := by intro u hu; simp at hu; rcases hu with rfl | rfl | rfl | rfl | rfl <;> rfl
                have hm2 : (N + 1) * 24 ≤ 140737488355328 := by clear hxc; omega
                have hm3 : (N + 1) * 8 ≤ 140737488355328 := by clear hxc; omega
                have hm6 : k + j + 1 ≤ 1990000 := Nat.le_trans (Nat.add_le_add_right (Nat.add_le_add hn (Nat.le_of_lt hj2)) 1) (by decide)
                have hm5 : (k + j + 1) * 56 ≤ 140737488355328 := Nat.le_trans (Nat.mul_le_mul_right 56 hm6) (by decide)
                have hm1 : N + 1 ≤ maxLen := Nat.le_trans (Nat.succ_le_succ hN) (by decide)
                have hm4 : k + j + 1 ≤ maxLen := Nat.le_trans hm6 (by decide)
                have hnr : Hid (x'.h.ownBlock ≠ some wb ∧ x'.hm.ownBlock ≠ some wb ∧ x'.h.ownBlock ≠ some xb ∧ x'.hm.ownBlock ≠ some xb ∧ ∀ g, x'.hm.ownBlock = some g → g ≠ wb ∧ some g ≠ x'.h.ownBlock) := by
                  refine ⟨fun e => ?_, fun e => ?_, fun e => ?_, fun e => ?_, fun g e => ⟨?_, fun e2 => ?_⟩⟩
                  · obtain ⟨c, hc⟩ := owns_block Kk.h.row e; exact block_ne hc Kk.blk (by decide) rfl
                  · obtain ⟨c, hc⟩ := owns_block Kk.h.marks e; exact block_ne hc Kk.blk (by decide) rfl
                  · obtain ⟨c, hc⟩ := owns_block Kk.h.row e; exact block_ne hc hxk (by decide) rfl
                  · obtain ⟨c, hc⟩ := owns_block Kk.h.marks e; exact block_ne hc hxk (by decide) rfl
                  · obtain ⟨c, hc⟩ := owns_block Kk.h.marks e; exact block_ne hc Kk.blk (by decide)
                  · obtain ⟨c, hc⟩ := owns_block Kk.h.marks e; obtain ⟨c2, hc2⟩ := owns_block Kk.h.row e2.symm; exact block_ne hc hc2 (by decide) rfl
                have hA : Hid (∀ (ob : Obj) (wA : World), (wk.alloc ob).grownBy wA x'.h.ownBlock → wA.heap[wb]? = some x'.obj ∧ wA.ownsRow base 3 1 x'.hm N ((B1.h ++ E).map (·.2)) ∧ wk.heap.size ≤ wA.heap.size) := by
                  intro ob wA g1
                  have k1 : ∀ g, g < wk.heap.size → some g ≠ x'.h.ownBlock → wA.heap[g]? = wk.heap[g]? := fun g hg hne => by
                    rw [g1.block g (by simp; omega) hne]; exact Below.heap_alloc wk ob g hg
                  have z1 := g1.size
                  simp at z1
                  exact ⟨(k1 wb hwbk (fun e => hnr.out.1 e.symm)).trans Kk.blk, owns_same hmar fun g hg => k1 g (Kk.h.marks.lt g hg).2 (hnr.out.2.2.2.2 g hg).2, by omega⟩
                have hM : Hid (Mark 61 5 (patH (.int .i64 (C : Int))) wk (.slice al' (k + j) cl')) := Mark.of_owns (pat := patH (.int .i64 (C : Int))) hrowk (Nat.le_refl _) (Nat.le_trans (Nat.le_succ _) (Nat.le_trans hm6 (by decide))) rfl (owns_addrl hrowk)
                have hKH : Hid (Kept base wb x' { B1 with h := B1.h ++ E } wk) := Kk
                have hrH : Hid (wk.ownsRow bl 61 5 (.slice al' (k + j) cl') (k + j) (pats (patH (.int .i64 (C : Int))) (k + j))) := hrowk
                have haddr : Hid (∀ a, al' = some a → a = ⟨a.block, 0, none⟩) := owns_addrl hrowk
                have hfzk : ∀ k, wk.frozen? ⟨wb, k, none⟩ = false := fun k => frozen_of Kk.blk
                have hxkH : Hid (wk.heap[xb]? = some (.cells #[.int .i64 (-(C : Int)), .int .i64 0, .int .i64 (C : Int), .int .i64 0, .slice none 0 0] 61 (0, 0))) := hxk
                have hxcH : Hid (x'.c = C) := hxc
                have hElH : Hid (E.length = j) := hEl
                clear Kk hrowk hxk hNe hxc hEl hN
                go_wp2_with (at_builtin; refine wpList_append_own2 rfl (.tmp 60) (.tmp 62) 50 rfl base 30 i0 _ 1 24 Tryz.underlying50 hi ix0 ix1 ix2 rfl (by decide) x'.h N ((B1.h ++ E).map (·.1)) rfl (hor.alloc _) ⟨wk.heap.size, 0, none⟩ 1 1 [.slice al' (k + j) cl'] rfl rfl (cells_new wk _ _) hon1 hm1 hm2 (by simp; omega) ?_; intro v1 wA o1 g1 n1; obtain ⟨a1, c1, rfl⟩ := owns_isSlice o1; obtain ⟨bA, mA, zA⟩ := hA.out _ wA g1; have cA : wA.cell? ⟨wb, 0, none⟩ = some x'.h := cell_of bA rfl; have fA : ∀ k, wA.frozen? ⟨wb, k, none⟩ = false := fun k => frozen_of bA; have o1H : Hid _ := o1; have g1H : Hid _ := g1; clear o1 g1 n1)
                obtain ⟨U, hUe⟩ : ∃ U, wA.setCell ⟨wb, 0, none⟩ (.slice a1 (N + 1) c1) = U := ⟨_, rfl⟩
                have bU : U.heap[wb]? = some ({ x' with h := .slice a1 (N + 1) c1 } : WV).obj := by rw [← hUe, heap_setCell_same _ _ _ _ _ _ _ bA]; rfl
                have mU : U.ownsRow base 3 1 x'.hm N ((B1.h ++ E).map (·.2)) := by rw [← hUe]; exact owns_same mA fun g hg => heap_setCell_other _ _ _ _ _ (hnr.out.2.2.2.2 g hg).1
                have zU : wk.heap.size ≤ U.heap.size := by rw [← hUe]; simpa using zA
                have d1 : U.cell? ⟨wb, 1, none⟩ = some x'.hm := cell_of bU rfl
                have d8 : U.cell? ⟨wb, 8, none⟩ = some (.int .i64 (C : Int)) := by rw [← hxcH.out]; exact cell_of bU rfl
                have dfz : ∀ k, U.frozen? ⟨wb, k, none⟩ = false := fun k => frozen_of bU
                have hwbU : wb < U.heap.size := Nat.lt_of_lt_of_le hwbk zU
                have hbs : ∀ ob, base ≤ ((U.alloc ob).drew).heap.size := by intro ob; simp; exact Nat.le_trans (Nat.le_trans hbk zU) (Nat.le_succ _)
                have mUd : ((U.alloc (.cells #[.int .i64 (C : Int)] 3)).drew).ownsRow base 3 1 x'.hm N ((B1.h ++ E).map (·.2)) := mU.alloc _
                have hcn : ∀ (j : Nat) (u : Value), [Value.int .i64 (C : Int)][j]? = some u → ((U.alloc (.cells #[.int .i64 (C : Int)] 3)).drew).cell? ((⟨U.heap.size, 0, none⟩ : Addr).add j) = some u := cells_new U [.int .i64 (C : Int)] 3
                have hY : Hid (∀ (ob : Obj) (w3 : World), ((U.alloc ob).drew).grownBy w3 x'.hm.ownBlock → w3.heap[wb]? = U.heap[wb]?) := by
                  intro ob w3 g2
                  rw [g2.block wb (by simp; exact Nat.lt_of_lt_of_le hwbU (Nat.le_succ _)) (fun e => hnr.out.2.1 e.symm)]
                  exact Below.heap_alloc U ob wb hwbU
                have hpush : Hid (∀ (ob : Obj) (v2 : Value) (w3 : World), ((U.alloc ob).drew).grownBy w3 x'.hm.ownBlock → w3.ownsRow base 3 1 v2 (N + 1) ((B1.h ++ E).map (·.2) ++ [(.int .i64 (C : Int))]) → (v2.ownBlock = x'.hm.ownBlock ∨ ∀ g, v2.ownBlock = some g → ((U.alloc ob).drew).heap.size ≤ g) →
                    ∃ x2 : WV, Kept base wb x2 { B1 with h := B1.h ++ (E ++ [(.slice al' (k + j) cl', (.int .i64 (C : Int)))]) } (w3.setCell ⟨wb, 1, none⟩ v2) ∧ x2.c = x'.c ∧ Frame base wk (w3.setCell ⟨wb, 1, none⟩ v2) (fun _ => False)) := by
                  intro ob v2 w3 g2 o2 n2
                  obtain ⟨k1, k2⟩ := hKH.out.push_h (m := (.int .i64 (C : Int))) (v1 := .slice a1 (N + 1) c1) (v2 := v2) (w3 := w3) g1H.out (by show wA.ownsRow base 30 1 _ ((B1.h ++ E).length + 1) _; rw [hNN.out]; exact o1H.out) (by rw [hUe]; exact ⟨g2.os, g2.tape, g2.output, g2.size, g2.block⟩) (by show w3.ownsRow base 3 1 _ ((B1.h ++ E).length + 1) _; rw [hNN.out]; exact o2) (n2.imp id fun h g e => by have h1 := h g e; simp at h1; omega) hM.out ⟨fun _ => ⟨C, by omega, rfl⟩, fun h => absurd h (by decide)⟩
                  refine ⟨{ x' with h := .slice a1 (N + 1) c1, hm := v2 }, ?_, rfl, k2⟩
                  rw [← List.append_assoc]
                  exact k1
                clear bA mA zA cA fA
                rw [hUe]
                clear hUe o1H g1H bU hA hor c2 hfzk hmar
                go_cut [] (fun wx => ∃ x2 : WV, Kept base wb x2 { B1 with h := B1.h ++ (E ++ [(.slice al' (k + j) cl', (.int .i64 (C : Int)))]) } wx ∧ x2.c = x'.c ∧ Frame base wk wx (fun _ => False))
                case first =>
                  go_region_law (refine step_append_own rfl (.tmp 70) (.tmp 75) 25 rfl base 3 j0 _ 1 8 Tryz.underlying25 ji jx0 jx1 jx2 rfl (by decide) x'.hm N ((B1.h ++ E).map (·.2)) (by simp [Act.eval]) mUd ⟨U.heap.size, 0, none⟩ 1 1 [.int .i64 (C : Int)] (by simp [Act.eval]) rfl hcn hon2 hm1 hm3 (hbs _) ?_; intro v2 w3 o2 g2 n2; obtain ⟨a2, c2, rfl⟩ := owns_isSlice o2; have b3 := hY.out _ w3 g2; have e3 := (World.cell?_of_block (a := ⟨wb, 1, none⟩) b3).trans d1; have f3 := fun k => (World.frozen?_of_block (a := ⟨wb, k, none⟩) b3).trans (dfz k))
                  all_goals
                    have hR := hpush.out _ _ w3 g2 o2 n2
                    have hRH : Hid _ := hR
                    clear hR hpush hY g2 o2 n2
                    go_wp2_with fail
                    go_meet
                    case rel => exact hRH.out
                case rest =>
                  obtain ⟨x2, K4, hx2c, F4⟩ := hcut
                  obtain ⟨W4, rfl⟩ : ∃ W4, W4 = wc := ⟨_, rfl⟩
                  have hx4 : W4.heap[xb]? = some (.cells #[.int .i64 (-(C : Int)), .int .i64 0, .int .i64 (C : Int), .int .i64 0, .slice none 0 0] 61 (0, 0)) := (F4.at hxkH.out (by decide) (fun h => h)).trans hxkH.out
                  have row4 : W4.ownsRow bl 61 5 (.slice al' (k + j) cl') (k + j) (pats (patH (.int .i64 (C : Int))) (k + j)) := owns_same hrH.out fun g hg => by
                    obtain ⟨c, hc⟩ := owns_block hrH.out hg
                    exact F4.at hc (by decide) (fun h => h)
                  have hbl4 : bl ≤ W4.heap.size := Nat.le_trans hblk F4.1
                  have e0 : W4.cell? ⟨xb, 0, none⟩ = some (.int .i64 (-(C : Int))) := cell_of hx4 rfl
                  have e1 : W4.cell? ⟨xb, 1, none⟩ = some (.int .i64 0) := cell_of hx4 rfl
                  have e2 : W4.cell? ⟨xb, 2, none⟩ = some (.int .i64 (C : Int)) := cell_of hx4 rfl
                  have e3 : W4.cell? ⟨xb, 3, none⟩ = some (.int .i64 0) := cell_of hx4 rfl
                  have e4 : W4.cell? ⟨xb, 4, none⟩ = some (.slice none 0 0) := cell_of hx4 rfl
                  have hFin : Hid (∀ (ob : Obj) (v5 : Value) (w5 : World), w5.ownsRow bl 61 5 v5 (k + j + 1) (pats (patH (.int .i64 (C : Int))) (k + j) ++ [.int .i64 (-(C : Int)), .int .i64 0, .int .i64 (C : Int), .int .i64 0, .slice none 0 0]) → ((v5.ownBlock = (Value.slice al' (k + j) cl').ownBlock ∧ (W4.alloc ob).grownBy w5 (Value.slice al' (k + j) cl').ownBlock) ∨ ((∀ g, v5.ownBlock = some g → (W4.alloc ob).heap.size ≤ g) ∧ (W4.alloc ob).grownBy w5 none)) →
                      ∃ (j' : Nat) (al5 : Option Addr) (cl5 : Nat) (x5 : WV) (E5 : List (Value × Value)), 4 - (j + 1) = 4 - j' ∧ j' ≤ 4 ∧ Value.int .i64 ((j : Int) + 1) = .int .i64 j' ∧ v5 = .slice al5 (k + j') cl5 ∧ w5.ownsRow bl 61 5 (.slice al5 (k + j') cl5) (k + j') (pats (patH (.int .i64 (C : Int))) (k + j')) ∧ Kept base wb x5 { B1 with h := B1.h ++ E5 } w5 ∧ E5.length = j' ∧ x5.c = C ∧
                      Hid ((∀ p ∈ E5, p.2 = (.int .i64 (C : Int)) ∧ ∃ al m cl, p.1 = .slice al m cl ∧ m ≤ k + j' ∧ ∀ a, al = some a → a = ⟨a.block, 0, none⟩) ∧ (∀ p ∈ B1.h, p.1.ownBlock = none ∨ p.1.ownBlock ≠ (Value.slice al5 (k + j') cl5).ownBlock) ∧ (Value.slice al5 (k + j') cl5).ownBlock ≠ some xb ∧ Frame base w w5 (fun g => bl ≤ g)) ∧ w5.heap[xb]? = some (.cells #[.int .i64 (-(C : Int)), .int .i64 0, .int .i64 (C : Int), .int .i64 0, .slice none 0 0] 61 (0, 0))) := by
                    intro ob v5 w5 row5 h3
                    obtain ⟨q2, q3, q5, q6⟩ := hH.out
                    have hE2 : ∀ p ∈ E ++ [(Value.slice al' (k + j) cl', Value.int .i64 (C : Int))], p.2 = (.int .i64 (C : Int)) ∧ ∃ al m cl, p.1 = .slice al m cl ∧ m ≤ k + j ∧ ∀ a, al = some a → a = ⟨a.block, 0, none⟩ := by
                      intro p hp
                      rcases List.mem_append.1 hp with hp | hp
                      · exact q2 p hp
                      · rw [List.mem_singleton] at hp
                        subst hp
                        exact ⟨rfl, al', k + j, cl', rfl, Nat.le_refl _, haddr.out⟩
                    obtain ⟨s1, s2, s3, s4, s5⟩ := patch_step (ob := ob) (c := (C : Int)) K4 (Nat.le_of_succ_le hm6) row4 hE2 q3 row5 h3
                    obtain ⟨al5, cl5, rfl⟩ := owns_isSlice row5
                    have hFz := F4.1
                    have hold : (Value.slice al5 (k + j + 1) cl5).ownBlock = (Value.slice al' (k + j) cl').ownBlock ∨ ∀ g, (Value.slice al5 (k + j + 1) cl5).ownBlock = some g → W4.heap.size ≤ g := h3.imp (fun h => h.1) (fun h g e => by have := h.1 g e; simp at this; omega)
                    refine ⟨j + 1, al5, cl5, x2, _, rfl, hj2, by push_cast; rfl, rfl, s3, s1, by rw [List.length_append, hElH.out]; rfl, hx2c.trans hxcH.out, ⟨?_, s4, ?_, ?_⟩, ?_⟩
                    · intro p hp
                      obtain ⟨r1, al, m, cl, r2, r3, r4⟩ := hE2 p hp
                      exact ⟨r1, al, m, cl, r2, Nat.le_succ_of_le r3, r4⟩
                    · rcases hold with h | h
                      · have h' : (Value.slice al5 (k + (j + 1)) cl5).ownBlock = (Value.slice al' (k + j) cl').ownBlock := h
                        rw [h']; exact q5
                      · intro e
                        have := h xb e
                        omega
                    · have hF := (q6.trans F4).trans s2
                      refine hF.mono fun g hg h => ?_
                      rcases h with (h | h) | h
                      · exact h
                      · exact h.elim
                      · exact (row4.lt g h.symm).1
                    · rw [s5 xb (by omega) (fun e => q5 e.symm)]
                      exact hx4
                  clear hH hKH hM K4 F4 hnr hrH
                  go_wp2_with (at_builtin; refine wpList_append_own3 rfl (.tmp 79) (.tmp 81) 30 rfl bl 61 k0 _ 5 56 Tryz.underlying30 ki kx0 kx1 kx2 rfl (by decide) (.slice al' (k + j) cl') (k + j) (pats (patH (.int .i64 (C : Int))) (k + j)) rfl (row4.alloc _) ⟨W4.heap.size, 0, none⟩ 1 1 [.int .i64 (-(C : Int)), .int .i64 0, .int .i64 (C : Int), .int .i64 0, .slice none 0 0] rfl rfl (cells_new W4 _ _) hon3 hm4 hm5 (by simp; omega) ?_; intro v5 w5 row5 h3; have hR := hFin.out _ v5 w5 row5 h3; have hRH : Hid _ := hR; clear hR row5 h3)
                  go_roundg (4 - (j + 1))
                  · exact hRH.out
                  · have := hG2.out; omega
              · obtain rfl : j = 4 := by omega
                have hR : ∃ (x' : WV) (B' : Bk), Kept base wb x' B' wk ∧ B'.s = B.s ∧ B'.r = B.r ∧ B'.h.length = B.h.length + 4 ∧ B'.l.length = B.l.length + 4 * hv.length ∧ x'.c = x.c + hv.length + 1 ∧ Frame base w wk (fun g => bl ≤ g) := by
                  obtain ⟨r1, r2, r3, r4⟩ := hBH.out
                  exact ⟨x', { B1 with h := B1.h ++ E }, Kk, r2, r3, by show (B1.h ++ E).length = _; rw [List.length_append, hEl, r1], by rw [hnE.out]; exact r4, by rw [hxc, hnE.out]; exact hCH.out, hH.out.2.2.2⟩
                have hRH : Hid _ := hR
                clear hR Kk hH hrowk hxk
                go_wp2_with fail
                go_end0
                exact ⟨rfl, hRH.out⟩
theorem patch_ok {base wb bl cl : Nat} {al : Option Addr} {x : WV} {B : Bk} {w : World} {hv : List HV} (K : Kept base wb x B w) (hso : HSo bl (.slice al hv.length cl) hv w) (hn : hv.length ≤ 400000) (hln : ∀ p ∈ hv, p.1.lines.length ≤ 1900000)
    (hfl : ∀ p ∈ B.l, ∀ g, p.1.ownBlock = some g → g < bl) (hfh : ∀ p ∈ B.h, ∀ g, p.1.ownBlock = some g → g < bl) (hbase : base ≤ w.heap.size) (hbl : bl ≤ w.heap.size) (hc : x.c ≤ 7000000000000) (hll : B.l.length ≤ 700000000000) (hlh : B.h.length ≤ 700000000000) :
    Calls Tryz.prog 82 #[.pointer (some ⟨wb, 0, none⟩), .agg #[.slice al hv.length cl]] w fun e w' => e = .returned (.tuple #[]) ∧ ∃ (x' : WV) (B' : Bk), Kept base wb x' B' w' ∧ B'.s = B.s ∧ B'.r = B.r ∧ B'.h.length = B.h.length + 4 ∧ B'.l.length = B.l.length + 4 * hv.length ∧ x'.c = x.c + hv.length + 1 ∧ Frame base w w' (fun g => bl ≤ g) := by
  refine patch_any K hso hn hln (fun p hp q hq => ?_) hfh hbase hbl hc hll hlh
  cases hv' : p.1.ownBlock with
  | none => exact .inl rfl
  | some g =>
    right
    intro e
    have h1 := hfl p hp g hv'
    rcases hso with ⟨rfl, _⟩ | ⟨g', cap, _, _, hs⟩
    · simp at hq
    · have h2 := ((hs.lines q hq).lt g e.symm).1
      omega
end Go.Proofs.YtcclgodahlinbaaGreatDoor
