import Derived.Test.YtcclgodahlinbaaGreatDoorWPieceMem
namespace Go.Proofs.YtcclgodahlinbaaGreatDoor
open Go.RowKit Go
set_option maxRecDepth 100000

theorem oldOf_take (L : List StepB) (k : Nat) (h : k < L.length) : Dn.oldOf (L.take (k + 1)) = Dn.oldOf (L.take k) ++ (if L[k].kind = 43 then [] else [L[k].text]) := by
  rw [List.take_succ_eq_append_getElem h, Dn.oldOf_append]
  congr 1
  unfold Dn.oldOf
  by_cases e : L[k].kind = 43 <;> simp [e]
theorem newOf_take (L : List StepB) (k : Nat) (h : k < L.length) : Dn.newOf (L.take (k + 1)) = Dn.newOf (L.take k) ++ (if L[k].kind = 45 then [] else [L[k].text]) := by
  rw [List.take_succ_eq_append_getElem h, Dn.newOf_append]
  congr 1
  unfold Dn.newOf
  by_cases e : L[k].kind = 45 <;> simp [e]
theorem oldOf_len (l : List StepB) : (Dn.oldOf l).length ≤ l.length := by unfold Dn.oldOf; rw [List.length_map]; exact List.length_filter_le _ _
theorem newOf_len (l : List StepB) : (Dn.newOf l).length ≤ l.length := by unfold Dn.newOf; rw [List.length_map]; exact List.length_filter_le _ _

theorem owns_isSlice {w : World} {base e size : Nat} {v : Value} {n : Nat} {xs : List Value} (h : w.ownsRow base e size v n xs) : ∃ a c, v = .slice a n c := by
  rcases h.2 with ⟨e, h0⟩ | ⟨g, cap, cur, e, _⟩
  · exact ⟨none, 0, by rw [e, h0]⟩
  · exact ⟨_, _, e⟩

theorem keepO {W w1 : World} {ob : Obj} {base n x : Nat} {v : Value} {xs : List Value} {cs : Array Value} {t : TypeId} {fr : Nat × Nat} (hg : (W.alloc ob).grownBy w1 v.ownBlock) (ho : W.ownsRow base 9 1 v n xs) (hk : W.heap[x]? = some (.cells cs t fr)) (hne : 9 ≠ t) : w1.heap[x]? = some (.cells cs t fr) := by
  have hx : x < W.heap.size := (Array.getElem?_eq_some_iff.1 hk).1
  rw [hg.block x (by simp; omega) (fun e => owns_ne ho hk hne e.symm), Below.heap_alloc W ob x hx]; exact hk

theorem cells_new' {W : World} {n : Nat} (h : W.heap.size = n) (cs : List Value) (T : TypeId) : ∀ (j : Nat) (u : Value), cs[j]? = some u → (W.alloc (.cells cs.toArray T)).cell? ((⟨n, 0, none⟩ : Addr).add j) = some u := by subst h; exact cells_new W cs T

set_option maxHeartbeats 2000000 in
theorem pieceOf_any {L : List StepB} {a : Option Addr} {cap : Nat} {w : World} (hS : StepsAt w.heap.size w (.slice a L.length cap) L) (hL : L.length ≤ 1000) (hk : ∀ s ∈ L, s.kind = 32 ∨ s.kind = 45 ∨ s.kind = 43) :
    Calls Tryz.prog 60 #[.slice a L.length cap] w fun e w' => ∃ vo vf, e = .returned (.agg #[vo, vf]) ∧ w'.ownsRow w.heap.size 9 1 vo (Dn.oldOf L).length (strCells (Dn.oldOf L)) ∧ w'.ownsRow w.heap.size 9 1 vf (Dn.newOf L).length (strCells (Dn.newOf L)) ∧ Below w.heap.size w w' := by
  obtain ⟨i0, hi, hz0, hz1, hz2⟩ := info_parts info_str
  have hw0 : Below w.heap.size w ((w.alloc (.cells #[.slice none 0 0, .slice none 0 0] 125)).alloc (.cells #[.slice none 0 0, .slice none 0 0] 125)) := ((Below.refl _ _).alloc (Nat.le_refl _) _).alloc (by simp) _
  have hR0 : ((w.alloc (.cells #[.slice none 0 0, .slice none 0 0] 125)).alloc (.cells #[.slice none 0 0, .slice none 0 0] 125)).heap[w.heap.size]? = some (.cells #[.slice none 0 0, .slice none 0 0] 125 (0, 0)) := by
    rw [Below.heap_alloc _ _ _ (by simp)]; exact heap_alloc_new w _
  have hP0 := heap_alloc_new (w.alloc (.cells #[.slice none 0 0, .slice none 0 0] 125)) (.cells #[.slice none 0 0, .slice none 0 0] 125)
  rw [World.size_alloc] at hP0
  go_enter Tryz.func60, Tryz.ntmps60
  go_wp2
  go_loopg [8] L.length (fun g t wr => ∃ (k : Nat) (vo vf : Value), g = L.length - k ∧ k ≤ L.length ∧ t = .int .i64 k ∧ PM w.heap.size (w.heap.size + 1) vo vf (Dn.oldOf (L.take k)) (Dn.newOf (L.take k)) wr ∧ wr.heap[w.heap.size]? = some (.cells #[.slice none 0 0, .slice none 0 0] 125 (0, 0)) ∧ Below w.heap.size w wr)
  case atStart => exact ⟨0, .slice none 0 0, .slice none 0 0, by omega, by omega, rfl, ⟨by omega, hP0, World.ownsRow_nil _ _ _ _, World.ownsRow_nil _ _ _ _, .inl rfl⟩, hR0, hw0⟩
  case round =>
    obtain ⟨k, vo, vf, hgk, hkl, rfl, hpm0, hR, hbel⟩ := hrel
    clear hw0 hR0 hP0
    have hsz := hbel.size
    have hPw : w.heap.size + 1 < wr.heap.size := (Array.getElem?_eq_some_iff.1 hpm0.blk).1
    obtain ⟨ao, co, rfl⟩ := owns_isSlice hpm0.o
    obtain ⟨af, cf, rfl⟩ := owns_isSlice hpm0.f
    have g0 : wr.cell? ⟨w.heap.size + 1, 0, none⟩ = some (.slice ao (Dn.oldOf (L.take k)).length co) := cell_of hpm0.blk rfl
    have g1 : wr.cell? ⟨w.heap.size + 1, 1, none⟩ = some (.slice af (Dn.newOf (L.take k)).length cf) := cell_of hpm0.blk rfl
    have hf0 : ∀ k, wr.frozen? ⟨w.heap.size + 1, k, none⟩ = false := fun k => frozen_of hpm0.blk
    by_cases hkk : k < L.length
    · have hkI : (k : Int) < L.length := by omega
      obtain ⟨b, rfl, hbB, r0, r1⟩ := (hS.below hbel).at hkk
      have hkind := hk _ (List.getElem_mem hkk)
      have ho := oldOf_take L k hkk
      have hn := newOf_take L k hkk
      have l1 : (Dn.oldOf (L.take k)).length ≤ 1000 := by have := oldOf_len (L.take k); have := List.length_take_le k L; omega
      have l2 : (Dn.newOf (L.take k)).length ≤ 1000 := by have := newOf_len (L.take k); have := List.length_take_le k L; omega
      generalize Dn.oldOf (L.take k) = lo at *
      generalize Dn.newOf (L.take k) = lf at *
      generalize L[k] = s at r0 r1 hkind ho hn
      have hA : Hid (gk = L.length - k) := hgk
      clear hgk hk
      have hone : ∀ u ∈ [Value.string s.text], u.oneCell' = true := by intro u hu; simp at hu; subst hu; rfl
      have hm1 : lo.length + 1 ≤ maxLen := by unfold maxLen; omega
      have hm2 : (lo.length + 1) * 16 ≤ 140737488355328 := by omega
      have hm3 : lf.length + 1 ≤ maxLen := by unfold maxLen; omega
      have hm4 : (lf.length + 1) * 16 ≤ 140737488355328 := by omega
      have hB := heap_alloc_new wr (.cells #[.int .u8 (s.kind : Int), .string s.text] 93)
      have hpm := hpm0.alloc (.cells #[.int .u8 (s.kind : Int), .string s.text] 93)
      have hRb := (Below.heap_alloc wr (.cells #[.int .u8 (s.kind : Int), .string s.text] 93) w.heap.size (by omega)).trans hR
      have hbel1 := hbel.alloc hsz (.cells #[.int .u8 (s.kind : Int), .string s.text] 93)
      have hnews : ∀ (j : Nat) u, [Value.string s.text][j]? = some u → (((wr.alloc (.cells #[.int .u8 (s.kind : Int), .string s.text] 93)).alloc (.cells #[.string s.text] 9)).cell? (Addr.add ⟨wr.heap.size + 1, 0, none⟩ j)) = some u := by
        have := cells_new (wr.alloc (.cells #[.int .u8 (s.kind : Int), .string s.text] 93)) [.string s.text] 9
        rw [World.size_alloc] at this
        exact this
      rcases hkind with hk | hk | hk <;> rw [hk] at r0 hB hpm hRb hbel1 hnews ho hn
      · go_wp2_with (first | (at_builtin; refine wpList_append_own2 rfl (.tmp 16) (.tmp 19) 27 rfl w.heap.size 9 i0 _ 1 16 Tryz.underlying27 hi hz0 hz1 hz2 rfl (by decide) (.slice ao lo.length co) lo.length (strCells lo) rfl (hpm.o.alloc _) ⟨wr.heap.size + 1, 0, none⟩ 1 1 [.string s.text] rfl rfl hnews hone hm1 hm2 (by simp; omega) ?_; intro vo' w1 hown1 hgr1 hnew1; obtain ⟨g1, cap1, rfl, hgg1, _⟩ := owns_slice hown1 (Nat.succ_pos _); have kP := keepO hgr1 hpm.o hpm.blk (by decide); have kB := keepO hgr1 hpm.o hB (by decide); have kR := keepO hgr1 hpm.o hRb (by decide); have p1 : w1.cell? ⟨w.heap.size + 1, 1, none⟩ = some (.slice af lf.length cf) := cell_of kP rfl; have p0 : w1.cell? ⟨w.heap.size + 1, 0, none⟩ = some (.slice ao lo.length co) := cell_of kP rfl; have pf : ∀ k, w1.frozen? ⟨w.heap.size + 1, k, none⟩ = false := fun k => frozen_of kP; have q0 : w1.cell? ⟨wr.heap.size, 0, none⟩ = some (.int .u8 32) := cell_of kB rfl; have q1 : w1.cell? ⟨wr.heap.size, 1, none⟩ = some (.string s.text) := cell_of kB rfl; have hb1 : Below w.heap.size w w1 := (hbel1.alloc (by simp; omega) _).grown hgr1 (by simp; omega) (fun k e => (hpm.o.lt k e).1); have hz := hb1.size; have hpm2 := hpm.addO hown1 hgr1 hnew1; have kR2 := (heap_setCell_other w1 (w.heap.size + 1) w.heap.size 0 (.slice (some ⟨g1, 0, none⟩) (lo.length + 1) cap1) (by omega)).trans kR) | (at_builtin; go_loud (refine wpList_append_own2 rfl (.tmp 26) (.tmp 29) 27 rfl w.heap.size 9 i0 _ 1 16 Tryz.underlying27 hi hz0 hz1 hz2 rfl (by decide) (.slice af lf.length cf) lf.length (strCells lf) rfl (hpm2.f.alloc _) ⟨w1.heap.size, 0, none⟩ 1 1 [.string s.text] rfl rfl (cells_new' (W := w1.setCell ⟨w.heap.size + 1, 0, none⟩ (.slice (some ⟨g1, 0, none⟩) (lo.length + 1) cap1)) (by simp) [.string s.text] 9) hone hm3 hm4 (by simp; omega) ?_); intro vf' w2 hown2 hgr2 hnew2; obtain ⟨g2, cap2, rfl, hgg2, _⟩ := owns_slice hown2 (Nat.succ_pos _); have jP := keepO hgr2 hpm2.f hpm2.blk (by decide); have jR := keepO hgr2 hpm2.f kR2 (by decide); have j1 : w2.cell? ⟨w.heap.size + 1, 1, none⟩ = some (.slice af lf.length cf) := cell_of jP rfl; have jf : ∀ k, w2.frozen? ⟨w.heap.size + 1, k, none⟩ = false := fun k => frozen_of jP; have hb2 : Below w.heap.size w w2 := ((hb1.setCell (p := ⟨w.heap.size + 1, 0, none⟩) (Nat.le_succ w.heap.size) _).alloc (by simp; omega) _).grown hgr2 (by simp; omega) (fun k e => (hpm2.f.lt k e).1)))
        go_roundg (L.length - (k + 1))
        · exact ⟨k + 1, _, _, rfl, by omega, by push_cast; rfl, by rw [ho, hn]; exact hpm2.addF hown2 hgr2 hnew2, (heap_setCell_other _ _ _ _ _ (by omega)).trans jR, hb2.setCell (p := ⟨w.heap.size + 1, 1, none⟩) (Nat.le_succ w.heap.size) _⟩
        · have := hA.out; omega
      · go_wp2_with (at_builtin; refine wpList_append_own2 rfl (.tmp 16) (.tmp 19) 27 rfl w.heap.size 9 i0 _ 1 16 Tryz.underlying27 hi hz0 hz1 hz2 rfl (by decide) (.slice ao lo.length co) lo.length (strCells lo) rfl (hpm.o.alloc _) ⟨wr.heap.size + 1, 0, none⟩ 1 1 [.string s.text] rfl rfl hnews hone hm1 hm2 (by simp; omega) ?_; intro vo' w1 hown1 hgr1 hnew1; obtain ⟨g1, cap1, rfl, hgg1, _⟩ := owns_slice hown1 (Nat.succ_pos _); have kP := keepO hgr1 hpm.o hpm.blk (by decide); have kB := keepO hgr1 hpm.o hB (by decide); have kR := keepO hgr1 hpm.o hRb (by decide); have p1 : w1.cell? ⟨w.heap.size + 1, 1, none⟩ = some (.slice af lf.length cf) := cell_of kP rfl; have p0 : w1.cell? ⟨w.heap.size + 1, 0, none⟩ = some (.slice ao lo.length co) := cell_of kP rfl; have pf : ∀ k, w1.frozen? ⟨w.heap.size + 1, k, none⟩ = false := fun k => frozen_of kP; have q0 : w1.cell? ⟨wr.heap.size, 0, none⟩ = some (.int .u8 45) := cell_of kB rfl; have q1 : w1.cell? ⟨wr.heap.size, 1, none⟩ = some (.string s.text) := cell_of kB rfl; have hb1 : Below w.heap.size w w1 := (hbel1.alloc (by simp; omega) _).grown hgr1 (by simp; omega) (fun k e => (hpm.o.lt k e).1); have hz := hb1.size; have hpm2 := hpm.addO hown1 hgr1 hnew1; have kR2 := (heap_setCell_other w1 (w.heap.size + 1) w.heap.size 0 (.slice (some ⟨g1, 0, none⟩) (lo.length + 1) cap1) (by omega)).trans kR)
        go_roundg (L.length - (k + 1))
        · exact ⟨k + 1, _, _, rfl, by omega, by push_cast; rfl, by rw [ho, hn]; simpa using hpm2, kR2, hb1.setCell (p := ⟨w.heap.size + 1, 0, none⟩) (Nat.le_succ w.heap.size) _⟩
        · have := hA.out; omega
      · go_wp2_with (at_builtin; refine wpList_append_own2 rfl (.tmp 26) (.tmp 29) 27 rfl w.heap.size 9 i0 _ 1 16 Tryz.underlying27 hi hz0 hz1 hz2 rfl (by decide) (.slice af lf.length cf) lf.length (strCells lf) rfl (hpm.f.alloc _) ⟨wr.heap.size + 1, 0, none⟩ 1 1 [.string s.text] rfl rfl hnews hone hm3 hm4 (by simp; omega) ?_; intro vf' w2 hown2 hgr2 hnew2; obtain ⟨g2, cap2, rfl, hgg2, _⟩ := owns_slice hown2 (Nat.succ_pos _); have jP := keepO hgr2 hpm.f hpm.blk (by decide); have jR := keepO hgr2 hpm.f hRb (by decide); have j1 : w2.cell? ⟨w.heap.size + 1, 1, none⟩ = some (.slice af lf.length cf) := cell_of jP rfl; have jf : ∀ k, w2.frozen? ⟨w.heap.size + 1, k, none⟩ = false := fun k => frozen_of jP; have hb2 : Below w.heap.size w w2 := (hbel1.alloc (by simp; omega) _).grown hgr2 (by simp; omega) (fun k e => (hpm.f.lt k e).1))
        go_roundg (L.length - (k + 1))
        · exact ⟨k + 1, _, _, rfl, by omega, by push_cast; rfl, by rw [ho, hn]; simpa using hpm.addF hown2 hgr2 hnew2, (heap_setCell_other _ _ _ _ _ (by omega)).trans jR, hb2.setCell (p := ⟨w.heap.size + 1, 1, none⟩) (Nat.le_succ w.heap.size) _⟩
        · have := hA.out; omega
    · obtain rfl : k = L.length := by omega
      rw [List.take_length] at hpm0 g0 g1
      have f0 : wr.frozen? ⟨w.heap.size, 0, none⟩ = false := frozen_of hR
      have f1 : wr.frozen? ⟨w.heap.size, 1, none⟩ = false := frozen_of hR
      have hR0 : wr.cell? ⟨w.heap.size, 0, none⟩ = some (.slice none 0 0) := cell_of hR rfl
      have hR1 : wr.cell? ⟨w.heap.size, 1, none⟩ = some (.slice none 0 0) := cell_of hR rfl
      go_wp2
      have hw' := (hbel.setCell (p := ⟨w.heap.size, 0, none⟩) (Nat.le_refl _) (.slice ao (Dn.oldOf L).length co)).setCell (p := ⟨w.heap.size, 1, none⟩) (Nat.le_refl _) (.slice af (Dn.newOf L).length cf)
      have hg2 := grownBy_trans (grownBy_setCell wr w.heap.size 0 (.slice ao (Dn.oldOf L).length co)) (grownBy_setCell _ w.heap.size 1 (.slice af (Dn.newOf L).length cf))
      have ko := hpm0.o.kept hg2 (.inr (owns_ne hpm0.o hR (by decide)))
      have kf := hpm0.f.kept hg2 (.inr (owns_ne hpm0.f hR (by decide)))
      have hF := heap_setCell_same _ w.heap.size 1 (.slice af (Dn.newOf L).length cf) _ _ _ (heap_setCell_same wr w.heap.size 0 (.slice ao (Dn.oldOf L).length co) _ _ _ hR)
      have c0 := cell_of (k := 0) (v := .slice ao (Dn.oldOf L).length co) hF rfl
      have c1 := cell_of (k := 1) (v := .slice af (Dn.newOf L).length cf) hF rfl
      refine bodyPost_ret (v := .agg #[.slice ao (Dn.oldOf L).length co, .slice af (Dn.newOf L).length cf]) (by simp [results, Tryz.results60, go_sem, c0, c1]) rfl ⟨_, _, rfl, ko, kf, hw'⟩
end Go.Proofs.YtcclgodahlinbaaGreatDoor
