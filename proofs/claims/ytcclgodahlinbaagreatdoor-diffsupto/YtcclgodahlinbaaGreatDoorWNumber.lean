import Derived.Test.YtcclgodahlinbaaGreatDoorWHunk
namespace Go.Proofs.YtcclgodahlinbaaGreatDoor
open Go.RowKit Go
set_option maxRecDepth 100000

def numL (h : HunkM) : HunkM := { h with fr := h.fr + (if h.fc = 0 then 0 else 1), tr := h.tr + (if h.tc = 0 then 0 else 1) }

set_option maxHeartbeats 800000 in
theorem number_at (g O : Nat) (h : HunkM) (w : World) (hf : ∀ k, w.frozen? ⟨g, k, none⟩ = false) (b1 : h.fr ≤ 100000) (b2 : h.tr ≤ 100000)
    (c0 : w.cell? ⟨g, O, none⟩ = some (.int .i64 (h.fr : Nat))) (c1 : w.cell? ⟨g, O + 1, none⟩ = some (.int .i64 (h.fc : Nat)))
    (c2 : w.cell? ⟨g, O + 2, none⟩ = some (.int .i64 (h.tr : Nat))) (c3 : w.cell? ⟨g, O + 3, none⟩ = some (.int .i64 (h.tc : Nat))) :
    Calls Tryz.prog 58 #[.pointer (some ⟨g, O, none⟩)] w fun e w' => e = .returned (.tuple #[]) ∧
      ∃ l : List (Nat × Value), w' = l.foldl (fun w p => w.setCell ⟨g, p.1, none⟩ p.2) w ∧
        ((l = [] ∧ numL h = h) ∨ (l = [(O, .int .i64 ((numL h).fr : Nat))] ∧ (numL h).tr = h.tr) ∨ (l = [(O + 2, .int .i64 ((numL h).tr : Nat))] ∧ (numL h).fr = h.fr) ∨ l = [(O, .int .i64 ((numL h).fr : Nat)), (O + 2, .int .i64 ((numL h).tr : Nat))]) := by
  have e1 : ((h.fr + 1 : Nat) : Int) = (h.fr : Int) + 1 := by omega
  have e2 : ((h.tr + 1 : Nat) : Int) = (h.tr : Int) + 1 := by omega
  by_cases h1 : h.fc = 0
  · have t1 : ¬ ((0 : Int) < (h.fc : Int)) := by omega
    by_cases h2 : h.tc = 0
    · have t2 : ¬ ((0 : Int) < (h.tc : Int)) := by omega
      have hN : Hid (numL h = h) := by unfold Hid numL; cases h; simp_all
      clear h1 h2
      go_enter Tryz.func58, Tryz.ntmps58
      go_wp2
      go_end0
      exact ⟨rfl, [], rfl, .inl ⟨rfl, hN.out⟩⟩
    · have t2 : ((0 : Int) < (h.tc : Int)) := by omega
      have hN : Hid ((numL h).fr = h.fr ∧ (numL h).tr = h.tr + 1) := by unfold Hid numL; simp [h1, h2]
      clear h1 h2
      go_enter Tryz.func58, Tryz.ntmps58
      go_wp2
      go_end0
      exact ⟨rfl, _, rfl, .inr (.inr (.inl ⟨by rw [hN.out.2, e2], hN.out.1⟩))⟩
  · have t1 : ((0 : Int) < (h.fc : Int)) := by omega
    by_cases h2 : h.tc = 0
    · have t2 : ¬ ((0 : Int) < (h.tc : Int)) := by omega
      have hN : Hid ((numL h).fr = h.fr + 1 ∧ (numL h).tr = h.tr) := by unfold Hid numL; simp [h1, h2]
      clear h1 h2
      go_enter Tryz.func58, Tryz.ntmps58
      go_wp2
      go_end0
      exact ⟨rfl, _, rfl, .inr (.inl ⟨by rw [hN.out.1, e1], hN.out.2⟩)⟩
    · have t2 : ((0 : Int) < (h.tc : Int)) := by omega
      have hN : Hid ((numL h).fr = h.fr + 1 ∧ (numL h).tr = h.tr + 1) := by unfold Hid numL; simp [h1, h2]
      clear h1 h2
      go_enter Tryz.func58, Tryz.ntmps58
      go_wp2
      go_end0
      exact ⟨rfl, _, rfl, .inr (.inr (.inr (by rw [hN.out.1, hN.out.2, e1, e2])))⟩

theorem set_self' {l : List Value} {i : Nat} {v : Value} (h : l[i]? = some v) : l.set i v = l := by
  apply List.ext_getElem?
  intro j
  rw [List.getElem?_set]
  split
  · rename_i e; subst e
    split
    · exact h.symm
    · rename_i hh; rw [List.getElem?_eq_none (by omega)] at h; cases h
  · rfl
theorem two {l : List Value} {O : Nat} {f a t b c : Value} (h1 : l[O + 1]? = some a) (h3 : l[O + 3]? = some b) (h4 : l[O + 4]? = some c) :
    ((((l.set O f).set (O + 1) a).set (O + 2) t).set (O + 3) b).set (O + 4) c = (l.set O f).set (O + 2) t := by
  have e1 : (l.set O f).set (O + 1) a = l.set O f := set_self' (by rw [List.getElem?_set]; simp [h1])
  rw [e1]
  have e2 : ((l.set O f).set (O + 2) t).set (O + 3) b = (l.set O f).set (O + 2) t := set_self' (by rw [List.getElem?_set, List.getElem?_set]; simp [h3])
  rw [e2]
  exact set_self' (by rw [List.getElem?_set, List.getElem?_set]; simp [h4])

theorem number_sm {base g n cap i : Nat} {hv : List HV} {w : World} (hs : HSv base g n cap hv w) (hbase : base ≤ w.heap.size) (hgb : base ≤ g) (hi : i < hv.length) (b1 : hv[i].1.fr ≤ 100000) (b2 : hv[i].1.tr ≤ 100000) :
    Calls Tryz.prog 58 #[.pointer (some ⟨g, i * 5, none⟩)] w fun e w' => e = .returned (.tuple #[]) ∧ HSv base g n cap (hv.set i (numL hv[i].1, hv[i].2)) w' ∧ Below base w w' := by
  obtain ⟨c0, c1, c2, c3, c4⟩ := owns_hunk hs.row hi
  obtain ⟨cur, hcur⟩ := owns_block hs.row (g := g) rfl
  have hG := hunkCells_get hv i hi
  refine (number_at g (i * 5) hv[i].1 w (fun k => frozen_of hcur) b1 b2 c0 c1 c2 c3).mono ?_
  rintro e w' ⟨rfl, l, rfl, hl⟩
  have hgr : ∀ (l : List (Nat × Value)) (w : World), w.grownBy (l.foldl (fun w p => w.setCell ⟨g, p.1, none⟩ p.2) w) (some g) := by
    intro l
    induction l with
    | nil => intro w; exact ⟨rfl, rfl, rfl, Nat.le_refl _, fun _ _ _ => rfl⟩
    | cons p l ih => intro w; exact grownBy_trans (grownBy_setCell w g p.1 p.2) (ih _)
  have hgw := hgr l w
  have hrow : (l.foldl (fun w p => w.setCell ⟨g, p.1, none⟩ p.2) w).ownsRow base 61 5 (.slice (some ⟨g, 0, none⟩) n cap) n (hunkCells (hv.set i (numL hv[i].1, hv[i].2))) := by
    refine owns_setHunk hs.row hs.len hi _ (fun cu hcu htk => ?_)
    have hb : (numL hv[i].1).fc = hv[i].1.fc ∧ (numL hv[i].1).tc = hv[i].1.tc := ⟨rfl, rfl⟩
    simp only [hb.1, hb.2]
    rw [two (by rw [htk]; exact hG.2.1) (by rw [htk]; exact hG.2.2.2.1) (by rw [htk]; exact hG.2.2.2.2)]
    rcases hl with ⟨rfl, e⟩ | ⟨rfl, e⟩ | ⟨rfl, e⟩ | rfl
    · refine ⟨cu, hcu, rfl, ?_⟩
      rw [e, set_self' (l := List.take (n * 5) cu.toList) (by rw [htk]; exact hG.1), set_self' (by rw [htk]; exact hG.2.2.1)]
    · refine ⟨_, heap_setCell_same _ _ _ _ _ _ _ hcu, by simp, ?_⟩
      rw [e, set_self' (i := i * 5 + 2) (by rw [List.getElem?_set, htk]; simp [hG.2.2.1])]
      simp [List.take_set]
    · refine ⟨_, heap_setCell_same _ _ _ _ _ _ _ hcu, by simp, ?_⟩
      rw [e, set_self' (i := i * 5) (by rw [htk]; exact hG.1)]
      simp [List.take_set]
    · refine ⟨_, heap_setCell_same _ _ _ _ _ _ _ (heap_setCell_same _ _ _ _ _ _ _ hcu), by simp, ?_⟩
      simp [List.take_set]
  refine ⟨rfl, ⟨by simp [hs.len], hrow, fun p hp => ?_, ?_⟩, (Below.refl base w).grown hgw hbase (fun k e => by cases e; exact hgb)⟩
  · have key : ∃ q ∈ hv, q.2 = p.2 ∧ q.1.lines = p.1.lines := by
      rcases List.mem_or_eq_of_mem_set hp with h | h
      · exact ⟨p, h, rfl, rfl⟩
      · exact ⟨hv[i], List.getElem_mem hi, by rw [h], by rw [h]; rfl⟩
    obtain ⟨q, hq, e1, e2⟩ := key
    have ho := hs.lines q hq
    have := ho.kept hgw (.inr (owns_ne ho hcur (by decide)))
    rw [e1, e2] at this
    exact this
  · have h0 := hs.apart
    have h1 : (hv.map (·.2)).Pairwise (fun a b : Value => a.ownBlock = none ∨ a.ownBlock ≠ b.ownBlock) := List.pairwise_map.2 h0
    have h2 : (hv.set i (numL hv[i].1, hv[i].2)).map (·.2) = hv.map (·.2) := by
      rw [List.map_set]
      apply List.ext_getElem?
      intro j
      rw [List.getElem?_set]
      split
      · rename_i e; subst e; simp [hi]
      · rfl
    rw [← h2] at h1
    exact List.pairwise_map.1 h1
end Go.Proofs.YtcclgodahlinbaaGreatDoor
