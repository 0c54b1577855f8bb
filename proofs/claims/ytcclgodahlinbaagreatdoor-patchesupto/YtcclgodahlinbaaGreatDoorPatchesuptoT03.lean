import Derived.Test.YtcclgodahlinbaaGreatDoorPatchesuptoT02
import Derived.Deep.CutRange
import Derived.Shelf.Small.Wraps
import Derived.Shelf.LaysM
import Derived.Shelf.LaysC
import Derived.Shelf.Strconv.Itoa3
import Derived.Shelf.Strconv.AtoiAll
import Derived.Shelf.Strings.Cut
import Derived.Test.YtcclgodahlinbaaGreatDoorChecked
import Derived.Lib.OthersKept
import Derived.Lib.Builder
import Derived.Lib.AppendStr
import Derived.Laws.AppendOwnNone
import Derived.Orders
namespace Go.Proofs.YtcclgodahlinbaaGreatDoor
open Go.RowKit Go
set_option maxRecDepth 100000
def numL (h : HunkM) : HunkM := { h with fr := h.fr + (if h.fc = 0 then 0 else 1), tr := h.tr + (if h.tc = 0 then 0 else 1) }
set_option maxHeartbeats 800000 in
theorem number_at (g O : Nat) (h : HunkM) (w : World) (hf : ∀ k, w.frozen? ⟨g, k, none⟩ = false) (b1 : h.fr ≤ 100000) (b2 : h.tr ≤ 100000)
    (c0 : w.cell? ⟨g, O, none⟩ = some (.int .i64 (h.fr : Nat))) (c1 : w.cell? ⟨g, O + 1, none⟩ = some (.int .i64 (h.fc : Nat)))
    (c2 : w.cell? ⟨g, O + 2, none⟩ = some (.int .i64 (h.tr : Nat))) (c3 : w.cell? ⟨g, O + 3, none⟩ = some (.int .i64 (h.tc : Nat))) :
    Calls Tryz.prog 58 #[.pointer (some ⟨g, O, none⟩)] w fun e w' => e = .returned (.tuple #[]) ∧
      ∃ l : List (Nat × Value), w' = l.foldl (fun w p => w.setCell ⟨g, p.1, none⟩ p.2) w ∧
        ((l = [] ∧ numL h = h) ∨ (l = [(O, .int .i64 ((numL h).fr : Nat))] ∧ (numL h).tr = h.tr) ∨ (l = [(O + 2, .int .i64 ((numL h).tr : Nat))] ∧ (numL h).fr = h.fr) ∨ l = [(O, .int .i64 ((numL h).fr : Nat)), (O + 2, .int .i64 ((numL h).tr : Nat))]) := by
  have e1 : ((h.fr + 1 : Nat) : Int) = (h.fr : Int) + 1 := by omega
  have e2 : ((h.tr + 1 : Nat) : Int) = (h.tr : Int) + 1 := by omega
  by_cases h1 : h.fc = 0
  · have t1 : ¬ ((0 : Int) < (h.fc : Int)) := by omega
    by_cases h2 : h.tc = 0
    · have t2 : ¬ ((0 : Int) < (h.tc : Int)) := by omega
      have hN : Hid (numL h = h) := by unfold Hid numL; cases h; simp_all
      clear h1 h2
      go_enter Tryz.func58, Tryz.ntmps58
      go_wp2
      go_end0
      exact ⟨rfl, [], rfl, .inl ⟨rfl, hN.out⟩⟩
    · have t2 : ((0 : Int) < (h.tc : Int)) := by omega
      have hN : Hid ((numL h).fr = h.fr ∧ (numL h).tr = h.tr + 1) := by unfold Hid numL; simp [h1, h2]
      clear h1 h2
      go_enter Tryz.func58, Tryz.ntmps58
      go_wp2
      go_end0
      exact ⟨rfl, _, rfl, .inr (.inr (.inl ⟨by rw [hN.out.2, e2], hN.out.1⟩))⟩
  · have t1 : ((0 : Int) < (h.fc : Int)) := by omega
    by_cases h2 : h.tc = 0
    · have t2 : ¬ ((0 : Int) < (h.tc : Int)) := by omega
      have hN : Hid ((numL h).fr = h.fr + 1 ∧ (numL h).tr = h.tr) := by unfold Hid numL; simp [h1, h2]
      clear h1 h2
      go_enter Tryz.func58, Tryz.ntmps58
      go_wp2
      go_end0
      exact ⟨rfl, _, rfl, .inr (.inl ⟨by rw [hN.out.1, e1], hN.out.2⟩)⟩
    · have t2 : ((0 : Int) < (h.tc : Int)) := by omega
      have hN : Hid ((numL h).fr = h.fr + 1 ∧ (numL h).tr = h.tr + 1) := by unfold Hid numL; simp [h1, h2]
      clear h1 h2
      go_enter Tryz.func58, Tryz.ntmps58
      go_wp2
      go_end0
      exact ⟨rfl, _, rfl, .inr (.inr (.inr (by rw [hN.out.1, hN.out.2, e1, e2])))⟩
theorem set_self' {l : List Value} {i : Nat} {v : Value} (h : l[i]? = some v) : l.set i v = l := by
  apply List.ext_getElem?
  intro j
  rw [List.getElem?_set]
  split
  · rename_i e; subst e
    split
    · exact h.symm
    · rename_i hh; rw [List.getElem?_eq_none (by omega)] at h; cases h
  · rfl
theorem two {l : List Value} {O : Nat} {f a t b c : Value} (h1 : l[O + 1]? = some a) (h3 : l[O + 3]? = some b) (h4 : l[O + 4]? = some c) :
    ((((l.set O f).set (O + 1) a).set (O + 2) t).set (O + 3) b).set (O + 4) c = (l.set O f).set (O + 2) t := by
  have e1 : (l.set O f).set (O + 1) a = l.set O f := set_self' (by rw [List.getElem?_set]; simp [h1])
  rw [e1]
  have e2 : ((l.set O f).set (O + 2) t).set (O + 3) b = (l.set O f).set (O + 2) t := set_self' (by rw [List.getElem?_set, List.getElem?_set]; simp [h3])
  rw [e2]
  exact set_self' (by rw [List.getElem?_set, List.getElem?_set]; simp [h4])
theorem number_sm {base g n cap i : Nat} {hv : List HV} {w : World} (hs : HSv base g n cap hv w) (hbase : base ≤ w.heap.size) (hgb : base ≤ g) (hi : i < hv.length) (b1 : hv[i].1.fr ≤ 100000) (b2 : hv[i].1.tr ≤ 100000) :
    Calls Tryz.prog 58 #[.pointer (some ⟨g, i * 5, none⟩)] w fun e w' => e = .returned (.tuple #[]) ∧ HSv base g n cap (hv.set i (numL hv[i].1, hv[i].2)) w' ∧ Below base w w' := by
  obtain ⟨c0, c1, c2, c3, c4⟩ := owns_hunk hs.row hi
  obtain ⟨cur, hcur⟩ := owns_block hs.row (g := g) rfl
  have hG := hunkCells_get hv i hi
  refine (number_at g (i * 5) hv[i].1 w (fun k => frozen_of hcur) b1 b2 c0 c1 c2 c3).mono ?_
  rintro e w' ⟨rfl, l, rfl, hl⟩
  have hgr : ∀ (l : List (Nat × Value)) (w : World), w.grownBy (l.foldl (fun w p => w.setCell ⟨g, p.1, none⟩ p.2) w) (some g) := by
    intro l
    induction l with
    | nil => intro w; exact ⟨rfl, rfl, rfl, Nat.le_refl _, fun _ _ _ => rfl⟩
    | cons p l ih => intro w; exact grownBy_trans (grownBy_setCell w g p.1 p.2) (ih _)
  have hgw := hgr l w
  have hrow : (l.foldl (fun w p => w.setCell ⟨g, p.1, none⟩ p.2) w).ownsRow base 61 5 (.slice (some ⟨g, 0, none⟩) n cap) n (hunkCells (hv.set i (numL hv[i].1, hv[i].2))) := by
    refine owns_setHunk hs.row hs.len hi _ (fun cu hcu htk => ?_)
    have hb : (numL hv[i].1).fc = hv[i].1.fc ∧ (numL hv[i].1).tc = hv[i].1.tc := ⟨rfl, rfl⟩
    simp only [hb.1, hb.2]
    rw [two (by rw [htk]; exact hG.2.1) (by rw [htk]; exact hG.2.2.2.1) (by rw [htk]; exact hG.2.2.2.2)]
    rcases hl with ⟨rfl, e⟩ | ⟨rfl, e⟩ | ⟨rfl, e⟩ | rfl
    · refine ⟨cu, hcu, rfl, ?_⟩
      rw [e, set_self' (l := List.take (n * 5) cu.toList) (by rw [htk]; exact hG.1), set_self' (by rw [htk]; exact hG.2.2.1)]
    · refine ⟨_, heap_setCell_same _ _ _ _ _ _ _ hcu, by simp, ?_⟩
      rw [e, set_self' (i := i * 5 + 2) (by rw [List.getElem?_set, htk]; simp [hG.2.2.1])]
      simp [List.take_set]
    · refine ⟨_, heap_setCell_same _ _ _ _ _ _ _ hcu, by simp, ?_⟩
      rw [e, set_self' (i := i * 5) (by rw [htk]; exact hG.1)]
      simp [List.take_set]
    · refine ⟨_, heap_setCell_same _ _ _ _ _ _ _ (heap_setCell_same _ _ _ _ _ _ _ hcu), by simp, ?_⟩
      simp [List.take_set]
  refine ⟨rfl, ⟨by simp [hs.len], hrow, fun p hp => ?_, ?_⟩, (Below.refl base w).grown hgw hbase (fun k e => by cases e; exact hgb)⟩
  · have key : ∃ q ∈ hv, q.2 = p.2 ∧ q.1.lines = p.1.lines := by
      rcases List.mem_or_eq_of_mem_set hp with h | h
      · exact ⟨p, h, rfl, rfl⟩
      · exact ⟨hv[i], List.getElem_mem hi, by rw [h], by rw [h]; rfl⟩
    obtain ⟨q, hq, e1, e2⟩ := key
    have ho := hs.lines q hq
    have := ho.kept hgw (.inr (owns_ne ho hcur (by decide)))
    rw [e1, e2] at this
    exact this
  · have h0 := hs.apart
    have h1 : (hv.map (·.2)).Pairwise (fun a b : Value => a.ownBlock = none ∨ a.ownBlock ≠ b.ownBlock) := List.pairwise_map.2 h0
    have h2 : (hv.set i (numL hv[i].1, hv[i].2)).map (·.2) = hv.map (·.2) := by
      rw [List.map_set]
      apply List.ext_getElem?
      intro j
      rw [List.getElem?_set]
      split
      · rename_i e; subst e; simp [hi]
      · rfl
    rw [← h2] at h1
    exact List.pairwise_map.1 h1
end Go.Proofs.YtcclgodahlinbaaGreatDoor
namespace Go.Proofs.YtcclgodahlinbaaGreatDoor
open Go.RowKit Go
set_option maxRecDepth 100000
structure FoldH where
  hs : List HunkM
  og : Nat
  fg : Nat
def newHunk (og fg : Nat) : HunkM := ⟨og, 0, fg, 0, []⟩
def lastAdd (hs : List HunkM) (s : StepB) : List HunkM := match hs.reverse with | [] => [] | h :: t => t.reverse ++ [addL h s]
def stepHs (nb : Bool) (pb : Bool) (s : StepB) (st : FoldH) : List HunkM :=
  if nb = true then lastAdd (if pb = true then st.hs else st.hs ++ [newHunk st.og st.fg]) s else st.hs
def foldH (L : List StepB) (nb : List Bool) : Nat → FoldH
  | 0 => ⟨[], 0, 0⟩
  | k + 1 =>
    match L[k]? with
    | none => foldH L nb k
    | some s => ⟨stepHs (nb.getD k false) (decide (0 < k) && nb.getD (k - 1) false) s (foldH L nb k), (foldH L nb k).og + (if s.kind = 43 then 0 else 1), (foldH L nb k).fg + (if s.kind = 45 then 0 else 1)⟩
def hunksM (L : List StepB) (c : Nat) : List HunkM := (foldH L (nearB L c) L.length).hs.map numL
theorem lastAdd_append (l : List HunkM) (h : HunkM) (s : StepB) : lastAdd (l ++ [h]) s = l ++ [addL h s] := by simp [lastAdd]
theorem lastAdd_ne {l : List HunkM} {s : StepB} (h : l ≠ []) : ∃ i x, l = i ++ [x] ∧ lastAdd l s = i ++ [addL x s] := by
  refine ⟨l.dropLast, l.getLast h, (List.dropLast_concat_getLast h).symm, ?_⟩
  conv => lhs; rw [← List.dropLast_concat_getLast h]
  exact lastAdd_append _ _ _
theorem foldH_succ {L : List StepB} {nb : List Bool} {k : Nat} (hk : k < L.length) :
    foldH L nb (k + 1) = ⟨stepHs (nb.getD k false) (decide (0 < k) && nb.getD (k - 1) false) L[k] (foldH L nb k), (foldH L nb k).og + (if L[k].kind = 43 then 0 else 1), (foldH L nb k).fg + (if L[k].kind = 45 then 0 else 1)⟩ := by
  rw [foldH, List.getElem?_eq_getElem hk]
theorem foldH_bounds (L : List StepB) (nb : List Bool) : ∀ k, (foldH L nb k).og ≤ k ∧ (foldH L nb k).fg ≤ k ∧ (foldH L nb k).hs.length ≤ k ∧
    (∀ h ∈ (foldH L nb k).hs, h.fc ≤ k ∧ h.tc ≤ k ∧ h.lines.length ≤ k ∧ h.fr ≤ k ∧ h.tr ≤ k) ∧ (0 < k → k ≤ L.length → nb.getD (k - 1) false = true → (foldH L nb k).hs ≠ []) := by
  intro k
  induction k with
  | zero => simp [foldH]
  | succ k ih =>
    obtain ⟨a, b, c, d, e⟩ := ih
    by_cases hk : k < L.length
    · rw [foldH_succ hk]
      have key : ∀ (l : List HunkM) (s : StepB), (∀ h ∈ l, h.fc ≤ k ∧ h.tc ≤ k ∧ h.lines.length ≤ k ∧ h.fr ≤ k ∧ h.tr ≤ k) → (lastAdd l s).length = l.length ∧ (l ≠ [] → lastAdd l s ≠ []) ∧ ∀ h ∈ lastAdd l s, h.fc ≤ k + 1 ∧ h.tc ≤ k + 1 ∧ h.lines.length ≤ k + 1 ∧ h.fr ≤ k + 1 ∧ h.tr ≤ k + 1 := by
        intro l s hl
        by_cases h0 : l = []
        · subst h0; simp [lastAdd]
        · obtain ⟨i, x, e1, e2⟩ := lastAdd_ne (s := s) h0
          rw [e2]
          subst e1
          refine ⟨by simp, by simp, ?_⟩
          intro h hh
          rw [List.mem_append] at hh
          rcases hh with hh | hh
          · have := hl h (by simp [hh]); omega
          · simp at hh
            subst hh
            have := hl x (by simp)
            simp only [addL, List.length_append, List.length_singleton]
            refine ⟨?_, ?_, by omega, by omega, by omega⟩ <;> split <;> omega
      refine ⟨by simp only; split <;> omega, by simp only; split <;> omega, ?_, ?_, ?_⟩
      · simp only [stepHs]
        split
        · rw [(key _ _ (by
            split
            · exact d
            · intro h hh
              rw [List.mem_append] at hh
              rcases hh with hh | hh
              · exact d h hh
              · simp at hh; subst hh; simp [newHunk]; omega)).1]
          split
          · omega
          · rw [List.length_append, List.length_singleton]; omega
        · omega
      · simp only [stepHs]
        split
        · exact (key _ _ (by
            split
            · exact d
            · intro h hh
              rw [List.mem_append] at hh
              rcases hh with hh | hh
              · exact d h hh
              · simp at hh; subst hh; simp [newHunk]; omega)).2.2
        · intro h hh; have := d h hh; omega
      · intro _ _ hnb
        simp only [stepHs]
        rw [Nat.add_sub_cancel] at hnb
        rw [if_pos hnb]
        refine (key _ _ (by
            split
            · exact d
            · intro h hh
              rw [List.mem_append] at hh
              rcases hh with hh | hh
              · exact d h hh
              · simp at hh; subst hh; simp [newHunk]; omega)).2.1 ?_
        split
        · rename_i hp
          simp at hp
          exact e hp.1 (by omega) hp.2
        · simp
    · have e1 : foldH L nb (k + 1) = foldH L nb k := by rw [foldH, List.getElem?_eq_none (by omega)]
      rw [e1]
      refine ⟨by omega, by omega, by omega, fun h hh => by have := d h hh; omega, fun _ h2 _ => by omega⟩
def HSo (base : Nat) (v : Value) (hv : List HV) (w : World) : Prop :=
  (hv = [] ∧ v = .slice none 0 0) ∨ ∃ g cap, v = .slice (some ⟨g, 0, none⟩) hv.length cap ∧ base ≤ g ∧ HSv base g hv.length cap hv w
theorem owns_mono {w : World} {base base' e size n : Nat} {v : Value} {xs : List Value} (h : w.ownsRow base e size v n xs) (hb : base' ≤ base) : w.ownsRow base' e size v n xs := by
  obtain ⟨a, b⟩ := h
  refine ⟨a, ?_⟩
  rcases b with b | ⟨g, cap, cur, e, hg, r⟩
  · exact .inl b
  · exact .inr ⟨g, cap, cur, e, Nat.le_trans hb hg, r⟩
theorem HSo.mono {base base' : Nat} {v : Value} {hv : List HV} {w : World} (h : HSo base v hv w) (hb : base' ≤ base) : HSo base' v hv w := by
  rcases h with h | ⟨g, cap, e, hg, hs⟩
  · exact .inl h
  · exact .inr ⟨g, cap, e, Nat.le_trans hb hg, hs.len, owns_mono hs.row hb, fun p hp => owns_mono (hs.lines p hp) hb, hs.apart⟩
theorem HSv.kept {base g n cap : Nat} {hv : List HV} {w w' : World} {row : Option Nat} (h : HSv base g n cap hv w) (hg : w.grownBy w' row) (hr : ∀ k, row = some k → w.heap.size ≤ k ∨ ∃ cur t fr, w.heap[k]? = some (.cells cur t fr) ∧ t ≠ 61 ∧ t ≠ 93) : HSv base g n cap hv w' := by
  have key : ∀ {e size n : Nat} {v : Value} {xs : List Value}, w.ownsRow base e size v n xs → (e = 61 ∨ e = 93) → v.ownBlock = none ∨ v.ownBlock ≠ row := by
    intro e size n v xs ho he
    cases hv : v.ownBlock with
    | none => exact .inl rfl
    | some k =>
      right
      intro e'
      rcases hr k e'.symm with h1 | ⟨cur, t, fr, hc, h1, h2⟩
      · have := (ho.lt k hv).2; omega
      · obtain ⟨cur', hc'⟩ := owns_block ho hv
        rw [hc] at hc'
        cases hc'
        rcases he with he | he
        · exact h1 he
        · exact h2 he
  exact ⟨h.len, h.row.kept hg (key h.row (.inl rfl)), fun p hp => (h.lines p hp).kept hg (key (h.lines p hp) (.inr rfl)), h.apart⟩
theorem HSo.kept {base : Nat} {v : Value} {hv : List HV} {w w' : World} {row : Option Nat} (h : HSo base v hv w) (hg : w.grownBy w' row) (hr : ∀ k, row = some k → w.heap.size ≤ k ∨ ∃ cur t fr, w.heap[k]? = some (.cells cur t fr) ∧ t ≠ 61 ∧ t ≠ 93) : HSo base v hv w' := by
  rcases h with h | ⟨g, cap, e, hb, hs⟩
  · exact .inl h
  · exact .inr ⟨g, cap, e, hb, hs.kept hg hr⟩
theorem HSo.alloc {base : Nat} {v : Value} {hv : List HV} {w : World} (h : HSo base v hv w) (o : Obj) : HSo base v hv (w.alloc o) := h.kept (World.grownBy_alloc w o none) (fun k e => by cases e)
theorem info_hunk : (Tryz.prog.info? 61).map (fun i => (i.zero, i.size, i.bytes)) = some (some (.agg #[.int .i64 0, .int .i64 0, .int .i64 0, .int .i64 0, .slice none 0 0]), 5, 56) := by kernel_rfl
theorem HSo.owns {base : Nat} {v : Value} {hv : List HV} {w : World} (h : HSo base v hv w) : w.ownsRow base 61 5 v hv.length (hunkCells hv) := by
  rcases h with ⟨rfl, rfl⟩ | ⟨g, cap, rfl, _, hs⟩
  · exact World.ownsRow_nil _ _ _ _
  · exact hs.row
theorem HSo.push {base g cap : Nat} {v : Value} {hv : List HV} {w w1 : World} {ob : Obj} (h : HSo base v hv w) (H : HunkM) (hl : H.lines = []) (hgr : (w.alloc ob).grownBy w1 v.ownBlock)
    (hown : w1.ownsRow base 61 5 (.slice (some ⟨g, 0, none⟩) (hv.length + 1) cap) (hv.length + 1) (hunkCells hv ++ hunkCells1 (H, .slice none 0 0))) :
    HSv base g (hv ++ [(H, Value.slice none 0 0)]).length cap (hv ++ [(H, .slice none 0 0)]) w1 := by
  have hlen : (hv ++ [(H, Value.slice none 0 0)]).length = hv.length + 1 := by simp
  refine ⟨rfl, ?_, ?_, ?_⟩
  · rw [hlen, hunkCells_append]; simpa [hunkCells] using hown
  · intro p hp
    rw [List.mem_append] at hp
    rcases hp with hp | hp
    · rcases h with ⟨rfl, _⟩ | ⟨g0, cap0, e, _, hs⟩
      · simp at hp
      · have ho := (hs.lines p hp).alloc ob
        refine ho.kept hgr ?_
        cases hb : p.2.ownBlock with
        | none => exact .inl rfl
        | some k =>
          right
          rw [e]
          intro e2
          obtain ⟨c1, h1⟩ := owns_block (hs.lines p hp) hb
          obtain ⟨c2, h2⟩ := owns_block hs.row (g := g0) rfl
          cases e2
          rw [h1] at h2
          cases h2
    · simp at hp
      subst hp
      rw [hl]
      exact World.ownsRow_nil _ _ _ _
  · rw [List.pairwise_append]
    refine ⟨?_, by simp, fun p _ q hq => ?_⟩
    · rcases h with ⟨rfl, _⟩ | ⟨g0, cap0, e, _, hs⟩
      · exact List.Pairwise.nil
      · exact hs.apart
    · simp at hq; subst hq
      cases p.2.ownBlock with
      | none => exact .inl rfl
      | some k => right; intro e; cases e
end Go.Proofs.YtcclgodahlinbaaGreatDoor
namespace Go.Proofs.YtcclgodahlinbaaGreatDoor
open Go.RowKit Go
set_option maxRecDepth 100000
def numJ (l : List HunkM) (j : Nat) : List HunkM := (l.take j).map numL ++ l.drop j
theorem numJ_zero (l : List HunkM) : numJ l 0 = l := by simp [numJ]
theorem numJ_all (l : List HunkM) : numJ l l.length = l.map numL := by simp [numJ]
theorem numJ_length (l : List HunkM) (j : Nat) : (numJ l j).length = l.length := by simp [numJ]; omega
theorem numJ_get (l : List HunkM) (j : Nat) (h : j < l.length) : (numJ l j)[j]'(by rw [numJ_length]; exact h) = l[j] := by
  simp [numJ, Nat.min_eq_left (Nat.le_of_lt h)]
theorem numJ_succ (l : List HunkM) (j : Nat) (h : j < l.length) : (numJ l j).set j (numL l[j]) = numJ l (j + 1) := by
  apply List.ext_getElem?
  intro t
  unfold numJ
  rw [List.getElem?_set]
  by_cases e : j = t
  · subst e
    rw [if_pos rfl, if_pos (by simp; omega), List.getElem?_append_left (by simp; omega)]
    simp [h]
  · rw [if_neg e]
    by_cases c : t < j
    · rw [List.getElem?_append_left (by simp; omega), List.getElem?_append_left (by simp; omega)]
      simp [c, show t < j + 1 by omega]
    · rw [List.getElem?_append_right (by simp; omega), List.getElem?_append_right (by simp; omega)]
      simp only [List.length_map, List.length_take, List.getElem?_drop, Nat.min_eq_left (Nat.le_of_lt h), Nat.min_eq_left (show j + 1 ≤ l.length from h)]
      congr 1; omega
set_option maxHeartbeats 2000000 in
theorem hunksOf_row {cap : Nat} {a : Option Addr} {L : List StepB} {w : World} (c : Nat) (hS : StepsAt w.heap.size w (.slice a L.length cap) L) (hc : c ≤ 10) (hL : L.length ≤ 1000) (hk : ∀ s ∈ L, s.kind = 32 ∨ s.kind = 45 ∨ s.kind = 43) (hT : ∀ s ∈ L, s.text.size ≤ 281474976710656) :
    Calls Tryz.prog 27 #[.slice a L.length cap, .int .i64 c] w fun e w' =>
      ∃ v, e = .returned v ∧ ∃ hv, HSo w.heap.size v hv w' ∧ hv.map (·.1) = hunksM L c ∧ Below w.heap.size w w' := by
  obtain ⟨i0, hi, hz0, hz1, hz2⟩ := info_parts info_hunk
  have hnr := near_row (w := w) c hS hc hL
  generalize hNB : nearB L c = NB at hnr
  have hNl : NB.length = L.length := by rw [← hNB]; simp [nearB]
  have hM : Hid (hunksM L c = (foldH L NB L.length).hs.map numL) := by unfold Hid hunksM; rw [hNB]
  have hNl' : Hid (NB.length = L.length) := hNl
  clear hNB hNl
  go_enter Tryz.func27, Tryz.ntmps27
  go_wp2_with (go_at_call 56; refine hnr.mono ?_; rintro e w1 ⟨rfl, hrow1, hb1⟩)
  have hsz1 : w.heap.size < w1.heap.size := (hrow1.lt _ rfl).2
  have hS1 := hS.below hb1
  go_loopg [5, 7, 8, 17] L.length (fun g v t7 t8 t wr => ∃ (k : Nat) (hv : List HV), g = L.length - k ∧ k ≤ L.length ∧ t = .int .i64 k ∧ t7 = .int .i64 (foldH L NB k).og ∧ t8 = .int .i64 (foldH L NB k).fg ∧ HSo w1.heap.size v hv wr ∧ hv.map (·.1) = (foldH L NB k).hs ∧ Below w1.heap.size w1 wr)
  case atStart => exact ⟨0, [], by omega, by omega, rfl, rfl, rfl, .inl ⟨rfl, rfl⟩, rfl, Below.refl _ _⟩
  case round =>
    obtain ⟨k, hv, hgk, hkl, rfl, rfl, rfl, hso, hmap, hbel⟩ := hrel
    obtain ⟨q1, q2, q3, q4, q5⟩ := foldH_bounds L NB k
    have hsz := hbel.size
    by_cases hlt : k < L.length
    · have hltI : (k : Int) < L.length := by omega
      obtain ⟨b, rfl, hbB, r0, r1⟩ := (hS1.below (hbel.mono (by omega))).at hlt
      have hbc := (hbel.cell (p := ⟨w.heap.size, k, none⟩) hsz1).trans (owns_bool hrow1 (i := k) (by have := hNl'.out; omega))
      have hkk := hk _ (List.getElem_mem hlt)
      have hTT := hT _ (List.getElem_mem hlt)
      have hfold := foldH_succ (nb := NB) hlt
      obtain ⟨s, hs⟩ : ∃ s, L[k] = s := ⟨_, rfl⟩
      rw [hs] at r0 r1 hkk hTT hfold
      clear hs
      have hmap' : Hid (hv.map (·.1) = (foldH L NB k).hs) := hmap
      clear hmap
      generalize hF : foldH L NB k = F at *
      have hq5 : Hid (0 < k → NB.getD (k - 1) false = true → hv ≠ []) := fun h1 h2 h3 => by
        subst h3
        exact q5 h1 (by omega) h2 (by have := hmap'.out; simpa using this.symm)
      have hq4 : Hid (∀ p ∈ hv, p.1.fc ≤ 1000 ∧ p.1.tc ≤ 1000 ∧ p.1.lines.length ≤ 1000) := by
        intro p hp
        have := q4 p.1 (by rw [← hmap'.out]; exact List.mem_map_of_mem hp)
        omega
      have hvl : hv.length ≤ 1000 := by
        have := hmap'.out
        have e : (hv.map (·.1)).length = F.hs.length := by rw [this]
        rw [List.length_map] at e; omega
      generalize hnb : NB.getD k false = nb at hbc hfold
      have hfold' : Hid (foldH L NB (k + 1) = _) := hfold
      clear hF hfold hnb q4 q5
      obtain ⟨og, hog⟩ : ∃ og, F.og = og := ⟨_, rfl⟩
      obtain ⟨fg, hfg⟩ : ∃ fg, F.fg = fg := ⟨_, rfl⟩
      have hog' : Hid (F.og = og ∧ F.fg = fg) := ⟨hog, hfg⟩
      rw [hog] at q1
      rw [hfg] at q2
      rw [hog, hfg]
      clear hog hfg
      have hwr : w.heap.size < wr.heap.size := by omega
      go_upto_if 25 with fail
      have hso1 := hso.alloc (.cells #[.int .u8 (s.kind : Int), .string s.text] 120)
      have hbel1 := hbel.alloc hsz (.cells #[.int .u8 (s.kind : Int), .string s.text] 120)
      have hBx := heap_alloc_new wr (.cells #[.int .u8 (s.kind : Int), .string s.text] 120)
      have hzz : (wr.alloc (.cells #[.int .u8 (s.kind : Int), .string s.text] 120)).heap.size = wr.heap.size + 1 := by simp
      generalize hB : wr.heap.size = B at *
      generalize wr.alloc (.cells #[.int .u8 (s.kind : Int), .string s.text] 120) = wa at *
      clear hso hbel hB r0 r1 hbc
      go_cut [5, 17] from 18 to 59 (fun v' t wc => ∃ hv', t = .int .i64 k ∧ HSo w1.heap.size v' hv' wc ∧ hv'.map (·.1) = stepHs nb (decide (0 < k) && NB.getD (k - 1) false) s F ∧ Below w1.heap.size w1 wc ∧ wc.heap[B]? = some (.cells #[.int .u8 (s.kind : Int), .string s.text] 120 (0, 0)))
      case first =>
        cases nb with
        | false =>
          go_wp2
          go_meet
          case rel => exact ⟨hv, rfl, hso1, by rw [hmap'.out]; simp [stepHs], hbel1, hBx⟩
        | true =>
          have hbase1 : w1.heap.size ≤ wa.heap.size := hbel1.size
          have hadd : Hid (∀ (wx : World) (g n cap : Nat) (init : List HV) (h : HunkM) (vl : Value), HSv w1.heap.size g n cap (init ++ [(h, vl)]) wx → w1.heap.size ≤ g → h.fc ≤ 1000 → h.tc ≤ 1000 → h.lines.length ≤ 1000 → Below w1.heap.size w1 wx → wx.heap[B]? = some (.cells #[.int .u8 (s.kind : Int), .string s.text] 120 (0, 0)) →
              Calls Tryz.prog 57 #[.pointer (some ⟨g, init.length * 5, none⟩), .agg #[.int .u8 (s.kind : Int), .string s.text]] wx.drew fun e w' => e = .returned (.tuple #[]) ∧ ∃ hv', HSo w1.heap.size (.slice (some ⟨g, 0, none⟩) n cap) hv' w' ∧ hv'.map (·.1) = init.map (·.1) ++ [addL h s] ∧ Below w1.heap.size w1 w' ∧ w'.heap[B]? = some (.cells #[.int .u8 (s.kind : Int), .string s.text] 120 (0, 0))) := by
            intro wx g n cap init h vl hsv hg f1 f2 f3 hb hB
            refine (addLine_sm s (w := wx.drew) ⟨hsv.len, hsv.row, hsv.lines, hsv.apart⟩ hb.size hg hkk f1 f2 f3 hTT).mono ?_
            rintro e w' ⟨rfl, vl', hs', hb', hk'⟩
            refine ⟨rfl, init ++ [(addL h s, vl')], .inr ⟨g, cap, ?_, hg, ?_⟩, by simp, hb.trans (Below.of_drew hb'), ?_⟩
            · rw [← hs'.len]
            · rw [← hs'.len]; exact hs'
            · rw [← hB]
              have hlB : B < wx.heap.size := (Array.getElem?_eq_some_iff.1 hB).1
              refine hk' B hlB ?_ ?_
              · intro e
                obtain ⟨c1, h1⟩ := owns_block hsv.row (g := g) rfl
                rw [← e, hB] at h1
                cases h1
              · intro e
                obtain ⟨c1, h1⟩ := owns_block (hsv.lines (h, vl) (by simp)) e.symm
                rw [hB] at h1
                cases h1
          have hnew : Hid (∀ (wx : World) (g' cap' : Nat) (ob : Obj), wx.ownsRow w1.heap.size 61 5 (.slice (some ⟨g', 0, none⟩) (hv.length + 1) cap') (hv.length + 1) (hunkCells hv ++ [.int .i64 (og : Int), .int .i64 0, .int .i64 (fg : Int), .int .i64 0, .slice none 0 0]) → (wa.alloc ob).grownBy wx u5.ownBlock → w1.heap.size ≤ g' →
              HSv w1.heap.size g' (hv.length + 1) cap' (hv ++ [(newHunk og fg, .slice none 0 0)]) wx ∧ Below w1.heap.size w1 wx ∧ wx.heap[B]? = some (.cells #[.int .u8 (s.kind : Int), .string s.text] 120 (0, 0))) := by
            intro wx g' cap' ob h1 h2 h3
            have hp := hso1.push (newHunk og fg) rfl h2 h1
            have hlB : B < wa.heap.size := by omega
            refine ⟨by simpa using hp, (hbel1.alloc hbase1 ob).grown h2 (by simp; omega) (fun j e => (hso1.owns.lt j e).1), ?_⟩
            rw [h2.block B (by simp; omega) ?_]
            · exact (Below.heap_alloc wa ob B hlB).trans hBx
            · intro e
              obtain ⟨c1, h1⟩ := owns_block hso1.owns e.symm
              rw [hBx] at h1
              cases h1
          have hone : ∀ u ∈ [Value.int .i64 (og : Int), .int .i64 0, .int .i64 (fg : Int), .int .i64 0, .slice none 0 0], u.oneCell' = true := by intro u hu; simp at hu; rcases hu with rfl | rfl | rfl | rfl | rfl <;> rfl
          have hm1 : hv.length + 1 ≤ maxLen := by unfold maxLen; omega
          have hm2 : (hv.length + 1) * 56 ≤ 140737488355328 := by omega
          have hbs : ∀ ob, w1.heap.size ≤ (wa.alloc ob).heap.size := by intro ob; simp; omega
          have hwv : IntKind.i64.wrap (hv.length : Int) = hv.length := by rw [IntKind.wrap_i64]; omega
          have hix : (hv.length : Int) < ((hv.length + 1 : Nat) : Int) := by omega
          have hix2 : (hv.length : Int) < (hv.length : Int) + 1 := by omega
          have hzz' : Hid (wa.heap.size = B + 1) := hzz
          have hso2 := hso1.owns
          clear hzz
          by_cases hk0 : k = 0
          · subst hk0
            have hst : Hid (stepHs true (decide (0 < 0) && NB.getD (0 - 1) false) s F = hv.map (·.1) ++ [addL (newHunk og fg) s]) := by
              unfold Hid stepHs; rw [hmap'.out, hog'.out.1, hog'.out.2]; simp [lastAdd_append]
            go_wp2_with (at_builtin; refine wpList_append_own _ rfl (.tmp 36) (.tmp 40) 30 rfl w1.heap.size 61 i0 _ 5 56 Tryz.underlying30 hi hz0 hz1 hz2 rfl (by decide) u5 hv.length (hunkCells hv) rfl (hso2.alloc _) ⟨wa.heap.size, 0, none⟩ 1 1 [.int .i64 (og : Int), .int .i64 0, .int .i64 (fg : Int), .int .i64 0, .slice none 0 0] rfl rfl (cells_new wa _ _) hone hm1 hm2 (hbs _) ?_; intro v' w2 hown' hgrow _; obtain ⟨g', cap', rfl, hg', _⟩ := owns_slice hown' (Nat.succ_pos _))
            obtain ⟨hs2, hb2, hBx2⟩ := hnew.out w2 g' cap' _ hown' hgrow hg'
            have z0 : w2.cell? ⟨B, 0, none⟩ = some (.int .u8 (s.kind : Int)) := cell_of hBx2 rfl
            have z1 : w2.cell? ⟨B, 1, none⟩ = some (.string s.text) := cell_of hBx2 rfl
            have hA := hadd.out w2 g' (hv.length + 1) cap' hv (newHunk og fg) _ hs2 hg' (by simp [newHunk]) (by simp [newHunk]) (by simp [newHunk]) hb2 hBx2
            refine wp_still_tail 6 mixed (by kernel_rfl) ?_
            simp only [List.take_succ_cons, List.take_zero, List.drop_succ_cons, List.drop_zero]
            repeat still_step
            refine wpStill_nil ?_
            go_wp2_with (go_at_call 57; refine hA.mono ?_; rintro e w3 ⟨rfl, hv3, ho3, hmm3, hb3, hx3⟩)
            go_meet
            case rel => exact ⟨hv3, rfl, ho3, by rw [hmm3]; exact hst.out.symm, hb3, hx3⟩
          · have hkI : (((k : Nat) : Int) == 0) = false := by rw [beq_eq_false_iff_ne]; omega
            have hpc := (hbel1.cell (p := ⟨w.heap.size, k - 1, none⟩) hsz1).trans (owns_bool hrow1 (i := k - 1) (by have := hNl'.out; omega))
            generalize hpb : NB.getD (k - 1) false = pb at hpc
            have hk1 : ((k : Int) - 1) = ((k - 1 : Nat) : Int) := by omega
            have hk1b : ((k - 1 : Nat) : Int) < L.length := by omega
            have hk1c : ((k : Int) - 1).toNat = k - 1 := by omega
            have hk1d : ((k : Int) - 1) < L.length := by omega
            have hk1e : 0 ≤ ((k : Int) - 1) := by omega
            cases pb with
            | false =>
              have hst : Hid (stepHs true (decide (0 < k) && NB.getD (k - 1) false) s F = hv.map (·.1) ++ [addL (newHunk og fg) s]) := by
                unfold Hid stepHs; rw [hpb, hmap'.out, hog'.out.1, hog'.out.2]; simp [lastAdd_append]
              clear hpb
              go_wp2_with (at_builtin; refine wpList_append_own _ rfl (.tmp 36) (.tmp 40) 30 rfl w1.heap.size 61 i0 _ 5 56 Tryz.underlying30 hi hz0 hz1 hz2 rfl (by decide) u5 hv.length (hunkCells hv) rfl (hso2.alloc _) ⟨wa.heap.size, 0, none⟩ 1 1 [.int .i64 (og : Int), .int .i64 0, .int .i64 (fg : Int), .int .i64 0, .slice none 0 0] rfl rfl (cells_new wa _ _) hone hm1 hm2 (hbs _) ?_; intro v' w2 hown' hgrow _; obtain ⟨g', cap', rfl, hg', _⟩ := owns_slice hown' (Nat.succ_pos _))
              obtain ⟨hs2, hb2, hBx2⟩ := hnew.out w2 g' cap' _ hown' hgrow hg'
              have z0 : w2.cell? ⟨B, 0, none⟩ = some (.int .u8 (s.kind : Int)) := cell_of hBx2 rfl
              have z1 : w2.cell? ⟨B, 1, none⟩ = some (.string s.text) := cell_of hBx2 rfl
              have hA := hadd.out w2 g' (hv.length + 1) cap' hv (newHunk og fg) _ hs2 hg' (by simp [newHunk]) (by simp [newHunk]) (by simp [newHunk]) hb2 hBx2
              refine wp_still_tail 6 mixed (by kernel_rfl) ?_
              simp only [List.take_succ_cons, List.take_zero, List.drop_succ_cons, List.drop_zero]
              repeat still_step
              refine wpStill_nil ?_
              go_wp2_with (go_at_call 57; refine hA.mono ?_; rintro e w3 ⟨rfl, hv3, ho3, hmm3, hb3, hx3⟩)
              go_meet
              case rel => exact ⟨hv3, rfl, ho3, by rw [hmm3]; exact hst.out.symm, hb3, hx3⟩
            | true =>
              have hne := hq5.out (by omega) hpb
              have hin : ∃ init h vl, hv = init ++ [(h, vl)] := ⟨hv.dropLast, (hv.getLast hne).1, (hv.getLast hne).2, (List.dropLast_concat_getLast hne).symm⟩
              obtain ⟨init, h, vl, rfl⟩ := hin
              have hst : Hid (stepHs true (decide (0 < k) && NB.getD (k - 1) false) s F = init.map (·.1) ++ [addL h s]) := by
                unfold Hid stepHs
                rw [hpb, ← hmap'.out]
                have : decide (0 < k) = true := by simp; omega
                simp [this, lastAdd_append]
              have hq := hq4.out (h, vl) (by simp)
              rcases hso1 with ⟨e, _⟩ | ⟨g, cap1, rfl, hg, hsv⟩
              · simp at e
              · have hA := hadd.out wa g _ cap1 init h vl hsv hg hq.1 hq.2.1 hq.2.2 hbel1 hBx
                have z0 : wa.cell? ⟨B, 0, none⟩ = some (.int .u8 (s.kind : Int)) := cell_of hBx rfl
                have z1 : wa.cell? ⟨B, 1, none⟩ = some (.string s.text) := cell_of hBx rfl
                have hil : (init ++ [(h, vl)]).length = init.length + 1 := by simp
                rw [hil] at hA hvl
                have hwv2 : IntKind.i64.wrap (init.length : Int) = init.length := by rw [IntKind.wrap_i64]; omega
                have hix3 : (init.length : Int) < ((init.length + 1 : Nat) : Int) := by omega
                have hix4 : (init.length : Int) < (init.length : Int) + 1 := by omega
                clear hwv hix hix2
                clear hpb hq hmap' hq4 hq5 hnew hso2 hsv
                rw [hil]
                go_wp2_with fail
                refine wp_still_tail 6 mixed (by kernel_rfl) ?_
                simp only [List.take_succ_cons, List.take_zero, List.drop_succ_cons, List.drop_zero]
                repeat still_step
                refine wpStill_nil ?_
                go_wp2_with (go_at_call 57; refine hA.mono ?_; rintro e w3 ⟨rfl, hv3, ho3, hmm3, hb3, hx3⟩)
                go_meet
                case rel => exact ⟨hv3, rfl, ho3, by rw [hmm3]; exact hst.out.symm, hb3, hx3⟩
      case rest =>
        obtain ⟨hv', rfl, ho2, hm2, hb2, hx2⟩ := hcut
        have z0 : wc.cell? ⟨B, 0, none⟩ = some (.int .u8 (s.kind : Int)) := cell_of hx2 rfl
        have hfin : Hid (∀ (o1 f1 : Nat), o1 = og + (if s.kind = 43 then 0 else 1) → f1 = fg + (if s.kind = 45 then 0 else 1) → (foldH L NB (k + 1)).og = o1 ∧ (foldH L NB (k + 1)).fg = f1 ∧ hv'.map (·.1) = (foldH L NB (k + 1)).hs) := by
          intro o1 f1 h1 h2
          rw [hfold'.out]
          simp only
          rw [hog'.out.1, hog'.out.2]
          exact ⟨h1.symm, h2.symm, hm2⟩
        clear hso1 hbel1 hBx hm2 hmap' hq4 hq5 hfold'
        rcases hkk with hkk | hkk | hkk
        · have z1 : wc.cell? ⟨B, 0, none⟩ = some (.int .u8 32) := by rw [z0, hkk]; rfl
          clear z0
          have hF := hfin.out (og + 1) (fg + 1) (by simp [hkk]) (by simp [hkk])
          have hF' : Hid _ := hF
          clear hF hkk hfin
          go_wp2
          go_roundg (L.length - (k + 1))
          case measure => omega
          case rel => exact ⟨k + 1, hv', rfl, by omega, by go_num, by rw [hF'.out.1]; go_num, by rw [hF'.out.2.1]; go_num, ho2, hF'.out.2.2, hb2⟩
        · have z1 : wc.cell? ⟨B, 0, none⟩ = some (.int .u8 45) := by rw [z0, hkk]; rfl
          clear z0
          have hF := hfin.out (og + 1) fg (by simp [hkk]) (by simp [hkk])
          have hF' : Hid _ := hF
          clear hF hkk hfin
          go_wp2
          go_roundg (L.length - (k + 1))
          case measure => omega
          case rel => exact ⟨k + 1, hv', rfl, by omega, by go_num, by rw [hF'.out.1]; go_num, by rw [hF'.out.2.1], ho2, hF'.out.2.2, hb2⟩
        · have z1 : wc.cell? ⟨B, 0, none⟩ = some (.int .u8 43) := by rw [z0, hkk]; rfl
          clear z0
          have hF := hfin.out og (fg + 1) (by simp [hkk]) (by simp [hkk])
          have hF' : Hid _ := hF
          clear hF hkk hfin
          go_wp2
          go_roundg (L.length - (k + 1))
          case measure => omega
          case rel => exact ⟨k + 1, hv', rfl, by omega, by go_num, by rw [hF'.out.1], by rw [hF'.out.2.1]; go_num, ho2, hF'.out.2.2, hb2⟩
    · have hltI : ¬ ((k : Int) < L.length) := by omega
      have hkn : k = L.length := by omega
      have hF : Hid (hunksM L c = (foldH L NB k).hs.map numL) := by unfold Hid; rw [hkn]; exact hM.out
      clear hkn
      generalize foldH L NB k = F at *
      obtain ⟨og, hog⟩ : ∃ og, F.og = og := ⟨_, rfl⟩
      obtain ⟨fg, hfg⟩ : ∃ fg, F.fg = fg := ⟨_, rfl⟩
      rw [hog, hfg]
      clear hog hfg hM
      have hq4 : Hid (∀ h ∈ F.hs, h.fr ≤ 100000 ∧ h.tr ≤ 100000) := fun h hh => by have := q4 h hh; omega
      have hmap' : Hid (hv.map (·.1) = F.hs) := hmap
      have hvl : hv.length = F.hs.length := by rw [← hmap, List.length_map]
      have hvl' : Hid (hv.length = F.hs.length) := hvl
      have hvb : hv.length ≤ 1000 := by omega
      have hsl : ∃ a1 c1, u5 = .slice a1 hv.length c1 := by
        rcases hso with ⟨rfl, rfl⟩ | ⟨g, c1, rfl, _⟩
        · exact ⟨_, _, rfl⟩
        · exact ⟨_, _, rfl⟩
      obtain ⟨a1, c1, rfl⟩ := hsl
      obtain ⟨n, hn⟩ : ∃ n, hv.length = n := ⟨_, rfl⟩
      rw [hn] at hso hvb hvl' ⊢
      have hn' : Hid (hv.length = n) := hn
      clear hmap hvl hn q1 q2 q3 q4 q5
      go_wp2
      go_loopg [62] n (fun g t wr => ∃ (j : Nat) (hv' : List HV), g = n - j ∧ j ≤ n ∧ t = .int .i64 j ∧ HSo w1.heap.size (.slice a1 n c1) hv' wr ∧ hv'.map (·.1) = numJ F.hs j ∧ Below w1.heap.size w1 wr)
      case atStart => exact ⟨0, hv, by omega, by omega, rfl, hso, by rw [numJ_zero]; exact hmap'.out, hbel⟩
      case round =>
        obtain ⟨j, hv', hgj, hjn, rfl, hso', hmm, hbel'⟩ := hrel
        have hl' : hv'.length = n := by
          have e : (hv'.map (·.1)).length = (numJ F.hs j).length := by rw [hmm]
          rw [List.length_map, numJ_length] at e
          have := hvl'.out; omega
        have hA : Hid (hv'.map (·.1) = numJ F.hs j ∧ hv'.length = n ∧ gk = n - j) := ⟨hmm, hl', hgj⟩
        clear hmm hgj
        by_cases hlt2 : j < n
        · have hltI2 : (j : Int) < n := by omega
          rcases hso' with ⟨e, _⟩ | ⟨g, cap1, e, hg, hsv⟩
          · subst e; simp at hl'; omega
          · obtain ⟨rfl, hnn, rfl⟩ : a1 = some ⟨g, 0, none⟩ ∧ n = hv'.length ∧ c1 = cap1 := by cases e; exact ⟨rfl, rfl, rfl⟩
            rw [← hnn] at hsv
            clear e hnn
            have hj' : j < hv'.length := by omega
            have hx : hv'[j].1 = F.hs[j]'(by have := hvl'.out; omega) := by
              have e1 : (hv'.map (·.1))[j]'(by simpa using hj') = (numJ F.hs j)[j]'(by rw [numJ_length]; have := hvl'.out; omega) := by simp only [hA.out.1]
              rw [numJ_get _ _ (by have := hvl'.out; omega)] at e1
              simpa using e1
            have hbd := hq4.out hv'[j].1 (by rw [hx]; exact List.getElem_mem _)
            have hC := number_sm hsv (by have := hbel'.size; omega) hg hj' hbd.1 hbd.2
            have hm2 : Hid ((hv'.set j (numL hv'[j].1, hv'[j].2)).map (·.1) = numJ F.hs (j + 1)) := by
              unfold Hid
              rw [List.map_set, hA.out.1]
              simp only
              rw [hx, numJ_succ]
            have hl2 : Hid ((hv'.set j (numL hv'[j].1, hv'[j].2)).length = n) := by unfold Hid; rw [List.length_set]; exact hA.out.2.1
            generalize hv'.set j (numL hv'[j].1, hv'[j].2) = hv2 at hC hm2 hl2
            clear hx hbd hsv hl'
            go_wp2_with (go_at_call 58; refine hC.mono ?_; rintro e w3 ⟨rfl, hs3, hb3⟩)
            go_roundg (n - (j + 1))
            case measure => have := hA.out.2.2; omega
            case rel =>
              refine ⟨j + 1, hv2, rfl, by omega, by go_num, .inr ⟨g, c1, ?_, hg, ?_⟩, hm2, hbel'.trans hb3⟩
              · rw [hl2.out]
              · rw [hl2.out]; exact hs3
        · have hltI2 : ¬ ((j : Int) < n) := by omega
          have hjn2 : j = n := by omega
          have hfin : Hid (hv'.map (·.1) = hunksM L c) := by
            unfold Hid
            rw [hA.out.1, hF.out, hjn2, hvl'.out, numJ_all]
          clear hjn2
          go_wp2
          go_ret
          exact ⟨_, rfl, hv', hso'.mono (Nat.le_of_lt hsz1), hfin.out, hb1.trans (hbel'.mono (Nat.le_of_lt hsz1))⟩
end Go.Proofs.YtcclgodahlinbaaGreatDoor
namespace Go.Proofs.YtcclgodahlinbaaGreatDoor
open Go.RowKit Go
set_option maxRecDepth 100000
theorem splitB_size (sep : ByteArray) : ∀ (k : Nat) (s t : ByteArray), t ∈ Lib.splitB sep 0 k s → t.size ≤ s.size := by
  intro k
  induction k with
  | zero => intro s t h; simp [Lib.splitB] at h; rw [h]; exact Nat.le_refl _
  | succ k ih =>
    intro s t h
    rw [Lib.splitB] at h
    split at h
    · simp at h; rw [h]; exact Nat.le_refl _
    · rw [List.mem_cons] at h
      rcases h with h | h
      · rw [h]; simp [ByteArray.size_extract]; omega
      · have := ih _ _ h; simp [ByteArray.size_extract] at this; omega
theorem trimB_size (s : ByteArray) : (trimB s).size ≤ s.size := by
  have e : (trimB s).size = (Lib.trimSuffix s.data.toList [10]).length := by unfold trimB; rfl
  rw [e]
  unfold Lib.trimSuffix
  split
  · have : s.data.toList.length = s.size := rfl
    rw [List.length_take]; omega
  · exact Nat.le_refl _
theorem linesB_size {s t : ByteArray} (h : t ∈ linesB s) : t.size ≤ s.size := by
  unfold linesB at h
  split at h
  · simp at h
  · exact Nat.le_trans (splitB_size _ _ _ _ h) (trimB_size s)
theorem countB_nl (t : ByteArray) : Lib.countB t nl = Lib.countByte t.data.toList 10 := Lib.count_one _ _
theorem linesB_few {s : ByteArray} (h : largeB s = false) : (linesB s).length ≤ 201 := by
  unfold largeB at h
  simp at h
  by_cases h0 : s.toList.isEmpty = true
  · unfold linesB; rw [if_pos h0]; simp
  · rw [linesB_length s (by simpa using h0), countB_nl]
    have : Lib.countByte (trimB s).data.toList 10 ≤ Lib.countByte s.data.toList 10 := by
      have e : (trimB s).data.toList = Lib.trimSuffix s.data.toList [10] := by unfold trimB; rfl
      rw [e]
      unfold Lib.trimSuffix
      split
      · exact List.Sublist.count_le _ (List.take_sublist _ _)
      · exact Nat.le_refl _
    omega
theorem size_of_large {s : ByteArray} (h : largeB s = false) : s.size ≤ 8000 := by
  unfold largeB at h
  simp at h
  omega
theorem way_text {o f : List ByteArray} {s : StepB} (h : s ∈ Dn.wayM o f) : s.text ∈ o ∨ s.text ∈ f := by
  obtain ⟨a, b, c⟩ := Dn.wayM_way o f
  rcases c s h with hk | hk | hk
  · left; rw [← a]; exact List.mem_map.2 ⟨s, List.mem_filter.2 ⟨h, by simp [hk]⟩, rfl⟩
  · left; rw [← a]; exact List.mem_map.2 ⟨s, List.mem_filter.2 ⟨h, by simp [hk]⟩, rfl⟩
  · right; rw [← b]; exact List.mem_map.2 ⟨s, List.mem_filter.2 ⟨h, by simp [hk]⟩, rfl⟩
theorem steps_len (l : List StepB) : l.length ≤ (Dn.oldOf l).length + (Dn.newOf l).length := by
  induction l with
  | nil => simp
  | cons s l ih =>
    unfold Dn.oldOf Dn.newOf at *
    simp only [List.filter_cons, List.length_cons]
    by_cases h : s.kind = 43
    · have h1 : (s.kind != 43) = false := by simp [h]
      have h2 : (s.kind != 45) = true := by simp [h]
      rw [h1, h2]; simp at *; omega
    · have h1 : (s.kind != 43) = true := by simp [h]
      rw [h1]
      by_cases h' : s.kind = 45
      · have h2 : (s.kind != 45) = false := by simp [h']
        rw [h2]; simp at *; omega
      · have h2 : (s.kind != 45) = true := by simp [h']
        rw [h2]; simp at *; omega
theorem way_len (o f : List ByteArray) : (Dn.wayM o f).length ≤ o.length + f.length := by
  obtain ⟨a, b, _⟩ := Dn.wayM_way o f
  have := steps_len (Dn.wayM o f)
  rw [a, b] at this
  exact this
theorem Strs.mono {B B' : Nat} {w : World} {v : Value} {l : List ByteArray} (h : Strs B w v l) (hb : B ≤ B') : Strs B' w v l := by
  rcases h with h | ⟨b, off, cap, e, hB, hc⟩
  · exact .inl h
  · exact .inr ⟨b, off, cap, e, by omega, hc⟩
theorem HSo.slice {base : Nat} {v : Value} {hv : List HV} {w : World} (h : HSo base v hv w) : ∃ a n c, v = .slice a n c := by
  rcases h with ⟨_, rfl⟩ | ⟨g, cap, rfl, _⟩
  · exact ⟨_, _, _, rfl⟩
  · exact ⟨_, _, _, rfl⟩
def diffM (old fresh : ByteArray) (c : Nat) : List HunkM := hunksM (Dn.wayM (linesB old) (linesB fresh)) c
set_option maxHeartbeats 2000000 in
theorem diff_ok {old fresh : ByteArray} {c : Nat} {m : Int} {w : World} (hch : checkB old fresh c = 0) (h1 : old.size < 4294967281) (h2 : fresh.size < 4294967281) (hm : w.cell? ⟨0, 0, none⟩ = some (.int .i64 m)) :
    Calls Tryz.prog 12 #[.string old, .string fresh, .int .i64 c] w fun e w' =>
      ∃ v, e = .returned (.tuple #[.agg #[v], .int .i64 0]) ∧ ∃ hv, HSo w.heap.size v hv w' ∧ hv.map (·.1) = diffM old fresh c ∧ Below w.heap.size w w' := by
  have hck := checkDiff_any old fresh c
  rw [hch] at hck
  have hbnd : isTextB old = true ∧ isTextB fresh = true ∧ largeB old = false ∧ largeB fresh = false ∧ c ≤ 10 := by
    unfold checkB at hch
    split at hch
    · simp at hch
    · split at hch
      · simp at hch
      · split at hch
        · simp at hch
        · rename_i a b d
          simp at a b d
          refine ⟨a.1, a.2, b.1, b.2, by omega⟩
  obtain ⟨_, _, l1, l2, hc⟩ := hbnd
  have n1 := linesB_few l1
  have n2 := linesB_few l2
  have z1 := size_of_large l1
  have z2 := size_of_large l2
  have hmlt := World.block_lt_of_cell? _ _ hm
  have hD : Hid (diffM old fresh c = hunksM (Dn.wayM (linesB old) (linesB fresh)) c) := rfl
  have hmN : 0 < w.heap.size := hmlt
  obtain ⟨wa, hwa⟩ : ∃ wa, w.alloc (.cells #[.slice none 0 0] 32) = wa := ⟨_, rfl⟩
  have hza : wa.heap.size = w.heap.size + 1 := by rw [← hwa]; simp
  have hba : Below w.heap.size w wa := by rw [← hwa]; exact (Below.refl _ _).alloc (Nat.le_refl _) _
  have hBa : wa.heap[w.heap.size]? = some (.cells #[.slice none 0 0] 32 (0, 0)) := by rw [← hwa]; exact heap_alloc_new w _
  have hma : wa.cell? ⟨0, 0, none⟩ = some (.int .i64 m) := (hba.cell (p := ⟨0, 0, none⟩) hmN).trans hm
  have hLo := linesOf_any old m wa h1 hma
  have hLf : Hid (∀ w2, Below wa.heap.size wa w2 → Calls Tryz.prog 26 #[.string fresh] w2 fun e w' => ∃ a cap, e = .returned (.slice a (linesB fresh).length cap) ∧ Strs w'.heap.size w' (.slice a (linesB fresh).length cap) (linesB fresh) ∧ Below w2.heap.size w2 w') :=
    fun w2 hb => linesOf_any fresh m w2 h2 ((hb.cell (p := ⟨0, 0, none⟩) (by show (0 : Nat) < wa.heap.size; omega)).trans hma)
  have hFi : Hid (∀ (w3 : World) ao capo af capf, Strs w3.heap.size w3 (.slice ao (linesB old).length capo) (linesB old) → Strs w3.heap.size w3 (.slice af (linesB fresh).length capf) (linesB fresh) →
      Calls Tryz.prog 25 #[.slice ao (linesB old).length capo, .slice af (linesB fresh).length capf] w3 fun e w' => ∃ a cap, e = .returned (.slice a (Dn.wayM (linesB old) (linesB fresh)).length cap) ∧ StepsAt w'.heap.size w' (.slice a (Dn.wayM (linesB old) (linesB fresh)).length cap) (Dn.wayM (linesB old) (linesB fresh)) ∧ Below w3.heap.size w3 w') := by
    intro w3 ao capo af capf s1 s2
    refine (find_row s1 s2 (by omega) (by omega)).mono ?_
    rintro e w' ⟨v, rfl, ho, hb⟩
    have hst := StepsAt.of_owns ho
    obtain ⟨a, cap, rfl⟩ := hst.slice
    exact ⟨a, cap, rfl, hst, hb⟩
  have hHu : Hid (∀ (w4 : World) a cap, StepsAt w4.heap.size w4 (.slice a (Dn.wayM (linesB old) (linesB fresh)).length cap) (Dn.wayM (linesB old) (linesB fresh)) →
      Calls Tryz.prog 27 #[.slice a (Dn.wayM (linesB old) (linesB fresh)).length cap, .int .i64 c] w4 fun e w' => ∃ v, e = .returned v ∧ ∃ hv, HSo w4.heap.size v hv w' ∧ hv.map (·.1) = diffM old fresh c ∧ Below w4.heap.size w4 w') := by
    intro w4 a cap hst
    refine (hunksOf_row c hst hc (by have := way_len (linesB old) (linesB fresh); omega) (Dn.wayM_way _ _).2.2 (fun s hs => ?_))
    rcases way_text hs with h | h
    · have := linesB_size h; omega
    · have := linesB_size h; omega
  clear hba n1 n2 z1 z2 hch l1 l2 hm hD
  generalize linesB old = Lo at *
  generalize linesB fresh = Lf at *
  generalize Dn.wayM Lo Lf = WW at *
  generalize diffM old fresh c = DD at *
  go_enter Tryz.func12, Tryz.ntmps12
  go_wp2_with (first | (go_at_call 24; refine (hck _ h1 h2).mono ?_; rintro e w' ⟨rfl, rfl⟩) | (go_at_call 26; refine hLo.mono ?_; clear hLo; rintro e w2 ⟨ao, capo, rfl, so, hb2⟩; have hLf2 := hLf.out w2 hb2) | (go_at_call 26; refine hLf2.mono ?_; clear hLf2; rintro e w3 ⟨af, capf, rfl, sf, hb3⟩; have hFi2 := hFi.out w3 ao capo af capf ((so.below hb3).mono hb3.size) sf) | (go_at_call 25; refine hFi2.mono ?_; clear hFi2; rintro e w4 ⟨a4, cap4, rfl, st4, hb4⟩; have hHu2 := hHu.out w4 a4 cap4 st4) | (go_at_call 27; refine hHu2.mono ?_; clear hHu2; rintro e w5 ⟨v, rfl, hv, hso, hmm, hb5⟩; obtain ⟨a5, n5, c5, rfl⟩ := hso.slice; have hAll : Below wa.heap.size wa w5 := ((hb2.trans (hb3.mono hb2.size)).trans (hb4.mono (Nat.le_trans hb2.size hb3.size))).trans (hb5.mono (Nat.le_trans hb2.size (Nat.le_trans hb3.size hb4.size))); have hB5 := (hAll.block w.heap.size (by omega)).trans hBa; have r0 : w5.cell? ⟨w.heap.size, 0, none⟩ = some (.slice none 0 0) := cell_of hB5 rfl; have r1 : w5.frozen? ⟨w.heap.size, 0, none⟩ = false := frozen_of hB5))
  have hz5 : w.heap.size + 1 ≤ w4.heap.size := by have := hb2.size; have := hb3.size; have := hb4.size; omega
  refine bodyPost_ret (v := .tuple #[.agg #[.slice a5 n5 c5], .int .i64 0]) ?_ rfl ⟨_, rfl, hv, ?_, hmm, ?_⟩
  · simp [results, Tryz.results12, go_sem, r0]
  · exact (hso.kept (grownBy_setCell w5 w.heap.size 0 _) (fun k e => by cases e; exact .inr ⟨_, _, _, hB5, by decide, by decide⟩)).mono (by omega)
  · have hba : Below w.heap.size w wa := by rw [← hwa]; exact (Below.refl _ _).alloc (Nat.le_refl _) _
    exact (hba.trans (hAll.mono (by omega))).setCell (p := ⟨w.heap.size, 0, none⟩) (Nat.le_refl _) _
end Go.Proofs.YtcclgodahlinbaaGreatDoor
namespace Go.Proofs.YtcclgodahlinbaaGreatDoor
open Go.RowKit Go
set_option maxRecDepth 100000
theorem grownBy_drew {w w' : World} {r : Option Nat} (h : w.grownBy w' r) : w.grownBy w'.drew r := ⟨h.os, h.tape, h.output, h.size, h.block⟩
abbrev hunkVal (h : HunkM) (v : Value) : Value := .agg #[.int .i64 (h.fr : Int), .int .i64 (h.fc : Int), .int .i64 (h.tr : Int), .int .i64 (h.tc : Int), v]
theorem restOf_any (h : HunkM) (a : Option Addr) (n cap : Nat) (w : World) : Calls Tryz.prog 106 #[hunkVal h (.slice a n cap)] w fun e w' =>
    e = .returned (.agg #[.int .i64 (h.fc : Int), .int .i64 (h.tc : Int), .bool false]) ∧ Below w.heap.size w w' := by
  go_enter Tryz.func106, Tryz.ntmps106
  go_wp2
  refine bodyPost_ret (v := .agg #[.int .i64 (h.fc : Int), .int .i64 (h.tc : Int), .bool false]) (by simp [results, Tryz.results106, go_sem]) rfl ⟨rfl, ?_⟩
  exact ((Below.refl _ _).alloc (Nat.le_refl _) _).alloc (by simp) _
def kf (k : Nat) : Nat := if k = 43 then 0 else 1
theorem full_yes (b : Bool) (w : World) : Calls Tryz.prog 76 #[.agg #[.int .i64 0, .int .i64 0, .bool b]] w fun e w' => e = .returned (.bool true) ∧ Below w.heap.size w w' := by
  go_enter Tryz.func76, Tryz.ntmps76
  go_wp2
  go_ret
  exact ⟨rfl, (Below.refl _ _).alloc (Nat.le_refl _) _⟩
set_option maxHeartbeats 400000 in
theorem done_yes (w : World) : Calls Tryz.prog 80 #[.agg #[.int .i64 0, .int .i64 0, .bool true]] w fun e w' => e = .returned (.bool true) ∧ Below w.heap.size w w' := by
  have hf := full_yes true (w.alloc (.cells #[.int .i64 0, .int .i64 0, .bool true] 86))
  go_enter Tryz.func80, Tryz.ntmps80
  go_wp2_with (go_at_call 76; refine hf.mono ?_; rintro e w' ⟨rfl, hb⟩; have c2 : w'.cell? ⟨w.heap.size, 2, none⟩ = some (.bool true) := (hb.cell (p := ⟨w.heap.size, 2, none⟩) (by simp)).trans (cell_of (heap_alloc_new w _) rfl))
  go_ret
  exact ⟨rfl, ((Below.refl _ _).alloc (Nat.le_refl _) _).trans (hb.mono (by simp))⟩
end Go.Proofs.YtcclgodahlinbaaGreatDoor
namespace Go.Proofs.YtcclgodahlinbaaGreatDoor
open Go.RowKit Go
set_option maxRecDepth 100000
theorem StepsAt.mono {B B' : Nat} {w : World} {v : Value} {L : List StepB} (h : StepsAt B w v L) (hb : B ≤ B') : StepsAt B' w v L := by
  rcases h with h | ⟨b, cap, e, hB, hc⟩
  · exact .inl h
  · exact .inr ⟨b, cap, e, by omega, hc⟩
theorem owns_line {w : World} {base n cap g : Nat} {l : List StepB} (h : w.ownsRow base 93 2 (.slice (some ⟨g, 0, none⟩) n cap) n (stepCells l)) {i : Nat} (hi : i < l.length) :
    w.cell? ⟨g, i * 2, none⟩ = some (.int .u8 (l[i].kind : Nat)) ∧ w.cell? ⟨g, i * 2 + 1, none⟩ = some (.string l[i].text) := by
  obtain ⟨hl, hr⟩ := h
  rcases hr with ⟨e, _⟩ | ⟨g', cap', cur, e, hb, hg, h1, h2, h3, h4⟩
  · cases e
  · cases e
    obtain ⟨a, b⟩ := stepCells_get l i hi
    rw [← h4] at a b
    have f : ∀ (j : Nat) (u : Value), (cur.toList.take (n * 2))[j]? = some u → cur[j]? = some u := by
      intro j u hu
      rw [List.getElem?_take] at hu
      split at hu
      · simpa using hu
      · cases hu
    exact ⟨cell_of hg (f _ _ a), cell_of hg (f _ _ b)⟩
theorem StepsAt.of_lines {base : Nat} {w : World} {v : Value} {L : List StepB} (h : w.ownsRow base 93 2 v L.length (stepCells L)) : StepsAt w.heap.size w v L := by
  by_cases h0 : L.length = 0
  · have : L = [] := List.eq_nil_of_length_eq_zero h0
    subst this
    rcases h.2 with ⟨e, _⟩ | ⟨g, cap, cur, e, _⟩
    · exact .inl ⟨rfl, _, _, e⟩
    · exact .inl ⟨rfl, _, _, e⟩
  · obtain ⟨g, cap, rfl, _, hg, _⟩ := owns_slice h (by omega)
    exact .inr ⟨g, cap, rfl, hg, fun i hi => owns_line h hi⟩
def HunksAt (B : Nat) (w : World) (v : Value) (hs : List HunkM) : Prop :=
  (hs = [] ∧ ∃ a c, v = .slice a 0 c) ∨ ∃ b cap, v = .slice (some ⟨b, 0, none⟩) hs.length cap ∧ b < B ∧
    ∀ i (h : i < hs.length), ∃ a c, w.cell? ⟨b, i * 5, none⟩ = some (.int .i64 (hs[i].fr : Int)) ∧ w.cell? ⟨b, i * 5 + 1, none⟩ = some (.int .i64 (hs[i].fc : Int)) ∧ w.cell? ⟨b, i * 5 + 2, none⟩ = some (.int .i64 (hs[i].tr : Int)) ∧
      w.cell? ⟨b, i * 5 + 3, none⟩ = some (.int .i64 (hs[i].tc : Int)) ∧ w.cell? ⟨b, i * 5 + 4, none⟩ = some (.slice a hs[i].lines.length c) ∧ StepsAt B w (.slice a hs[i].lines.length c) hs[i].lines
theorem HunksAt.of_owns {base : Nat} {w : World} {v : Value} {hv : List HV} (h : HSo base v hv w) : HunksAt w.heap.size w v (hv.map (·.1)) := by
  rcases h with ⟨rfl, rfl⟩ | ⟨g, cap, rfl, _, hs⟩
  · exact .inl ⟨rfl, _, _, rfl⟩
  · refine .inr ⟨g, cap, by simp, (hs.row.lt g rfl).2, fun i hi => ?_⟩
    have hi' : i < hv.length := by simpa using hi
    obtain ⟨c0, c1, c2, c3, c4⟩ := owns_hunk hs.row hi'
    have hl := StepsAt.of_lines (hs.lines hv[i] (List.getElem_mem hi'))
    obtain ⟨a, c, e⟩ := hl.slice
    rw [e] at hl c4
    refine ⟨a, c, ?_⟩
    simp only [List.getElem_map]
    exact ⟨c0, c1, c2, c3, c4, hl⟩
def HOwn (B : Nat) (w : World) (v : Value) (hs : List HunkM) : Prop := ∃ hv : List HV, HSo B v hv w ∧ hv.map (·.1) = hs
theorem HOwn.hunks {B : Nat} {w : World} {v : Value} {hs : List HunkM} (h : HOwn B w v hs) : HunksAt w.heap.size w v hs := by
  obtain ⟨hv, h1, rfl⟩ := h
  exact HunksAt.of_owns h1
theorem HunksAt.below {B : Nat} {w w' : World} {v : Value} {hs : List HunkM} (h : HunksAt B w v hs) (hb : Below B w w') : HunksAt B w' v hs := by
  rcases h with h | ⟨b, cap, e, hB, hc⟩
  · exact .inl h
  · refine .inr ⟨b, cap, e, hB, fun i hi => ?_⟩
    obtain ⟨a, c, h0, h1, h2, h3, h4, h5⟩ := hc i hi
    exact ⟨a, c, (hb.cell (p := ⟨b, i * 5, none⟩) hB).trans h0, (hb.cell (p := ⟨b, i * 5 + 1, none⟩) hB).trans h1, (hb.cell (p := ⟨b, i * 5 + 2, none⟩) hB).trans h2, (hb.cell (p := ⟨b, i * 5 + 3, none⟩) hB).trans h3, (hb.cell (p := ⟨b, i * 5 + 4, none⟩) hB).trans h4, h5.below hb⟩
theorem HunksAt.mono {B B' : Nat} {w : World} {v : Value} {hs : List HunkM} (h : HunksAt B w v hs) (hb : B ≤ B') : HunksAt B' w v hs := by
  rcases h with h | ⟨b, cap, e, hB, hc⟩
  · exact .inl h
  · refine .inr ⟨b, cap, e, by omega, fun i hi => ?_⟩
    obtain ⟨a, c, h0, h1, h2, h3, h4, h5⟩ := hc i hi
    exact ⟨a, c, h0, h1, h2, h3, h4, h5.mono hb⟩
theorem HunksAt.at {B n cap : Nat} {w : World} {a : Option Addr} {hs : List HunkM} (h : HunksAt B w (.slice a n cap) hs) {i : Nat} (hi : i < hs.length) :
    ∃ b a' c, a = some ⟨b, 0, none⟩ ∧ b < B ∧ w.cell? ⟨b, i * 5, none⟩ = some (.int .i64 (hs[i].fr : Int)) ∧ w.cell? ⟨b, i * 5 + 1, none⟩ = some (.int .i64 (hs[i].fc : Int)) ∧ w.cell? ⟨b, i * 5 + 2, none⟩ = some (.int .i64 (hs[i].tr : Int)) ∧
      w.cell? ⟨b, i * 5 + 3, none⟩ = some (.int .i64 (hs[i].tc : Int)) ∧ w.cell? ⟨b, i * 5 + 4, none⟩ = some (.slice a' hs[i].lines.length c) ∧ StepsAt B w (.slice a' hs[i].lines.length c) hs[i].lines := by
  rcases h with ⟨rfl, _⟩ | ⟨b, cap, e, hb, hc⟩
  · simp at hi
  · cases e
    obtain ⟨a', c, r⟩ := hc i hi
    exact ⟨b, a', c, rfl, hb, r⟩
end Go.Proofs.YtcclgodahlinbaaGreatDoor
namespace Go.Proofs.YtcclgodahlinbaaGreatDoor
open Go.RowKit Go
set_option maxRecDepth 100000
structure Rd where
  hs : List HunkM
  en : Nat
  gr : Int
  f : Nat
  t : Nat
  b : Bool
def Rd.start : Rd := ⟨[], 0, 0, 0, 0, false⟩
def Rd.ended (st : Rd) : Prop := st.hs = [] ∨ (st.f = 0 ∧ st.t = 0 ∧ st.b = true)
end Go.Proofs.YtcclgodahlinbaaGreatDoor
namespace Go.Proofs.YtcclgodahlinbaaGreatDoor
open Go.RowKit Go
set_option maxRecDepth 100000
theorem full_no {f t : Nat} (b : Bool) (h : ¬ (f = 0 ∧ t = 0)) (w : World) : Calls Tryz.prog 76 #[.agg #[.int .i64 (f : Int), .int .i64 (t : Int), .bool b]] w fun e w' => e = .returned (.bool false) ∧ Below w.heap.size w w' := by
  by_cases hf : f = 0
  · have ht : ((t : Int) == 0) = false := by rw [beq_eq_false_iff_ne]; omega
    subst hf
    go_enter Tryz.func76, Tryz.ntmps76
    go_wp2
    go_ret
    exact ⟨rfl, (Below.refl _ _).alloc (Nat.le_refl _) _⟩
  · have ht : ((f : Int) == 0) = false := by rw [beq_eq_false_iff_ne]; omega
    go_enter Tryz.func76, Tryz.ntmps76
    go_wp2
    go_ret
    exact ⟨rfl, (Below.refl _ _).alloc (Nat.le_refl _) _⟩
set_option maxHeartbeats 400000 in
theorem done_no {f t : Nat} {b : Bool} (h : ¬ (f = 0 ∧ t = 0 ∧ b = true)) (w : World) : Calls Tryz.prog 80 #[.agg #[.int .i64 (f : Int), .int .i64 (t : Int), .bool b]] w fun e w' => e = .returned (.bool false) ∧ Below w.heap.size w w' := by
  by_cases hf : f = 0 ∧ t = 0
  · obtain ⟨rfl, rfl⟩ := hf
    obtain rfl : b = false := by cases b; rfl; exact absurd ⟨rfl, rfl, rfl⟩ h
    have hf := full_yes false (w.alloc (.cells #[.int .i64 0, .int .i64 0, .bool false] 86))
    go_enter Tryz.func80, Tryz.ntmps80
    go_wp2_with (go_at_call 76; refine hf.mono ?_; rintro e w' ⟨rfl, hb⟩; have c2 : w'.cell? ⟨w.heap.size, 2, none⟩ = some (.bool false) := (hb.cell (p := ⟨w.heap.size, 2, none⟩) (by simp)).trans (cell_of (heap_alloc_new w _) rfl))
    go_ret
    exact ⟨rfl, ((Below.refl _ _).alloc (Nat.le_refl _) _).trans (hb.mono (by simp))⟩
  · have hf := full_no b hf (w.alloc (.cells #[.int .i64 (f : Int), .int .i64 (t : Int), .bool b] 86))
    go_enter Tryz.func80, Tryz.ntmps80
    go_wp2_with (go_at_call 76; refine hf.mono ?_; rintro e w' ⟨rfl, hb⟩; have c2 : w'.cell? ⟨w.heap.size, 2, none⟩ = some (.bool b) := (hb.cell (p := ⟨w.heap.size, 2, none⟩) (by simp)).trans (cell_of (heap_alloc_new w _) rfl))
    go_ret
    exact ⟨rfl, ((Below.refl _ _).alloc (Nat.le_refl _) _).trans (hb.mono (by simp))⟩
structure RdM (S : Nat) (st : Rd) (v : Value) (hv : List HV) (w : World) : Prop where
  blk : w.heap[S]? = some (.cells #[v, .int .i64 (st.en : Int), .int .i64 st.gr, .int .i64 (st.f : Int), .int .i64 (st.t : Int), .bool st.b] 88 (0, 0))
  hso : HSo (S + 1) v hv w
  hs : hv.map (·.1) = st.hs
theorem RdM.lt {S : Nat} {st : Rd} {v : Value} {hv : List HV} {w : World} (h : RdM S st v hv w) : S < w.heap.size := (Array.getElem?_eq_some_iff.1 h.blk).1
theorem HSo.len {base : Nat} {v : Value} {hv : List HV} {w : World} (h : HSo base v hv w) : ∃ a cap, v = .slice a hv.length cap := by
  rcases h with ⟨rfl, rfl⟩ | ⟨g, cap, rfl, _, hs⟩
  · exact ⟨_, _, rfl⟩
  · exact ⟨_, _, rfl⟩
set_option maxHeartbeats 1000000 in
theorem ended_any {S : Nat} {st : Rd} {v : Value} {hv : List HV} {w : World} (h : RdM S st v hv w) :
    Calls Tryz.prog 36 #[.pointer (some ⟨S, 0, none⟩)] w fun e w' => (∃ r : Bool, e = .returned (.bool r) ∧ (r = true ↔ st.ended)) ∧ Below w.heap.size w w' := by
  obtain ⟨a, cap, rfl⟩ := h.hso.len
  have hlen : Hid (hv.length = st.hs.length) := by unfold Hid; rw [← h.hs, List.length_map]
  have c0 : w.cell? ⟨S, 0, none⟩ = some (.slice a hv.length cap) := cell_of (k := 0) h.blk rfl
  have c3 : w.cell? ⟨S, 3, none⟩ = some (.int .i64 (st.f : Int)) := cell_of (k := 3) h.blk rfl
  have c4 : w.cell? ⟨S, 4, none⟩ = some (.int .i64 (st.t : Int)) := cell_of (k := 4) h.blk rfl
  have c5 : w.cell? ⟨S, 5, none⟩ = some (.bool st.b) := cell_of (k := 5) h.blk rfl
  clear h
  generalize hv.length = n at *
  by_cases h0 : n = 0
  · subst h0
    have he : st.ended := .inl (List.eq_nil_of_length_eq_zero hlen.out.symm)
    have hE : Hid st.ended := he
    clear he
    go_enter Tryz.func36, Tryz.ntmps36
    go_wp2_with fail
    go_ret
    exact ⟨⟨true, rfl, by simp [hE.out]⟩, Below.refl _ _⟩
  · have e0 : ((n : Int) == 0) = false := by rw [beq_eq_false_iff_ne]; omega
    by_cases hd : st.f = 0 ∧ st.t = 0 ∧ st.b = true
    · have hE : Hid st.ended := .inr hd
      rw [hd.1] at c3
      rw [hd.2.1] at c4
      rw [hd.2.2] at c5
      have hdn := done_yes w
      clear hd
      go_enter Tryz.func36, Tryz.ntmps36
      go_wp2_with (go_at_call 80; refine hdn.mono ?_; rintro e w' ⟨rfl, hb⟩)
      go_ret
      exact ⟨⟨true, rfl, by simp [hE.out]⟩, hb⟩
    · have hE : Hid (¬ st.ended) := by
        rintro (e | e)
        · have := hlen.out; rw [e] at this; exact h0 this
        · exact hd e
      have hdn := done_no hd w
      generalize st.f = sf at *
      generalize st.t = sg at *
      generalize st.b = sb at *
      clear hd
      go_enter Tryz.func36, Tryz.ntmps36
      go_wp2_with (go_at_call 80; refine hdn.mono ?_; rintro e w' ⟨rfl, hb⟩)
      go_ret
      exact ⟨⟨false, rfl, by simp [hE.out]⟩, hb⟩
end Go.Proofs.YtcclgodahlinbaaGreatDoor
namespace Go.Proofs
open Go.Shelf
def Tryz.lays103_ren : Go.Shelf.Ren := ⟨fun | 103 => 138 | 210 => 148 | 206 => 153 | n => n, fun | 9 => 9 | 4 => 4 | 24 => 81 | 3 => 3 | n => n, fun | n => n⟩
theorem Tryz.lays103 : Go.Proofs.Lays.n103 Tryz.prog Tryz.lays103_ren := {
  mixed := by kernel_rfl
  f103 := Tryz.func138.trans (congrArg some (by kernel_rfl))
  f206 := Tryz.func153.trans (congrArg some (by kernel_rfl))
  f210 := Tryz.func148.trans (congrArg some (by kernel_rfl))
  t3 := Tryz.underlying3
  a3 := Tryz.isAgg3
  z3 := Tryz.sizeOf3
  v3 := Tryz.zeroValue3
  t4 := Tryz.underlying4
  a4 := Tryz.isAgg4
  z4 := Tryz.sizeOf4
  v4 := Tryz.zeroValue4
  t9 := Tryz.underlying9
  a9 := Tryz.isAgg9
  z9 := Tryz.sizeOf9
  v9 := Tryz.zeroValue9
  t24 := Tryz.underlying81
  a24 := Tryz.isAgg81
  z24 := Tryz.sizeOf81
  v24 := Tryz.zeroValue81 }
open Go.RowKit in
theorem Tryz.strings_CutPrefix (s p : ByteArray) (w : World) :
    Calls Tryz.prog 138 #[.string s, .string p] w fun e w' => e = .returned (.tuple #[.string ⟨(Lib.trimPrefix s.data.toList p.data.toList).toArray⟩, .bool (Lib.hasPrefix s.data.toList p.data.toList)]) ∧ w' = w := Any.strings_CutPrefix Tryz.lays103 s p w
def Tryz.lays104_ren : Go.Shelf.Ren := ⟨fun | 104 => 139 | 211 => 149 | 207 => 127 | n => n, fun | 9 => 9 | 4 => 4 | 24 => 81 | 3 => 3 | n => n, fun | n => n⟩
theorem Tryz.lays104 : Go.Proofs.Lays.n104 Tryz.prog Tryz.lays104_ren := {
  mixed := by kernel_rfl
  f104 := Tryz.func139.trans (congrArg some (by kernel_rfl))
  f207 := Tryz.func127.trans (congrArg some (by kernel_rfl))
  f211 := Tryz.func149.trans (congrArg some (by kernel_rfl))
  t3 := Tryz.underlying3
  a3 := Tryz.isAgg3
  z3 := Tryz.sizeOf3
  v3 := Tryz.zeroValue3
  t4 := Tryz.underlying4
  a4 := Tryz.isAgg4
  z4 := Tryz.sizeOf4
  v4 := Tryz.zeroValue4
  t9 := Tryz.underlying9
  a9 := Tryz.isAgg9
  z9 := Tryz.sizeOf9
  v9 := Tryz.zeroValue9
  t24 := Tryz.underlying81
  a24 := Tryz.isAgg81
  z24 := Tryz.sizeOf81
  v24 := Tryz.zeroValue81 }
open Go.RowKit in
theorem Tryz.strings_CutSuffix (s p : ByteArray) (w : World) (hs : s.size ≤ 9223372036854775807) :
    Calls Tryz.prog 139 #[.string s, .string p] w fun e w' => e = .returned (.tuple #[.string ⟨(Lib.trimSuffix s.data.toList p.data.toList).toArray⟩, .bool (Lib.hasSuffix s.data.toList p.data.toList)]) ∧ w' = w := Any.strings_CutSuffix Tryz.lays104 s p w hs
open Go.RowKit in
def Tryz.lays171_ren : Go.Shelf.Ren := ⟨fun | 171 => 133 | 243 => 145 | 246 => 152 | 283 => 155 | 284 => 156 | 285 => 157 | 286 => 158 | 129 => 162 | 317 => 161 | 318 => 163 | 319 => 164 | 320 => 165 | 337 => 171 | 338 => 172 | n => n, fun | 3 => 3 | 9 => 9 | 2 => 2 | 4 => 4 | 171 => 212 | 0 => 0 | 53 => 213 | 37 => 72 | 5 => 5 | 173 => 216 | 212 => 220 | 51 => 202 | 20 => 20 | 213 => 221 | 46 => 193 | 232 => 235 | 233 => 236 | n => n, fun | 17 => 3 | 18 => 6 | 19 => 7 | n => n⟩
theorem Tryz.lays171 : Go.Proofs.Lays.n171 Tryz.prog Tryz.lays171_ren := {
  mixed := by kernel_rfl
  f129 := Tryz.func162.trans (congrArg some (by kernel_rfl))
  f171 := Tryz.func133.trans (congrArg some (by kernel_rfl))
  f243 := Tryz.func145.trans (congrArg some (by kernel_rfl))
  f246 := Tryz.func152.trans (congrArg some (by kernel_rfl))
  f283 := Tryz.func155.trans (congrArg some (by kernel_rfl))
  f284 := Tryz.func156.trans (congrArg some (by kernel_rfl))
  f285 := Tryz.func157.trans (congrArg some (by kernel_rfl))
  f286 := Tryz.func158.trans (congrArg some (by kernel_rfl))
  f317 := Tryz.func161.trans (congrArg some (by kernel_rfl))
  f318 := Tryz.func163.trans (congrArg some (by kernel_rfl))
  f319 := Tryz.func164.trans (congrArg some (by kernel_rfl))
  f320 := Tryz.func165.trans (congrArg some (by kernel_rfl))
  f337 := Tryz.func171.trans (congrArg some (by kernel_rfl))
  f338 := Tryz.func172.trans (congrArg some (by kernel_rfl))
  t0 := Tryz.underlying0
  a0 := Tryz.isAgg0
  z0 := Tryz.sizeOf0
  v0 := Tryz.zeroValue0
  t2 := Tryz.underlying2
  a2 := Tryz.isAgg2
  z2 := Tryz.sizeOf2
  v2 := Tryz.zeroValue2
  t3 := Tryz.underlying3
  a3 := Tryz.isAgg3
  z3 := Tryz.sizeOf3
  v3 := Tryz.zeroValue3
  t4 := Tryz.underlying4
  a4 := Tryz.isAgg4
  z4 := Tryz.sizeOf4
  v4 := Tryz.zeroValue4
  t5 := Tryz.underlying5
  a5 := Tryz.isAgg5
  z5 := Tryz.sizeOf5
  v5 := Tryz.zeroValue5
  t9 := Tryz.underlying9
  a9 := Tryz.isAgg9
  z9 := Tryz.sizeOf9
  v9 := Tryz.zeroValue9
  t20 := Tryz.underlying20
  a20 := Tryz.isAgg20
  z20 := Tryz.sizeOf20
  v20 := Tryz.zeroValue20
  t37 := Tryz.underlying72
  a37 := Tryz.isAgg72
  z37 := Tryz.sizeOf72
  v37 := Tryz.zeroValue72
  t46 := Tryz.underlying193
  a46 := Tryz.isAgg193
  z46 := Tryz.sizeOf193
  v46 := Tryz.zeroValue193
  t51 := Tryz.underlying202
  a51 := Tryz.isAgg202
  z51 := Tryz.sizeOf202
  v51 := Tryz.zeroValue202
  t53 := Tryz.underlying213
  a53 := Tryz.isAgg213
  z53 := Tryz.sizeOf213
  v53 := Tryz.zeroValue213
  t171 := Tryz.underlying212
  a171 := Tryz.isAgg212
  z171 := Tryz.sizeOf212
  v171 := Tryz.zeroValue212
  t173 := Tryz.underlying216
  a173 := Tryz.isAgg216
  z173 := Tryz.sizeOf216
  v173 := Tryz.zeroValue216
  t212 := Tryz.underlying220
  a212 := Tryz.isAgg220
  z212 := Tryz.sizeOf220
  v212 := Tryz.zeroValue220
  t213 := Tryz.underlying221
  a213 := Tryz.isAgg221
  z213 := Tryz.sizeOf221
  t232 := Tryz.underlying235
  a232 := Tryz.isAgg235
  z232 := Tryz.sizeOf235
  v232 := Tryz.zeroValue235
  t233 := Tryz.underlying236
  a233 := Tryz.isAgg236
  z233 := Tryz.sizeOf236
  v233 := Tryz.zeroValue236
  g17 := by kernel_rfl
  g18 := by kernel_rfl
  g19 := by kernel_rfl }
open Go.RowKit in
def Tryz.laysC172_ren : Go.Shelf.Ren := ⟨fun | 172 => 154 | 244 => 159 | 245 => 160 | 247 => 166 | 279 => 167 | 280 => 168 | 281 => 169 | 282 => 170 | 287 => 173 | 316 => 112 | 171 => 133 | 205 => 174 | 321 => 175 | 322 => 176 | 243 => 145 | 246 => 152 | 283 => 155 | 284 => 156 | 285 => 157 | 286 => 158 | 129 => 162 | 317 => 161 | 318 => 163 | 319 => 164 | 320 => 165 | 337 => 171 | 338 => 172 | n => n, fun | 9 => 9 | 3 => 3 | 75 => 139 | 76 => 140 | 4 => 4 | 5 => 5 | 167 => 223 | 37 => 72 | 0 => 0 | 85 => 224 | 2 => 2 | 168 => 226 | 53 => 213 | 175 => 230 | 46 => 193 | 210 => 233 | 127 => 172 | 145 => 240 | 143 => 238 | 21 => 21 | 171 => 212 | 173 => 216 | 212 => 220 | 51 => 202 | 20 => 20 | 213 => 221 | 232 => 235 | 233 => 236 | 80 => 78 | n => n, fun | 15 => 4 | 16 => 5 | 17 => 3 | 18 => 6 | 19 => 7 | n => n⟩
theorem Tryz.laysC172 : Go.Proofs.LaysC.n172 Tryz.prog Tryz.laysC172_ren := {
  mixed := by kernel_rfl
  f129 := Tryz.func162.trans (congrArg some (by kernel_rfl))
  f171 := Tryz.func133.trans (congrArg some (by kernel_rfl))
  f172 := Tryz.func154.trans (congrArg some (by kernel_rfl))
  f205 := Tryz.func174.trans (congrArg some (by kernel_rfl))
  f243 := Tryz.func145.trans (congrArg some (by kernel_rfl))
  f244 := Tryz.func159.trans (congrArg some (by kernel_rfl))
  f245 := Tryz.func160.trans (congrArg some (by kernel_rfl))
  f246 := Tryz.func152.trans (congrArg some (by kernel_rfl))
  f247 := Tryz.func166.trans (congrArg some (by kernel_rfl))
  f279 := Tryz.func167.trans (congrArg some (by kernel_rfl))
  f280 := Tryz.func168.trans (congrArg some (by kernel_rfl))
  f281 := Tryz.func169.trans (congrArg some (by kernel_rfl))
  f282 := Tryz.func170.trans (congrArg some (by kernel_rfl))
  f283 := Tryz.func155.trans (congrArg some (by kernel_rfl))
  f284 := Tryz.func156.trans (congrArg some (by kernel_rfl))
  f285 := Tryz.func157.trans (congrArg some (by kernel_rfl))
  f286 := Tryz.func158.trans (congrArg some (by kernel_rfl))
  f287 := Tryz.func173.trans (congrArg some (by kernel_rfl))
  f316 := Tryz.func112.trans (congrArg some (by kernel_rfl))
  f317 := Tryz.func161.trans (congrArg some (by kernel_rfl))
  f318 := Tryz.func163.trans (congrArg some (by kernel_rfl))
  f319 := Tryz.func164.trans (congrArg some (by kernel_rfl))
  f320 := Tryz.func165.trans (congrArg some (by kernel_rfl))
  f321 := Tryz.func175.trans (congrArg some (by kernel_rfl))
  f322 := Tryz.func176.trans (congrArg some (by kernel_rfl))
  f337 := Tryz.func171.trans (congrArg some (by kernel_rfl))
  f338 := Tryz.func172.trans (congrArg some (by kernel_rfl))
  t0 := Tryz.underlying0
  a0 := Tryz.isAgg0
  z0 := Tryz.sizeOf0
  v0 := Tryz.zeroValue0
  t2 := Tryz.underlying2
  a2 := Tryz.isAgg2
  z2 := Tryz.sizeOf2
  v2 := Tryz.zeroValue2
  t3 := Tryz.underlying3
  a3 := Tryz.isAgg3
  z3 := Tryz.sizeOf3
  v3 := Tryz.zeroValue3
  t4 := Tryz.underlying4
  a4 := Tryz.isAgg4
  z4 := Tryz.sizeOf4
  v4 := Tryz.zeroValue4
  t5 := Tryz.underlying5
  a5 := Tryz.isAgg5
  z5 := Tryz.sizeOf5
  v5 := Tryz.zeroValue5
  t9 := Tryz.underlying9
  a9 := Tryz.isAgg9
  z9 := Tryz.sizeOf9
  v9 := Tryz.zeroValue9
  t20 := Tryz.underlying20
  a20 := Tryz.isAgg20
  z20 := Tryz.sizeOf20
  v20 := Tryz.zeroValue20
  t21 := Tryz.underlying21
  a21 := Tryz.isAgg21
  z21 := Tryz.sizeOf21
  v21 := Tryz.zeroValue21
  t37 := Tryz.underlying72
  a37 := Tryz.isAgg72
  z37 := Tryz.sizeOf72
  v37 := Tryz.zeroValue72
  t46 := Tryz.underlying193
  a46 := Tryz.isAgg193
  z46 := Tryz.sizeOf193
  v46 := Tryz.zeroValue193
  t51 := Tryz.underlying202
  a51 := Tryz.isAgg202
  z51 := Tryz.sizeOf202
  v51 := Tryz.zeroValue202
  t53 := Tryz.underlying213
  a53 := Tryz.isAgg213
  z53 := Tryz.sizeOf213
  v53 := Tryz.zeroValue213
  t75 := Tryz.underlying139
  a75 := Tryz.isAgg139
  z75 := Tryz.sizeOf139
  v75 := Tryz.zeroValue139
  t76 := Tryz.underlying140
  a76 := Tryz.isAgg140
  z76 := Tryz.sizeOf140
  v76 := Tryz.zeroValue140
  t85 := Tryz.underlying224
  a85 := Tryz.isAgg224
  z85 := Tryz.sizeOf224
  v85 := Tryz.zeroValue224
  t127 := Tryz.underlying172
  a127 := Tryz.isAgg172
  z127 := Tryz.sizeOf172
  v127 := Tryz.zeroValue172
  t143 := Tryz.underlying238
  a143 := Tryz.isAgg238
  z143 := Tryz.sizeOf238
  v143 := Tryz.zeroValue238
  t145 := Tryz.underlying240
  a145 := Tryz.isAgg240
  z145 := Tryz.sizeOf240
  v145 := Tryz.zeroValue240
  t167 := Tryz.underlying223
  a167 := Tryz.isAgg223
  z167 := Tryz.sizeOf223
  v167 := Tryz.zeroValue223
  t168 := Tryz.underlying226
  a168 := Tryz.isAgg226
  z168 := Tryz.sizeOf226
  v168 := Tryz.zeroValue226
  t171 := Tryz.underlying212
  a171 := Tryz.isAgg212
  z171 := Tryz.sizeOf212
  v171 := Tryz.zeroValue212
  t173 := Tryz.underlying216
  a173 := Tryz.isAgg216
  z173 := Tryz.sizeOf216
  v173 := Tryz.zeroValue216
  t175 := Tryz.underlying230
  a175 := Tryz.isAgg230
  z175 := Tryz.sizeOf230
  v175 := Tryz.zeroValue230
  t210 := Tryz.underlying233
  a210 := Tryz.isAgg233
  z210 := Tryz.sizeOf233
  v210 := Tryz.zeroValue233
  t212 := Tryz.underlying220
  a212 := Tryz.isAgg220
  z212 := Tryz.sizeOf220
  v212 := Tryz.zeroValue220
  t213 := Tryz.underlying221
  a213 := Tryz.isAgg221
  z213 := Tryz.sizeOf221
  t232 := Tryz.underlying235
  a232 := Tryz.isAgg235
  z232 := Tryz.sizeOf235
  v232 := Tryz.zeroValue235
  t233 := Tryz.underlying236
  a233 := Tryz.isAgg236
  z233 := Tryz.sizeOf236
  v233 := Tryz.zeroValue236
  g15 := by kernel_rfl
  g16 := by kernel_rfl
  g17 := by kernel_rfl
  g18 := by kernel_rfl
  g19 := by kernel_rfl
  t80 := Tryz.underlying78
  a80 := Tryz.isAgg78
  z80 := Tryz.sizeOf78
  v80 := Tryz.zeroValue78
  i0 := by kernel_rfl
  i2 := by kernel_rfl
  i3 := by kernel_rfl
  i4 := by kernel_rfl
  i5 := by kernel_rfl
  i9 := by kernel_rfl
  i20 := by kernel_rfl
  i21 := by kernel_rfl
  i37 := by kernel_rfl
  i46 := by kernel_rfl
  i51 := by kernel_rfl
  i53 := by kernel_rfl
  i75 := by kernel_rfl
  i76 := by kernel_rfl
  i80 := by kernel_rfl
  i85 := by kernel_rfl
  i127 := by kernel_rfl
  i143 := by kernel_rfl
  i145 := by kernel_rfl
  i167 := by kernel_rfl
  i168 := by kernel_rfl
  i171 := by kernel_rfl
  i173 := by kernel_rfl
  i175 := by kernel_rfl
  i210 := by kernel_rfl
  i212 := by kernel_rfl
  i232 := by kernel_rfl
  i233 := by kernel_rfl
  m15 := by kernel_rfl
  m16 := by kernel_rfl
  m17 := by kernel_rfl
  m18 := by kernel_rfl
  m19 := by kernel_rfl
  c0 := by kernel_rfl
  c2 := by kernel_rfl
  c3 := by kernel_rfl
  c4 := by kernel_rfl
  c5 := by kernel_rfl
  c9 := by kernel_rfl
  c20 := by kernel_rfl
  c21 := by kernel_rfl
  c37 := by kernel_rfl
  c46 := by kernel_rfl
  c51 := by kernel_rfl
  c53 := by kernel_rfl
  c75 := by kernel_rfl
  c76 := by kernel_rfl
  c80 := by kernel_rfl
  c85 := by kernel_rfl
  c127 := by kernel_rfl
  c143 := by kernel_rfl
  c145 := by kernel_rfl
  c167 := by kernel_rfl
  c168 := by kernel_rfl
  c171 := by kernel_rfl
  c173 := by kernel_rfl
  c175 := by kernel_rfl
  c210 := by kernel_rfl
  c212 := by kernel_rfl
  c213 := by kernel_rfl
  c232 := by kernel_rfl
  c233 := by kernel_rfl }
open Go.RowKit in
theorem Tryz.strconv_Atoi_ok (s : ByteArray) (hmax : s.size ≤ 9223372036854775806) (v : Int) (h : Lib.atoiAll s.data.toList = .ok v) (w : World) :
    Calls Tryz.prog 154 #[.string s] w fun e w' => e = .returned (.tuple #[.int .i64 v, .nilIface]) ∧ (w' = w ∨ ∃ t, w' = Lib.bytesWorld w 5 t) := Any.strconv_Atoi_ok Tryz.laysC172 s hmax v h w
open Go.RowKit in
theorem Tryz.strconv_Atoi_syntax (s : ByteArray) (hlim : s.size ≤ 281474976710656) (h : Lib.atoiAll s.data.toList = Lib.atoiAll []) (ev : Value) (w : World) (hv : w.cell? ⟨4, 0, none⟩ = some ev) (hev : ev = .nilIface ∨ ∃ te pe, ev = .iface te pe) :
    Calls Tryz.prog 154 #[.string s] w fun e w' => ∃ N, e = .returned (.tuple #[.int .i64 (0), .iface 226 (.pointer (some ⟨N, 0, none⟩))]) ∧ w.heap.size ≤ N ∧ w'.heap[N]? = some (.cells #[.string ⟨#[65, 116, 111, 105]⟩, .string s, ev] 233 (0, 0)) ∧ Below w.heap.size w w' := Any.strconv_Atoi_syntax Tryz.laysC172 s hlim h ev w hv hev
open Go.RowKit in
def Tryz.lays145_ren : Go.Shelf.Ren := ⟨fun | 145 => 34 | 220 => 75 | 219 => 110 | 217 => 134 | 225 => 135 | 224 => 136 | 267 => 137 | 266 => 146 | 314 => 147 | n => n, fun | 9 => 9 | 4 => 4 | 59 => 89 | 3 => 3 | 5 => 5 | 46 => 193 | 146 => 203 | 51 => 202 | n => n, fun | 1 => 0 | n => n⟩
theorem Tryz.lays145 : Go.Proofs.Lays.n145 Tryz.prog Tryz.lays145_ren := {
  mixed := by kernel_rfl
  f145 := Tryz.func34.trans (congrArg some (by kernel_rfl))
  f217 := Tryz.func134.trans (congrArg some (by kernel_rfl))
  f219 := Tryz.func110.trans (congrArg some (by kernel_rfl))
  f220 := Tryz.func75.trans (congrArg some (by kernel_rfl))
  f224 := Tryz.func136.trans (congrArg some (by kernel_rfl))
  f225 := Tryz.func135.trans (congrArg some (by kernel_rfl))
  f266 := Tryz.func146.trans (congrArg some (by kernel_rfl))
  f267 := Tryz.func137.trans (congrArg some (by kernel_rfl))
  f314 := Tryz.func147.trans (congrArg some (by kernel_rfl))
  t3 := Tryz.underlying3
  a3 := Tryz.isAgg3
  z3 := Tryz.sizeOf3
  v3 := Tryz.zeroValue3
  t4 := Tryz.underlying4
  a4 := Tryz.isAgg4
  z4 := Tryz.sizeOf4
  v4 := Tryz.zeroValue4
  t5 := Tryz.underlying5
  a5 := Tryz.isAgg5
  z5 := Tryz.sizeOf5
  v5 := Tryz.zeroValue5
  t9 := Tryz.underlying9
  a9 := Tryz.isAgg9
  z9 := Tryz.sizeOf9
  v9 := Tryz.zeroValue9
  t46 := Tryz.underlying193
  a46 := Tryz.isAgg193
  z46 := Tryz.sizeOf193
  v46 := Tryz.zeroValue193
  t51 := Tryz.underlying202
  a51 := Tryz.isAgg202
  z51 := Tryz.sizeOf202
  v51 := Tryz.zeroValue202
  t59 := Tryz.underlying89
  a59 := Tryz.isAgg89
  z59 := Tryz.sizeOf89
  v59 := Tryz.zeroValue89
  t146 := Tryz.underlying203
  a146 := Tryz.isAgg203
  z146 := Tryz.sizeOf203
  v146 := Tryz.zeroValue203
  g1 := by kernel_rfl }
open Go.RowKit Go.Lib in
theorem Tryz.strings_Cut (s sep : ByteArray) (m : Int) (w : World) (hs : s.size < 4294967281) (hm : w.cell? ⟨0, 0, none⟩ = some (.int .i64 m)) :
    Calls Tryz.prog 34 #[.string s, .string sep] w fun e w' => e = .returned (.tuple #[.string ⟨(Lib.cut s.data.toList sep.data.toList).1.toArray⟩, .string ⟨(Lib.cut s.data.toList sep.data.toList).2.1.toArray⟩, .bool (Lib.cut s.data.toList sep.data.toList).2.2]) ∧ ∃ n, w' = w.drewN n := Any.strings_Cut Tryz.lays145 s sep m w hs hm
end Go.Proofs
namespace Go.Proofs.YtcclgodahlinbaaGreatDoor
open Go.RowKit Go
set_option maxRecDepth 100000
theorem below_drewN (w : World) (n : Nat) : Below w.heap.size w (w.drewN n) := ⟨rfl, rfl, rfl, Nat.le_refl _, fun _ _ => rfl⟩
theorem size_mk (l : List UInt8) : (⟨l.toArray⟩ : ByteArray).size = l.length := by show l.toArray.size = _; simp
structure Glob (w : World) : Prop where
  ml : ∃ m, w.cell? ⟨0, 0, none⟩ = some (.int .i64 m)
  es : ∃ ev, w.cell? ⟨4, 0, none⟩ = some ev ∧ (ev = .nilIface ∨ ∃ te pe, ev = .iface te pe)
  sz : 5 ≤ w.heap.size
theorem Glob.below {w w' : World} {N : Nat} (h : Glob w) (hb : Below N w w') (hN : 5 ≤ N) (hs : w.heap.size ≤ w'.heap.size) : Glob w' := by
  obtain ⟨m, hm⟩ := h.ml
  obtain ⟨ev, he, hc⟩ := h.es
  have := h.sz
  exact ⟨⟨m, (hb.cell (p := ⟨0, 0, none⟩) (by show 0 < N; omega)).trans hm⟩, ⟨ev, (hb.cell (p := ⟨4, 0, none⟩) (by show 4 < N; omega)).trans he, hc⟩, by omega⟩
end Go.Proofs.YtcclgodahlinbaaGreatDoor
namespace Go.Proofs.YtcclgodahlinbaaGreatDoor
open Go.RowKit Go
set_option maxRecDepth 100000
theorem hb_trans3 {w w1 w2 w3 : World} (h1 : Below w.heap.size w w1) (h2 : Below w1.heap.size w1 w2) (h3 : Below w2.heap.size w2 w3) : Below w.heap.size w w3 :=
  (h1.trans (h2.mono h1.size)).trans (h3.mono (by have := h1.size; have := h2.size; omega))
abbrev hunk0 : Obj := .cells #[.int .i64 0, .int .i64 0, .int .i64 0, .int .i64 0, .slice none 0 0] 61 (0, 0)
theorem set5 {W : World} {g : Nat} {a0 a1 a2 a3 a4 : Value} {t : TypeId} (h : W.heap[g]? = some (.cells #[a0, a1, a2, a3, a4] t (0, 0))) (ob : Obj) (v0 v1 v2 v3 v4 : Value) :
    ((((((W.setCell ⟨g, 0, none⟩ v0).setCell ⟨g, 1, none⟩ v1).setCell ⟨g, 2, none⟩ v2).setCell ⟨g, 3, none⟩ v3).setCell ⟨g, 4, none⟩ v4).alloc ob).heap[g]? = some (.cells #[v0, v1, v2, v3, v4] t (0, 0)) :=
  (Below.heap_alloc _ ob g (by have := (Array.getElem?_eq_some_iff.1 h).1; simpa using this)).trans (heap_setCell_same _ _ _ _ _ _ _ (heap_setCell_same _ _ _ _ _ _ _ (heap_setCell_same _ _ _ _ _ _ _ (heap_setCell_same _ _ _ _ _ _ _ (heap_setCell_same _ _ _ _ _ _ _ h)))))
end Go.Proofs.YtcclgodahlinbaaGreatDoor
namespace Go.Proofs.YtcclgodahlinbaaGreatDoor
open Go.RowKit Go
set_option maxRecDepth 100000
theorem wpList_append_own2 {P : Program} {ops : Array Oper} {rest : List Oper} {o : Oper} {a : Act} {w : World} {Q : Exit → Act → World → Prop} (hgd : o.guard = none) (s x : Operand) (t : TypeId)
    (ho : o.op = .call { callee := .builtin .append, args := #[s, x], argTypes := #[t, t] })
    (base : Nat) (e : TypeId) (i : TypeInfo) (z : Value) (size bytes : Nat) (ht : P.underlying t = some (.slice e)) (hi : P.info? e = some i) (hz : i.zero = some z)
    (hsize : i.size = size) (hby : i.bytes = bytes) (hzs : z.cells.size = size) (hsz : 0 < size)
    (v : Value) (n : Nat) (xs : List Value) (hs : a.eval s = v) (hown : w.ownsRow base e size v n xs)
    (ad : Addr) (m c : Nat) (news : List Value) (hx : a.eval x = .slice (some ad) m c) (hl : news.length = m * size) (hnews : ∀ j u, news[j]? = some u → w.cell? (ad.add j) = some u) (h1 : ∀ u ∈ news, u.oneCell' = true)
    (h63 : n + m ≤ maxLen) (hbytes : (n + m) * bytes ≤ 140737488355328) (hbase : base ≤ w.heap.size)
    (h : ∀ v' w', w'.ownsRow base e size v' (n + m) (xs ++ news) → w.grownBy w' v.ownBlock → (v'.ownBlock = v.ownBlock ∨ ∀ g, v'.ownBlock = some g → w.heap.size ≤ g) → wpList P ops Q rest (a.put o.dst v') w') : wpList P ops Q (o :: rest) a w := by
  refine wpList_plain hgd fun K hK => ?_
  obtain ⟨v', w', hr, r1, r2, r3⟩ := run_append_own2 (P := P) w base t o.type e i z size bytes ht hi hz hsize hby hzs hsz v n xs hown ad m c news hl hnews h1 h63 hbytes hbase
  unfold Oper.wp execOp
  simp only [ho, resolve, invoke, builtin, Sem.run_bind, Sem.run_pure, Result.andThen_ok, List.map_toArray, List.map_cons, List.map_nil, hs, hx, hr]
  exact hK _ _ (h v' w' r1 r2 r3)
def strCells (l : List ByteArray) : List Value := l.map fun s => .string s
theorem strCells_append (a b : List ByteArray) : strCells (a ++ b) = strCells a ++ strCells b := by simp [strCells]
theorem info_str : (Tryz.prog.info? 9).map (fun i => (i.zero, i.size, i.bytes)) = some (some (.string ByteArray.empty), 1, 16) := by kernel_rfl
theorem Strs.of_owns {base : Nat} {w : World} {v : Value} {l : List ByteArray} (h : w.ownsRow base 9 1 v l.length (strCells l)) : Strs w.heap.size w v l := by
  by_cases h0 : l.length = 0
  · have : l = [] := List.eq_nil_of_length_eq_zero h0
    subst this
    rcases h.2 with ⟨e, _⟩ | ⟨g, cap, cur, e, _⟩
    · exact .inl ⟨rfl, _, _, e⟩
    · exact .inl ⟨rfl, _, _, e⟩
  · obtain ⟨g, cap, rfl, _, hg, _⟩ := owns_slice h (by omega)
    refine .inr ⟨g, 0, cap, rfl, hg, fun i hi => ?_⟩
    obtain ⟨hl, hr⟩ := h
    rcases hr with ⟨e, _⟩ | ⟨g', cap', cur, e, hb, hg', h1, h2, h3, h4⟩
    · cases e
    · cases e
      have a : (strCells l)[i]? = some (.string (l.getD i ByteArray.empty)) := by simp [strCells, List.getD, hi]
      rw [← h4, List.getElem?_take] at a
      rw [Nat.zero_add]
      split at a
      · exact cell_of hg' (by simpa using a)
      · cases a
end Go.Proofs.YtcclgodahlinbaaGreatDoor
namespace Go.Proofs.YtcclgodahlinbaaGreatDoor
open Go.RowKit Go
set_option maxRecDepth 100000
theorem owns_isSlice {w : World} {base e size : Nat} {v : Value} {n : Nat} {xs : List Value} (h : w.ownsRow base e size v n xs) : ∃ a c, v = .slice a n c := by
  rcases h.2 with ⟨e, h0⟩ | ⟨g, cap, cur, e, _⟩
  · exact ⟨none, 0, by rw [e, h0]⟩
  · exact ⟨_, _, e⟩
theorem cells_new' {W : World} {n : Nat} (h : W.heap.size = n) (cs : List Value) (T : TypeId) : ∀ (j : Nat) (u : Value), cs[j]? = some u → (W.alloc (.cells cs.toArray T)).cell? ((⟨n, 0, none⟩ : Addr).add j) = some u := by subst h; exact cells_new W cs T
end Go.Proofs.YtcclgodahlinbaaGreatDoor
namespace Go.Proofs.YtcclgodahlinbaaGreatDoor
open Go.RowKit Go
set_option maxRecDepth 100000
theorem info_byte : (Tryz.prog.info? 5).map (fun i => (i.zero, i.size, i.bytes)) = some (some (.int .u8 0), 1, 1) := by kernel_rfl
theorem size_builder : (Tryz.prog.info? 74).map (·.size) = some 2 := by kernel_rfl
theorem owns_kind {w : World} {B : Nat} {e size : TypeId} {v : Value} {n : Nat} {xs : List Value} (h : w.ownsRow B e size v n xs) : ∀ g, v.ownBlock = some g → ∃ c fz, w.heap[g]? = some (.cells c e fz) := by
  intro g hg
  obtain ⟨cur, hc⟩ := owns_block h hg
  exact ⟨cur, _, hc⟩
end Go.Proofs.YtcclgodahlinbaaGreatDoor
namespace Go.Proofs.YtcclgodahlinbaaGreatDoor
open Go.RowKit Go
set_option maxRecDepth 100000
def textL (l : List ByteArray) : List UInt8 := l.flatMap fun s => s.data.toList ++ [10]
end Go.Proofs.YtcclgodahlinbaaGreatDoor
namespace Go.Proofs.YtcclgodahlinbaaGreatDoor
open Go.RowKit Go
set_option maxRecDepth 100000
structure BldM (S : Nat) (ad vb : Value) (bs : List Value) (w : World) : Prop where
  blk : w.heap[S]? = some (.cells #[ad, vb] 74 (0, 0))
  adr : ad = .pointer none ∨ ad = .pointer (some ⟨S, 0, none⟩)
  own : w.ownsRow (S + 1) 5 1 vb bs.length bs
theorem lies_bld : liesAt Tryz.prog Tryz.prog.depth 74 (2 / Tryz.prog.cellsOf 74) 0 74 1 = true := by kernel_rfl
theorem BldM.lt {S : Nat} {ad vb : Value} {bs : List Value} {w : World} (h : BldM S ad vb bs w) : S < w.heap.size := (Array.getElem?_eq_some_iff.1 h.blk).1
theorem BldM.ne {S : Nat} {ad vb : Value} {bs : List Value} {w : World} (h : BldM S ad vb bs w) : vb.ownBlock ≠ some S := owns_ne h.own h.blk (by decide)
theorem BldM.set1 {S : Nat} {ad vb : Value} {bs : List Value} {w : World} (h : BldM S ad vb bs w) : BldM S (.pointer (some ⟨S, 0, none⟩)) vb bs (w.setCell ⟨S, 0, none⟩ (.pointer (some ⟨S, 0, none⟩))) :=
  ⟨heap_setCell_same _ _ _ _ _ _ _ h.blk, .inr rfl, h.own.kept (grownBy_setCell _ _ _ _) (.inr h.ne)⟩
set_option maxHeartbeats 1000000 in
theorem copyCheck_bld {S : Nat} {ad vb : Value} {bs : List Value} {w : World} (h : BldM S ad vb bs w) :
    Calls Tryz.prog 108 #[.pointer (some ⟨S, 0, none⟩)] w fun e w' => e = .returned (.tuple #[]) ∧ BldM S (.pointer (some ⟨S, 0, none⟩)) vb bs w' ∧ Below S w w' ∧ Lib.OthersKept 5 (some S) w w' := by
  obtain ⟨j, hj, hjs⟩ := Option.map_eq_some_iff.1 size_builder
  have c1 : w.cell? ⟨S, 0, none⟩ = some ad := cell_of h.blk rfl
  have hsh : w.shape? S = some (74, 2) := by simp [World.shape?, h.blk]
  have hfz : w.frozen? ⟨S, 0, none⟩ = false := frozen_of h.blk
  rcases h.adr with rfl | rfl
  · go_enter Tryz.func108, Tryz.ntmps108
    go_wp2_with fail
    rw [Lib.run_to_unsafe w ⟨S, 0, none⟩ Tryz.underlying71 Tryz.underlying190 hj (by rw [hjs]; decide) hsh (by show 0 < 2; decide)]
    simp only [Result.andThen]
    rw [Oper.upon_value]
    go_wp2_with fail
    rw [run_callFunc_extern Tryz.func132 (by kernel_rfl) (by kernel_rfl) (by kernel_rfl) (e := Extern.AbiNoEscape.same) (by kernel_rfl)]
    rw [Lib.run_noEscape]
    simp only [Result.andThen]
    rw [Oper.upon_value]
    go_wp2
    rw [Lib.run_from_unsafe w ⟨S, 0, none⟩ Tryz.underlying190 Tryz.underlying71 hj hsh lies_bld]
    simp only [Result.andThen]
    rw [Oper.upon_value]
    go_wp2
    go_end0
    exact ⟨rfl, h.set1, (Below.refl _ w).setCell (p := ⟨S, 0, none⟩) (Nat.le_refl _) _, (Lib.OthersKept.refl _ _ w).setCell ⟨S, 0, none⟩ rfl _⟩
  · go_enter Tryz.func108, Tryz.ntmps108
    go_wp2
    rw [Lib.run_neq_ptr_same w _ Tryz.underlying71 hj]
    go_wp2
    go_end0
    exact ⟨rfl, h, Below.refl _ _, Lib.OthersKept.refl _ _ _⟩
theorem BldM.put2 {S : Nat} {ad vb : Value} {bs bs' : List Value} {w w2 : World} (h : BldM S ad vb bs w) (hb : w2.heap[S]? = w.heap[S]?) {vb' : Value} (hown : w2.ownsRow (S + 1) 5 1 vb' bs'.length bs') :
    BldM S ad vb' bs' (w2.setCell ⟨S, 1, none⟩ vb') := by
  have hb2 := hb.trans h.blk
  exact ⟨heap_setCell_same _ _ _ _ _ _ _ hb2, h.adr, hown.kept (grownBy_setCell _ _ _ _) (.inr (owns_ne hown hb2 (by decide)))⟩
set_option maxHeartbeats 2000000 in
theorem writeString_bld {S : Nat} {ad vb : Value} {bs : List Value} {w : World} (s : ByteArray) (h : BldM S ad vb bs w) (hlen : bs.length + s.size ≤ 140737488355328) :
    Calls Tryz.prog 71 #[.pointer (some ⟨S, 0, none⟩), .string s] w fun e w' => e = .returned (.tuple #[.int .i64 s.size, .nilIface]) ∧ ∃ vb', BldM S (.pointer (some ⟨S, 0, none⟩)) vb' (bs ++ Lib.strCells s) w' ∧ Below S w w' ∧ Lib.OthersKept 5 (some S) w w' := by
  obtain ⟨i0, hi, hz0, hz1, hz2⟩ := info_parts info_byte
  have hlt := h.lt
  go_enter Tryz.func71, Tryz.ntmps71
  go_wp2_with (go_at_call 108; refine (copyCheck_bld h).mono ?_)
  rintro e w1 ⟨rfl, h1, hb1, hk1⟩
  have hz := hb1.size
  have hlt1 := h1.lt
  have c2 : w1.cell? ⟨S, 1, none⟩ = some vb := cell_of h1.blk rfl
  go_wp2_with (at_builtin; refine Lib.wpList_append_own_string _ rfl _ _ 72 9 rfl (S + 1) 5 i0 Tryz.underlying72 Tryz.underlying9 hi hz0 hz1 hz2 _ _ _ rfl h1.own s rfl (by unfold maxLen; omega) (by omega) (by omega) ?_)
  intro vb' w2 hown' hgrow _
  have hb2 : w2.heap[S]? = w1.heap[S]? := hgrow.block S hlt1 (fun e => h1.ne e.symm)
  have d2 : w2.cell? ⟨S, 1, none⟩ = some vb := cell_of (hb2.trans h1.blk) rfl
  have f2 : w2.frozen? ⟨S, 1, none⟩ = false := frozen_of (hb2.trans h1.blk)
  obtain ⟨ab, cb, rfl⟩ := owns_isSlice hown'
  go_wp2
  go_ret2
  refine ⟨rfl, _, h1.put2 hb2 (bs' := bs ++ Lib.strCells s) (by simpa [Lib.strCells_length] using hown'), ?_, (hk1.grown hgrow (owns_kind h1.own)).setCell ⟨S, 1, none⟩ rfl _⟩
  exact (hb1.grown hgrow (by omega) (fun k hk => by have := (h1.own.lt k hk).1; omega)).setCell (p := ⟨S, 1, none⟩) (Nat.le_refl _) _
set_option maxHeartbeats 1000000 in
theorem bstring_bld {S : Nat} {t : List UInt8} {w : World} (h : ∃ ad vb, BldM S ad vb (Lib.byteCells t) w) :
    Calls Tryz.prog 67 #[.pointer (some ⟨S, 0, none⟩)] w fun e w' => e = .returned (.string ⟨t.toArray⟩) ∧ Below S w w' ∧ Lib.OthersKept 5 (some S) w w' := by
  obtain ⟨ad, vb, h⟩ := h
  have hlt := h.lt
  have hUN := fun (W : World) (q : Option Addr) => Lib.run_unsafeString_none (P := Tryz.prog) W 172 3 9 q
  have c2 : w.drew.cell? ⟨S, 1, none⟩ = some vb := cell_of (w := w.drew) h.blk rfl
  have hown := h.own
  rw [Lib.byteCells_length] at hown
  rcases hown.2 with ⟨rfl, h0⟩ | ⟨g, cap, cur, rfl, hbg, hg, hnc, hcm, hcs, htake⟩
  · obtain rfl : t = [] := List.eq_nil_of_length_eq_zero h0
    have hSD : (Builtin.unsafeSliceData_ #[72] 172 #[.slice none 0 0]).run Tryz.prog w.drew = .ok (.pointer none) w.drew := rfl
    go_enter Tryz.func67, Tryz.ntmps67
    go_wp2
    go_region
    all_goals (go_wp2; go_ret; exact ⟨rfl, Below.drew (Below.refl S w), (Lib.OthersKept.refl _ _ w).drew⟩)
  · by_cases ht0 : t = []
    · subst ht0
      by_cases hc0 : cap = 0
      · subst hc0
        have hSD : (Builtin.unsafeSliceData_ #[72] 172 #[.slice (some ⟨g, 0, none⟩) 0 0]).run Tryz.prog w.drew = .ok (.pointer (some ⟨w.heap.size, 0, none⟩)) (w.drew.alloc (.view ⟨g, 0, none⟩ 5)) :=
          Lib.run_unsafeSliceData_zero w.drew _ _ _ Tryz.underlying172 _ _ (5, cur.size) (by have hg' : w.drew.heap[g]? = some (.cells cur 5 (0, 0)) := hg; simp [World.shape?, hg'])
        have c2w : w.cell? ⟨S, 1, none⟩ = some (.slice (some ⟨g, 0, none⟩) 0 0) := c2
        have c2' : (w.drew.alloc (.view ⟨g, 0, none⟩ 5)).cell? ⟨S, 1, none⟩ = some (.slice (some ⟨g, 0, none⟩) 0 0) := (World.cell?_of_block (Below.heap_alloc w.drew _ S hlt)).trans c2
        go_enter Tryz.func67, Tryz.ntmps67
        go_wp2
        go_region
        all_goals (go_wp2; go_ret; exact ⟨rfl, ((Below.refl S w).drew).alloc (by show S ≤ w.heap.size; omega) _, ((Lib.OthersKept.refl _ _ w).drew).alloc _⟩)
      · have hSD : (Builtin.unsafeSliceData_ #[72] 172 #[.slice (some ⟨g, 0, none⟩) 0 cap]).run Tryz.prog w.drew = .ok (.pointer (some ⟨g, 0, none⟩)) w.drew := Lib.run_unsafeSliceData_row _ _ _ _ _ _ (by omega)
        go_enter Tryz.func67, Tryz.ntmps67
        go_wp2
        go_region
        all_goals (go_wp2; go_ret; exact ⟨rfl, (Below.refl S w).drew, (Lib.OthersKept.refl _ _ w).drew⟩)
    · have hl0 : t.length ≠ 0 := by simpa using ht0
      have hSD : (Builtin.unsafeSliceData_ #[72] 172 #[.slice (some ⟨g, 0, none⟩) t.length cap]).run Tryz.prog w.drew = .ok (.pointer (some ⟨g, 0, none⟩)) w.drew :=
        Lib.run_unsafeSliceData_row _ _ _ _ _ _ (by omega)
      have hUS : (Builtin.unsafeString_ #[172, 3] 9 #[.pointer (some ⟨g, 0, none⟩), .int .i64 t.length]).run Tryz.prog w.drew = .ok (.string ⟨t.toArray⟩) (w.drew.freeze ⟨g, 0, none⟩ t.length) := by
        refine Lib.run_unsafeString_row w.drew 172 3 9 5 Tryz.underlying172 (by kernel_rfl) g cur.size (by have hg' : w.drew.heap[g]? = some (.cells cur 5 (0, 0)) := hg; simp [World.shape?, hg']) t ht0 (by omega) (by unfold maxLen at hcm; omega) ?_
        intro j x hx
        have := hown.cells (g := g) rfl j (.int .u8 x.toNat) (by simp [Lib.byteCells, hx])
        exact this
      go_enter Tryz.func67, Tryz.ntmps67
      go_wp2
      go_region
      all_goals (go_wp2; go_ret; exact ⟨rfl, Lib.below_freeze (Below.drew (Below.refl S w)) (p := ⟨g, 0, none⟩) (by show S ≤ g; omega) _, ((Lib.OthersKept.refl _ _ w).drew).freeze ⟨g, 0, none⟩ _ ⟨cur, _, hg⟩⟩)
end Go.Proofs.YtcclgodahlinbaaGreatDoor
namespace Go.Proofs.YtcclgodahlinbaaGreatDoor
open Go.RowKit Go
set_option maxRecDepth 100000
set_option maxHeartbeats 2000000 in
theorem writeByte_bld {S : Nat} {ad vb : Value} {bs : List Value} {w : World} (c : Int) (h : BldM S ad vb bs w) (hlen : bs.length + 1 ≤ 140737488355328) :
    Calls Tryz.prog 74 #[.pointer (some ⟨S, 0, none⟩), .int .u8 c] w fun e w' => e = .returned .nilIface ∧ ∃ vb', BldM S (.pointer (some ⟨S, 0, none⟩)) vb' (bs ++ [.int .u8 c]) w' ∧ Below S w w' ∧ Lib.OthersKept 5 (some S) w w' := by
  obtain ⟨i0, hi, hz0, hz1, hz2⟩ := info_parts info_byte
  have hlt := h.lt
  have hone : ∀ u ∈ [Value.int .u8 c], u.oneCell' = true := by intro u hu; simp at hu; subst hu; rfl
  go_enter Tryz.func74, Tryz.ntmps74
  go_wp2_with (go_at_call 108; refine (copyCheck_bld h).mono ?_)
  rintro e w1 ⟨rfl, h1, hb1, hk1⟩
  have hz := hb1.size
  have hlt1 := h1.lt
  have c2 : w1.cell? ⟨S, 1, none⟩ = some vb := cell_of h1.blk rfl
  obtain ⟨ab0, cb0, rfl⟩ := owns_isSlice h1.own
  go_wp2_with (at_builtin; refine wpList_append_own _ rfl (.tmp 11) (.tmp 13) 72 rfl (S + 1) 5 i0 _ 1 1 Tryz.underlying72 hi hz0 hz1 hz2 rfl (by decide) (.slice ab0 bs.length cb0) bs.length bs rfl (h1.own.alloc _) ⟨w1.heap.size, 0, none⟩ 1 1 [.int .u8 c] rfl rfl (cells_new w1 _ _) hone (by unfold maxLen; omega) (by omega) (by simp; omega) ?_)
  intro vb' w2 hown' hgrow _
  have hb2 : w2.heap[S]? = w1.heap[S]? := (hgrow.block S (by simp; omega) (fun e => h1.ne e.symm)).trans (Below.heap_alloc _ _ _ hlt1)
  have d2 := (World.cell?_of_block (a := ⟨S, 1, none⟩) hb2).trans c2
  have f2 : w2.frozen? ⟨S, 1, none⟩ = false := frozen_of (hb2.trans h1.blk)
  obtain ⟨ab, cb, rfl⟩ := owns_isSlice hown'
  go_wp2
  go_ret
  refine ⟨rfl, _, h1.put2 hb2 (bs' := bs ++ [.int .u8 c]) (by simpa using hown'), ?_, ((hk1.alloc _).grown hgrow (owns_kind (h1.own.alloc _))).setCell ⟨S, 1, none⟩ rfl _⟩
  exact ((hb1.alloc (by omega) _).grown hgrow (by simp; omega) (fun k hk => by have := (h1.own.lt k hk).1; omega)).setCell (p := ⟨S, 1, none⟩) (Nat.le_refl _) _
set_option maxHeartbeats 1000000 in
theorem bstring_kept {S : Nat} {t : List UInt8} {w : World} (h : ∃ ad vb, BldM S ad vb (Lib.byteCells t) w) :
    Calls Tryz.prog 67 #[.pointer (some ⟨S, 0, none⟩)] w fun e w' => e = .returned (.string ⟨t.toArray⟩) ∧ Below (S + 1) w w' := by
  obtain ⟨ad, vb, h⟩ := h
  have hlt := h.lt
  have hUN := fun (W : World) (q : Option Addr) => Lib.run_unsafeString_none (P := Tryz.prog) W 172 3 9 q
  have c2 : w.drew.cell? ⟨S, 1, none⟩ = some vb := cell_of (w := w.drew) h.blk rfl
  have hown := h.own
  rw [Lib.byteCells_length] at hown
  rcases hown.2 with ⟨rfl, h0⟩ | ⟨g, cap, cur, rfl, hbg, hg, hnc, hcm, hcs, htake⟩
  · obtain rfl : t = [] := List.eq_nil_of_length_eq_zero h0
    have hSD : (Builtin.unsafeSliceData_ #[72] 172 #[.slice none 0 0]).run Tryz.prog w.drew = .ok (.pointer none) w.drew := rfl
    go_enter Tryz.func67, Tryz.ntmps67
    go_wp2
    go_region
    all_goals (go_wp2; go_ret; exact ⟨rfl, Below.drew (Below.refl (S + 1) w)⟩)
  · by_cases ht0 : t = []
    · subst ht0
      by_cases hc0 : cap = 0
      · subst hc0
        have hSD : (Builtin.unsafeSliceData_ #[72] 172 #[.slice (some ⟨g, 0, none⟩) 0 0]).run Tryz.prog w.drew = .ok (.pointer (some ⟨w.heap.size, 0, none⟩)) (w.drew.alloc (.view ⟨g, 0, none⟩ 5)) :=
          Lib.run_unsafeSliceData_zero w.drew _ _ _ Tryz.underlying172 _ _ (5, cur.size) (by have hg' : w.drew.heap[g]? = some (.cells cur 5 (0, 0)) := hg; simp [World.shape?, hg'])
        have c2w : w.cell? ⟨S, 1, none⟩ = some (.slice (some ⟨g, 0, none⟩) 0 0) := c2
        have c2' : (w.drew.alloc (.view ⟨g, 0, none⟩ 5)).cell? ⟨S, 1, none⟩ = some (.slice (some ⟨g, 0, none⟩) 0 0) := (World.cell?_of_block (Below.heap_alloc w.drew _ S hlt)).trans c2
        go_enter Tryz.func67, Tryz.ntmps67
        go_wp2
        go_region
        all_goals (go_wp2; go_ret; exact ⟨rfl, ((Below.refl (S + 1) w).drew).alloc (by show S + 1 ≤ w.heap.size; omega) _⟩)
      · have hSD : (Builtin.unsafeSliceData_ #[72] 172 #[.slice (some ⟨g, 0, none⟩) 0 cap]).run Tryz.prog w.drew = .ok (.pointer (some ⟨g, 0, none⟩)) w.drew := Lib.run_unsafeSliceData_row _ _ _ _ _ _ (by omega)
        go_enter Tryz.func67, Tryz.ntmps67
        go_wp2
        go_region
        all_goals (go_wp2; go_ret; exact ⟨rfl, (Below.refl (S + 1) w).drew⟩)
    · have hl0 : t.length ≠ 0 := by simpa using ht0
      have hSD : (Builtin.unsafeSliceData_ #[72] 172 #[.slice (some ⟨g, 0, none⟩) t.length cap]).run Tryz.prog w.drew = .ok (.pointer (some ⟨g, 0, none⟩)) w.drew :=
        Lib.run_unsafeSliceData_row _ _ _ _ _ _ (by omega)
      have hUS : (Builtin.unsafeString_ #[172, 3] 9 #[.pointer (some ⟨g, 0, none⟩), .int .i64 t.length]).run Tryz.prog w.drew = .ok (.string ⟨t.toArray⟩) (w.drew.freeze ⟨g, 0, none⟩ t.length) := by
        refine Lib.run_unsafeString_row w.drew 172 3 9 5 Tryz.underlying172 (by kernel_rfl) g cur.size (by have hg' : w.drew.heap[g]? = some (.cells cur 5 (0, 0)) := hg; simp [World.shape?, hg']) t ht0 (by omega) (by unfold maxLen at hcm; omega) ?_
        intro j x hx
        have := hown.cells (g := g) rfl j (.int .u8 x.toNat) (by simp [Lib.byteCells, hx])
        exact this
      go_enter Tryz.func67, Tryz.ntmps67
      go_wp2
      go_region
      all_goals (go_wp2; go_ret; exact ⟨rfl, Lib.below_freeze (Below.drew (Below.refl (S + 1) w)) (p := ⟨g, 0, none⟩) (by show S + 1 ≤ g; omega) _⟩)
theorem blen_bld {S : Nat} {ad vb : Value} {bs : List Value} {w : World} (h : BldM S ad vb bs w) :
    Calls Tryz.prog 73 #[.pointer (some ⟨S, 0, none⟩)] w fun e w' => e = .returned (.int .i64 (bs.length : Int)) ∧ w = w' := by
  have c2 : w.cell? ⟨S, 1, none⟩ = some vb := cell_of h.blk rfl
  obtain ⟨ab0, cb0, rfl⟩ := owns_isSlice h.own
  go_enter Tryz.func73, Tryz.ntmps73
  go_wp2
  go_ret
  exact ⟨rfl, rfl⟩
theorem BldM.alloc {S : Nat} {ad vb : Value} {bs : List Value} {w : World} (h : BldM S ad vb bs w) (o : Obj) : BldM S ad vb bs (w.alloc o) :=
  ⟨(Below.heap_alloc w o S h.lt).trans h.blk, h.adr, h.own.alloc o⟩
theorem BldM.below {S : Nat} {ad vb : Value} {bs : List Value} {w w' : World} (h : BldM S ad vb bs w) (hb : Below w.heap.size w w') : BldM S ad vb bs w' :=
  ⟨(hb.block S h.lt).trans h.blk, h.adr, owns_below h.own hb (fun k e => (h.own.lt k e).2)⟩
theorem byteCells_snoc (l : List UInt8) (k : Nat) (h : k < 256) : Lib.byteCells (l ++ [UInt8.ofNat k]) = Lib.byteCells l ++ [.int .u8 (k : Int)] := by
  rw [Lib.byteCells_append]
  have : (UInt8.ofNat k).toNat = k := by simp; omega
  simp [Lib.byteCells, this]
theorem drewN_bld {S n : Nat} {ad vb : Value} {bs : List Value} {w : World} (h : BldM S ad vb bs w) : BldM S ad vb bs (w.drewN n) := ⟨h.blk, h.adr, h.own⟩
end Go.Proofs.YtcclgodahlinbaaGreatDoor
namespace Go.Proofs.YtcclgodahlinbaaGreatDoor
open Go.RowKit Go
set_option maxRecDepth 100000
theorem lineMore_fin {base g n cap : Nat} {init : List HV} {h : HunkM} {vl vl' : Value} {s : StepB} {w w2 w3 : World} (hs : HSv base g n cap (init ++ [(h, vl)]) w)
    (hown : w2.ownsRow base 93 2 vl' (h.lines.length + 1) (stepCells h.lines ++ [.int .u8 (s.kind : Nat), .string s.text]))
    (hold : ∀ k, k < w.heap.size → some k ≠ vl.ownBlock → w2.heap[k]? = w.heap[k]?)
    (hnew : vl'.ownBlock = vl.ownBlock ∨ ∀ k, vl'.ownBlock = some k → w.heap.size ≤ k)
    (hg : w2.grownBy w3 (some g))
    (hw3 : ∀ cur, w2.heap[g]? = some (.cells cur 61 (0, 0)) → cur.toList.take (n * 5) = hunkCells (init ++ [(h, vl)]) → ∃ cur', w3.heap[g]? = some (.cells cur' 61 (0, 0)) ∧ cur'.size = cur.size ∧
      cur'.toList.take (n * 5) = ((((cur.toList.take (n * 5)).set (init.length * 5) (.int .i64 (h.fr : Nat))).set (init.length * 5 + 1) (.int .i64 (h.fc : Nat))).set (init.length * 5 + 2) (.int .i64 (h.tr : Nat)) |>.set (init.length * 5 + 3) (.int .i64 (h.tc : Nat))).set (init.length * 5 + 4) vl') :
    HSv base g n cap (init ++ [({ h with lines := h.lines ++ [s] }, vl')]) w3 := by
  have hn := hs.len
  have hmem : ∀ p ∈ init, w.ownsRow base 93 2 p.2 p.1.lines.length (stepCells p.1.lines) := fun p hp => hs.lines p (by simp [hp])
  have hvl := hs.lines (h, vl) (by simp)
  have hap : ∀ p ∈ init, p.2.ownBlock = none ∨ p.2.ownBlock ≠ vl.ownBlock := by
    have := hs.apart
    rw [List.pairwise_append] at this
    exact fun p hp => this.2.2 p hp (h, vl) (by simp)
  have hgl : ∀ {v : Value} {m : Nat} {xs : List Value} {w' : World}, w'.ownsRow base 93 2 v m xs → (∃ cur, w'.heap[g]? = some (.cells cur 61 (0, 0))) → v.ownBlock ≠ some g := by
    intro v m xs w' ho ⟨cur, hc⟩
    exact owns_ne ho hc (by decide)
  obtain ⟨cur, hcur⟩ := owns_block hs.row (g := g) rfl
  have hgw : g < w.heap.size := (Array.getElem?_eq_some_iff.1 hcur).1
  have hg2 : w2.heap[g]? = w.heap[g]? := hold g hgw (fun e => hgl hvl ⟨cur, hcur⟩ e.symm)
  have hrow2 : w2.ownsRow base 61 5 (.slice (some ⟨g, 0, none⟩) n cap) n (hunkCells (init ++ [(h, vl)])) := by
    obtain ⟨a, b⟩ := hs.row
    refine ⟨a, ?_⟩
    rcases b with b | ⟨g', cap', cur', e, hb, hg', r⟩
    · exact .inl b
    · cases e
      exact .inr ⟨g, cap, cur', rfl, hb, hg2.trans hg', r⟩
  refine ⟨by simp at hn ⊢; exact hn, ?_, ?_, ?_⟩
  · have := owns_setHunk hrow2 hn (i := init.length) (by simp) ({ h with lines := h.lines ++ [s] }, vl') hw3
    simpa using this
  · intro p hp
    rw [List.mem_append] at hp
    rcases hp with hp | hp
    · have ho := hmem p hp
      have ho2 : w2.ownsRow base 93 2 p.2 p.1.lines.length (stepCells p.1.lines) := by
        obtain ⟨a, b⟩ := ho
        refine ⟨a, ?_⟩
        rcases b with b | ⟨g', cap', cur', e, hb, hg', r⟩
        · exact .inl b
        · refine .inr ⟨g', cap', cur', e, hb, (hold g' (Array.getElem?_eq_some_iff.1 hg').1 ?_).trans hg', r⟩
          intro e2
          rcases hap p hp with h3 | h3
          · rw [e] at h3; cases h3
          · exact h3 (by rw [← e2, e]; rfl)
      exact ho2.kept hg (.inr (hgl ho2 ⟨cur, hg2.trans hcur⟩))
    · simp at hp
      subst hp
      have := hown.kept hg (.inr (hgl hown ⟨cur, hg2.trans hcur⟩))
      show World.ownsRow _ _ _ _ _ (h.lines ++ [s]).length (stepCells (h.lines ++ [s]))
      rw [stepCells_append, List.length_append]
      exact this
  · rw [List.pairwise_append]
    have := hs.apart
    rw [List.pairwise_append] at this
    refine ⟨this.1, by simp, fun p hp q hq => ?_⟩
    simp at hq
    subst hq
    rcases hap p hp with h3 | h3
    · exact .inl h3
    · rcases hnew with h4 | h4
      · right; show p.2.ownBlock ≠ vl'.ownBlock; rw [h4]; exact h3
      · cases hb : p.2.ownBlock with
        | none => exact .inl rfl
        | some k =>
          right
          intro e
          have h5 := h4 k e.symm
          have h6 := ((hmem p hp).lt k hb).2
          omega
theorem heap1 {w : World} {g o1 : Nat} {v1 : Value} {cur : Array Value} {t : TypeId} (h : w.heap[g]? = some (.cells cur t (0, 0))) (n : Nat) :
    ∃ cur', (w.setCell ⟨g, o1, none⟩ v1).heap[g]? = some (.cells cur' t (0, 0)) ∧ cur'.size = cur.size ∧ cur'.toList.take n = (cur.toList.take n).set o1 v1 :=
  ⟨_, heap_setCell_same _ _ _ _ _ _ _ h, by simp, by simp [List.take_set]⟩
theorem HSo.last {base : Nat} {v : Value} {hv : List HV} {w : World} (h : HSo base v hv w) {init : List HunkM} {x : HunkM} (e : hv.map (·.1) = init ++ [x]) :
    ∃ g cap i0 vl, v = .slice (some ⟨g, 0, none⟩) (i0.length + 1) cap ∧ base ≤ g ∧ hv = i0 ++ [(x, vl)] ∧ i0.map (·.1) = init ∧ HSv base g (i0.length + 1) cap (i0 ++ [(x, vl)]) w := by
  rcases h with ⟨rfl, _⟩ | ⟨g, cap, rfl, hb, hs⟩
  · simp at e
  · obtain ⟨i0, l0, rfl, e1, e2⟩ := List.map_eq_append_iff.1 e
    obtain ⟨p, rfl, hp⟩ : ∃ p, l0 = [p] ∧ p.1 = x := by
      cases l0 with
      | nil => simp at e2
      | cons p l => cases l with
        | nil => exact ⟨p, rfl, by simpa using e2⟩
        | cons q l => simp at e2
    obtain ⟨p1, p2⟩ := p
    simp only at hp
    subst hp
    have hl : (i0 ++ [(p1, p2)]).length = i0.length + 1 := by simp
    rw [hl] at hs ⊢
    exact ⟨g, cap, i0, p2, rfl, hb, rfl, e1, hs⟩
theorem HSo.below {base : Nat} {v : Value} {hv : List HV} {w w' : World} (h : HSo base v hv w) (hb : Below w.heap.size w w') : HSo base v hv w' := by
  rcases h with h | ⟨g, cap, e, hg, hs⟩
  · exact .inl h
  · exact .inr ⟨g, cap, e, hg, hs.len, owns_below hs.row hb (fun k e => (hs.row.lt k e).2), fun p hp => owns_below (hs.lines p hp) hb (fun k e => ((hs.lines p hp).lt k e).2), hs.apart⟩
theorem RdM.below {S : Nat} {st : Rd} {v : Value} {hv : List HV} {w w' : World} (h : RdM S st v hv w) (hb : Below w.heap.size w w') : RdM S st v hv w' := ⟨(hb.block S h.lt).trans h.blk, h.hso.below hb, h.hs⟩
abbrev rdCells (v : Value) (en : Nat) (gr : Int) (f t : Nat) (b : Bool) : Obj := .cells #[v, .int .i64 (en : Int), .int .i64 gr, .int .i64 (f : Int), .int .i64 (t : Int), .bool b] 88 (0, 0)
abbrev hkCells (h : HunkM) : Obj := .cells #[.int .i64 (h.fr : Int), .int .i64 (h.fc : Int), .int .i64 (h.tr : Int), .int .i64 (h.tc : Int), .slice none 0 0] 61 (0, 0)
end Go.Proofs.YtcclgodahlinbaaGreatDoor
namespace Go.Proofs.YtcclgodahlinbaaGreatDoor
open Go.RowKit Go
set_option maxRecDepth 100000
def revStep (r : List StepB × List StepB) (s : StepB) : List StepB × List StepB :=
  if s.kind = 45 then (r.1, r.2 ++ [⟨43, s.text⟩]) else if s.kind = 43 then (r.1 ++ [⟨45, s.text⟩], r.2) else (r.1 ++ r.2 ++ [⟨32, s.text⟩], [])
def revF (L : List StepB) : List StepB × List StepB := L.foldl revStep ([], [])
def revL (L : List StepB) : List StepB := (revF L).1 ++ (revF L).2
theorem revF_take {L : List StepB} {k : Nat} (h : k < L.length) : revF (L.take (k + 1)) = revStep (revF (L.take k)) L[k] := by
  unfold revF
  rw [List.take_succ_eq_append_getElem h, List.foldl_append]
  rfl
theorem revF_len : ∀ (L : List StepB), (revF L).1.length + (revF L).2.length = L.length := by
  intro L
  have key : ∀ (L : List StepB) (r : List StepB × List StepB), (L.foldl revStep r).1.length + (L.foldl revStep r).2.length = r.1.length + r.2.length + L.length := by
    intro L
    induction L with
    | nil => intro r; simp
    | cons s L ih =>
      intro r
      rw [List.foldl_cons, ih]
      unfold revStep
      split
      · simp; omega
      · split
        · simp; omega
        · simp; omega
  have := key L ([], [])
  simpa [revF] using this
theorem step_one (l : List StepB) : ∀ u ∈ stepCells l, u.oneCell' = true := by
  induction l with
  | nil => simp [stepCells]
  | cons s l ih =>
    intro u hu
    have e : stepCells (s :: l) = .int .u8 (s.kind : Nat) :: .string s.text :: stepCells l := rfl
    rw [e] at hu
    rcases List.mem_cons.1 hu with rfl | hu
    · rfl
    · rcases List.mem_cons.1 hu with rfl | hu
      · rfl
      · exact ih u hu
theorem owns_cut0 {base : Nat} {w : World} {n cap : Nat} {a : Option Addr} {xs : List Value} (h : w.ownsRow base 93 2 (.slice a n cap) n xs) : w.ownsRow base 93 2 (.slice a 0 cap) 0 (stepCells []) := by
  refine ⟨rfl, ?_⟩
  rcases h.2 with ⟨e, _⟩ | ⟨g, cap', cur, e, hbg, hg, hnc, hcm, hcs, htake⟩
  · cases e; exact .inl ⟨rfl, rfl⟩
  · cases e; exact .inr ⟨g, cap, cur, rfl, hbg, hg, Nat.zero_le _, hcm, hcs, by simp [stepCells]⟩
theorem run_cut0 {a : Option Addr} {n c : Nat} (w : World) :
    (Instr.slice 59 (.slice a n c) none (some (.int .i64 0)) none).run Tryz.prog w = .ok (.slice a 0 c) w := by
  cases a <;> simp [go_sem, Tryz.underlying59]
end Go.Proofs.YtcclgodahlinbaaGreatDoor
namespace Go.Proofs.YtcclgodahlinbaaGreatDoor
open Go.RowKit Go
set_option maxRecDepth 100000
theorem ownBlock_cut (a : Option Addr) (n m c : Nat) : (Value.slice a n c).ownBlock = (Value.slice a m c).ownBlock := by cases a <;> rfl
structure Two (base : Nat) (vt va : Value) (r : List StepB × List StepB) (w : World) : Prop where
  t : w.ownsRow base 93 2 vt r.1.length (stepCells r.1)
  a : w.ownsRow base 93 2 va r.2.length (stepCells r.2)
  ap : va.ownBlock = none ∨ vt.ownBlock ≠ va.ownBlock
theorem Two.below {base : Nat} {vt va : Value} {r : List StepB × List StepB} {w w' : World} (h : Two base vt va r w) (hb : Below w.heap.size w w') : Two base vt va r w' :=
  ⟨owns_below h.t hb (fun k e => (h.t.lt k e).2), owns_below h.a hb (fun k e => (h.a.lt k e).2), h.ap⟩
theorem Two.alloc {base : Nat} {vt va : Value} {r : List StepB × List StepB} {w : World} (h : Two base vt va r w) (o : Obj) : Two base vt va r (w.alloc o) := ⟨h.t.alloc o, h.a.alloc o, h.ap⟩
theorem Two.newT {base : Nat} {vt va vt' : Value} {r : List StepB × List StepB} {w w' : World} (h : Two base vt va r w) {T : List StepB} (ht : w'.ownsRow base 93 2 vt' T.length (stepCells T)) (hg : w.grownBy w' vt.ownBlock)
    (hn : vt'.ownBlock = vt.ownBlock ∨ ∀ g, vt'.ownBlock = some g → w.heap.size ≤ g) : Two base vt' va (T, r.2) w' := by
  refine ⟨ht, h.a.kept hg ?_, ?_⟩
  · rcases h.ap with e | e
    · exact .inl e
    · exact .inr (fun e2 => e e2.symm)
  · rcases h.ap with e | e
    · exact .inl e
    · cases hv : va.ownBlock with
      | none => exact .inl rfl
      | some k =>
        right
        intro e2
        rcases hn with h1 | h1
        · exact e (by rw [← h1, e2, hv])
        · have := h1 k e2
          have := (h.a.lt k hv).2
          omega
theorem Two.newA {base : Nat} {vt va va' : Value} {r : List StepB × List StepB} {w w' : World} (h : Two base vt va r w) {A : List StepB} (ha : w'.ownsRow base 93 2 va' A.length (stepCells A)) (hg : w.grownBy w' va.ownBlock)
    (hn : va'.ownBlock = va.ownBlock ∨ ∀ g, va'.ownBlock = some g → w.heap.size ≤ g) : Two base vt va' (r.1, A) w' := by
  refine ⟨h.t.kept hg ?_, ha, ?_⟩
  · rcases h.ap with e | e
    · cases hv : vt.ownBlock with
      | none => exact .inl rfl
      | some k => right; rw [e]; intro e2; cases e2
    · exact .inr e
  · cases hv : va'.ownBlock with
    | none => exact .inl rfl
    | some k =>
      right
      intro e2
      rcases hn with h1 | h1
      · rcases h.ap with e | e
        · rw [← h1, hv] at e; cases e
        · exact e (by rw [e2, ← h1, hv])
      · have := h1 k hv
        have := (h.t.lt k e2).2
        omega
end Go.Proofs.YtcclgodahlinbaaGreatDoor
namespace Go.Proofs.YtcclgodahlinbaaGreatDoor
open Go.RowKit Go
set_option maxRecDepth 100000
section
variable {P : Program} {ops : Array Oper} {Q : Exit → Act → World → Prop} {md : Region.Mode}
def YieldsIn (P : Program) (ops : Array Oper) (I : World → Prop) (o : Oper) (v : Value) (a : Act) : Prop :=
  Region.wanted o (yielded ops a.tmps) = true ∧ ∀ w, I w → (execOp a.eval o).run P w = .ok (.value v) w
def wpKind (P : Program) (md : Region.Mode) (ops : Array Oper) (Q : Exit → Act → World → Prop) (I : World → Prop) : Nat → Array Bool → Act → World → Prop
  | 0, l, a, w => I w ∧ Region.ready md ops l = [] ∧ Q .normal a w
  | n + 1, l, a, w => I w ∧ (Region.ready md ops l = [] → Q .normal a w) ∧ ∀ i ∈ Region.ready md ops l, wpOp P ops Q i (wpKind P md ops Q I n (l.setIfInBounds i true)) a w
theorem wpKind.world {I : World → Prop} {n : Nat} {l : Array Bool} {a : Act} {w : World} (h : wpKind P md ops Q I n l a w) : I w := by
  cases n with
  | zero => exact h.1
  | succ n => exact h.1
theorem wpKind.any {I : World → Prop} : ∀ {n : Nat} {l : Array Bool} {a : Act} {w : World}, wpKind P md ops Q I n l a w → wpAny P md ops Q n l a w
  | 0, _, _, _, h => h.2
  | _ + 1, _, _, _, h => ⟨h.2.1, fun i hi => wpOp_mono (fun _ _ h' => wpKind.any h') (h.2.2 i hi)⟩
theorem YieldsIn.keeps {I : World → Prop} {o p : Oper} {v : Value} {a : Act} (hs : ∀ cs b, o.op ≠ .select cs b) (hap : ∀ d, p.dst = some d → d ∉ o.looksAt ops) (h : YieldsIn P ops I o v a) (u : Value) : YieldsIn P ops I o v (a.put p.dst u) := by
  refine ⟨(wanted_put o a p.dst u hap).trans h.1, fun w hw => ?_⟩
  rw [execOp_put o hs a p.dst u hap]
  exact h.2 w hw
theorem wpOp_swap {I : World → Prop} {j : Nat} {o p : Oper} {v : Value} (hj : ops[j]? = some p) (hap : o.apart ops p = true) (hso : ∀ cs b, o.op ≠ .select cs b) (hsp : ∀ cs b, p.op ≠ .select cs b)
    (hQ : ∀ c a w, Q (.panic c) (a.put o.dst v) w → Q (.panic c) a w) {K : Act → World → Prop} {a : Act} {w : World} (hy : YieldsIn P ops I o v a) (h : wpOp P ops Q j K (a.put o.dst v) w) :
    wpOp P ops Q j (fun a' w' => YieldsIn P ops I o v a' ∧ K (a'.put o.dst v) w') a w := by
  obtain ⟨h1, h2, h3⟩ := Oper.apart_spec hap
  have hk := fun u => hy.keeps (p := p) hso h3 u
  unfold wpOp at h ⊢
  simp only [hj] at h ⊢
  rw [wanted_put p a o.dst v h1] at h
  by_cases hw : Region.wanted p (yielded ops a.tmps) = true
  · rw [if_pos hw] at h ⊢
    have hx := execOp_put p hsp a o.dst v h1
    rcases h with h | ⟨q1, q2⟩
    · left
      unfold Oper.wp at h ⊢
      rw [hx] at h
      cases hr : (execOp a.eval p).run P w with
      | halt x w' =>
        rw [hr] at h
        cases x <;> simp only [Oper.upon] at h ⊢
        exact hQ _ _ _ h
      | ok n w' =>
        rw [hr] at h
        cases n with
        | value u => exact ⟨hk u, by rw [← Act.put_comm a v u h2]; exact h⟩
        | skip => exact ⟨hk undef, by rw [← Act.put_comm a v undef h2]; exact h⟩
        | defer d =>
          simp only [Oper.upon] at h ⊢
          have hk2 : YieldsIn P ops I o v ({ a with defers := d :: a.defers }) := hy
          exact ⟨hk2.keeps (p := p) hso h3 undef, by rw [← Act.put_comm _ v undef h2, ← Act.put_defers]; exact h⟩
        | enter f args =>
          simp only [Oper.upon] at h ⊢
          refine h.mono fun e w'' he => ?_
          cases e with
          | returned u => exact ⟨hk u, by rw [← Act.put_comm a v u h2]; exact he⟩
          | panicked c => exact hQ _ _ _ he
          | outgrown => exact he
        | row r args =>
          simp only [Oper.upon] at h ⊢
          exact Rows.mono h fun u w'' he => ⟨hk u, by rw [← Act.put_comm a v u h2]; exact he⟩
        | _ => simp only [Oper.upon] at h
    · right
      unfold Oper.asks at q1 ⊢
      rw [hx] at q1
      exact ⟨q1, q2⟩
  · rw [if_neg hw] at h ⊢
    exact ⟨hk undef, by rw [← Act.put_comm a v undef h2]; exact h⟩
theorem YieldsIn.op {I : World → Prop} {i : Nat} {o : Oper} {v : Value} {a : Act} {w : World} {K : Act → World → Prop} (hi : ops[i]? = some o) (hy : YieldsIn P ops I o v a) (hw : I w) (h : K (a.put o.dst v) w) : wpOp P ops Q i K a w := by
  unfold wpOp
  simp only [hi]
  rw [if_pos hy.1]
  left
  unfold Oper.wp
  rw [hy.2 w hw]
  exact h
theorem wpKind_first {I : World → Prop} {i : Nat} {o : Oper} {v : Value} (hi : ops[i]? = some o) (hsel : Region.noSelect ops = true) (hQ : ∀ c a w, Q (.panic c) (a.put o.dst v) w → Q (.panic c) a w) :
    ∀ (n : Nat) (l : Array Bool) (a : Act) (w : World), (∀ j p, ops[j]? = some p → j ≠ i → l.getD j true = false → (∀ e ∈ p.after, Region.binds md e = true → e.on ≠ i) → o.apart ops p = true) →
      i ∈ Region.ready md ops l → YieldsIn P ops I o v a → wpKind P md ops Q I n (l.setIfInBounds i true) (a.put o.dst v) w → wpKind P md ops Q I (n + 1) l a w
  | n, l, a, w, hf, hr, hy, h => by
    have hns := Region.noSelect_spec hsel
    refine ⟨h.world, fun h0 => (by rw [h0] at hr; cases hr), fun j hj => ?_⟩
    by_cases hji : j = i
    · subst hji
      exact hy.op hi h.world h
    · have hj2 := ready_mono hj hji
      cases n with
      | zero => rw [h.2.1] at hj2; cases hj2
      | succ n =>
        obtain ⟨hju, p, hp, hall⟩ := mem_ready.1 hj
        have hiu := (mem_ready.1 hr).1
        have hno : ∀ e ∈ p.after, Region.binds md e = true → e.on ≠ i := fun e he hb heq => by
          have h2 := hall e he hb
          rw [heq] at h2
          by_cases hs : i < l.size
          · simp [hs] at hiu h2; rw [hiu] at h2; cases h2
          · simp [Array.getElem?_eq_none (Nat.le_of_not_lt hs)] at h2
        have h2 := wpOp_swap hp (hf j p hp hji hju hno) (fun cs b => hns i o cs b hi) (fun cs b => hns j p cs b hp) hQ hy (h.2.2 j hj2)
        refine wpOp_mono (fun a' w' h3 => wpKind_first hi hsel hQ n _ a' w' (fun k q hk hki hun hno => hf k q hk hki ?_ hno) (ready_mono hr (Ne.symm hji)) h3.1 (by rw [Array.setIfInBounds_comm _ _ hji]; exact h3.2)) h2
        by_cases hjk : j = k
        · subst hjk; exact hju
        · rw [getD_set_ne true hjk] at hun; exact hun
theorem wpKind_take {I : World → Prop} {i : Nat} {o : Oper} {v : Value} {n : Nat} {l : Array Bool} {a : Act} {w : World} (hi : ops[i]? = some o) (hs : Region.noSelect ops = true) (hf : Region.free md ops l i = true) (hr : (Region.ready md ops l).contains i = true)
    (hQ : ∀ c a w, Q (.panic c) (a.put o.dst v) w → Q (.panic c) a w) (hy : YieldsIn P ops I o v a) (h : wpKind P md ops Q I n (l.setIfInBounds i true) (a.put o.dst v) w) : wpKind P md ops Q I (n + 1) l a w :=
  wpKind_first hi hs hQ n l a w (fun j p hj hji hun hno => Region.free_spec hi hf j p hj hji hun hno) (by simpa using hr) hy h
theorem wpKind_one {I : World → Prop} {i : Nat} {n : Nat} {l : Array Bool} {a : Act} {w : World} (hw : I w) (hr : Region.ready md ops l = [i]) (h : wpOp P ops Q i (wpKind P md ops Q I n (l.setIfInBounds i true)) a w) : wpKind P md ops Q I (n + 1) l a w :=
  ⟨hw, fun h0 => (by rw [hr] at h0; cases h0), fun j hj => by rw [hr, List.mem_singleton] at hj; subst hj; exact h⟩
theorem wpOp_call {i : Nat} {o : Oper} {a : Act} {w : World} {K : Act → World → Prop} (hi : ops[i]? = some o) (hg : o.guard = none) (f : FuncId) (xs : Array Operand) (ts : Array TypeId) (hop : o.op = Op.call { callee := Callee.value (.func f), args := xs, argTypes := ts })
    (args : Array Value) (ha : xs.map a.eval = args) (hrun : (callFunc f args).run P w = .ok (.enter f args) w) (R : Value → World → Prop)
    (hc : Calls P f args w fun e w' => ∃ v, e = .returned v ∧ R v w') (hK : ∀ v w', R v w' → K (a.put o.dst v) w') : wpOp P ops Q i K a w := by
  have h := step_call (ops := ops) (Q := Q) (E := True) hg f xs ts hop args ha hrun R hc hK
  have hw : Region.wanted o (yielded ops a.tmps) = true := by simp [Region.wanted, hg]
  rw [if_pos hw] at h
  unfold wpOp
  simp only [hi]
  rw [if_pos hw]
  exact .inl h
theorem wpOp_skip {i : Nat} {o : Oper} {a : Act} {w w' : World} {K : Act → World → Prop} (hi : ops[i]? = some o) (hg : o.guard = none) (hrun : (execOp a.eval o).run P w = .ok .skip w') (hK : K (a.put o.dst undef) w') : wpOp P ops Q i K a w := by
  have hw : Region.wanted o (yielded ops a.tmps) = true := by simp [Region.wanted, hg]
  unfold wpOp
  simp only [hi]
  rw [if_pos hw]
  left
  unfold Oper.wp
  rw [hrun]
  exact hK
theorem wpKind_done {I : World → Prop} {l : Array Bool} {a : Act} {w : World} (hw : I w) (hr : Region.ready md ops l = []) (h : Q .normal a w) : wpKind P md ops Q I 0 l a w := ⟨hw, hr, h⟩
end
end Go.Proofs.YtcclgodahlinbaaGreatDoor
namespace Go.Proofs.YtcclgodahlinbaaGreatDoor
open Go.RowKit Go
set_option maxRecDepth 100000
theorem set5' {W : World} {g : Nat} {a0 a1 a2 a3 a4 : Value} {t : TypeId} (h : W.heap[g]? = some (.cells #[a0, a1, a2, a3, a4] t (0, 0))) (v0 v1 v2 v3 v4 : Value) :
    (((((W.setCell ⟨g, 0, none⟩ v0).setCell ⟨g, 1, none⟩ v1).setCell ⟨g, 2, none⟩ v2).setCell ⟨g, 3, none⟩ v3).setCell ⟨g, 4, none⟩ v4).heap[g]? = some (.cells #[v0, v1, v2, v3, v4] t (0, 0)) :=
  heap_setCell_same _ _ _ _ _ _ _ (heap_setCell_same _ _ _ _ _ _ _ (heap_setCell_same _ _ _ _ _ _ _ (heap_setCell_same _ _ _ _ _ _ _ (heap_setCell_same _ _ _ _ _ _ _ h))))
def revH (h : HunkM) : HunkM := ⟨h.tr, h.tc, h.fr, h.fc, revL h.lines⟩
theorem run_revLines (x : Value) (w : World) : (callFunc 70 #[x]).run Tryz.prog w = .ok (.enter 70 #[x]) w := by kernel_rfl
end Go.Proofs.YtcclgodahlinbaaGreatDoor
