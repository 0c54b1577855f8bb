import Derived.Test.YtcclgodahlinbaaGreatDoorWAddLine
import Derived.Test.YtcclgodahlinbaaGreatDoorWNumber
import Derived.Deep.CutRange
namespace Go.Proofs.YtcclgodahlinbaaGreatDoor
open Go.RowKit Go
set_option maxRecDepth 100000

/-! ### the mirror of hunksOf -/
structure FoldH where
  hs : List HunkM
  og : Nat
  fg : Nat

def newHunk (og fg : Nat) : HunkM := ⟨og, 0, fg, 0, []⟩
def lastAdd (hs : List HunkM) (s : StepB) : List HunkM := match hs.reverse with | [] => [] | h :: t => t.reverse ++ [addL h s]
def stepHs (nb : Bool) (pb : Bool) (s : StepB) (st : FoldH) : List HunkM :=
  if nb = true then lastAdd (if pb = true then st.hs else st.hs ++ [newHunk st.og st.fg]) s else st.hs
/-- the first k steps gone through -/
def foldH (L : List StepB) (nb : List Bool) : Nat → FoldH
  | 0 => ⟨[], 0, 0⟩
  | k + 1 =>
    match L[k]? with
    | none => foldH L nb k
    | some s => ⟨stepHs (nb.getD k false) (decide (0 < k) && nb.getD (k - 1) false) s (foldH L nb k), (foldH L nb k).og + (if s.kind = 43 then 0 else 1), (foldH L nb k).fg + (if s.kind = 45 then 0 else 1)⟩
def hunksM (L : List StepB) (c : Nat) : List HunkM := (foldH L (nearB L c) L.length).hs.map numL

theorem lastAdd_append (l : List HunkM) (h : HunkM) (s : StepB) : lastAdd (l ++ [h]) s = l ++ [addL h s] := by simp [lastAdd]
theorem lastAdd_ne {l : List HunkM} {s : StepB} (h : l ≠ []) : ∃ i x, l = i ++ [x] ∧ lastAdd l s = i ++ [addL x s] := by
  refine ⟨l.dropLast, l.getLast h, (List.dropLast_concat_getLast h).symm, ?_⟩
  conv => lhs; rw [← List.dropLast_concat_getLast h]
  exact lastAdd_append _ _ _

theorem foldH_succ {L : List StepB} {nb : List Bool} {k : Nat} (hk : k < L.length) :
    foldH L nb (k + 1) = ⟨stepHs (nb.getD k false) (decide (0 < k) && nb.getD (k - 1) false) L[k] (foldH L nb k), (foldH L nb k).og + (if L[k].kind = 43 then 0 else 1), (foldH L nb k).fg + (if L[k].kind = 45 then 0 else 1)⟩ := by
  rw [foldH, List.getElem?_eq_getElem hk]

theorem foldH_bounds (L : List StepB) (nb : List Bool) : ∀ k, (foldH L nb k).og ≤ k ∧ (foldH L nb k).fg ≤ k ∧ (foldH L nb k).hs.length ≤ k ∧
    (∀ h ∈ (foldH L nb k).hs, h.fc ≤ k ∧ h.tc ≤ k ∧ h.lines.length ≤ k ∧ h.fr ≤ k ∧ h.tr ≤ k) ∧ (0 < k → k ≤ L.length → nb.getD (k - 1) false = true → (foldH L nb k).hs ≠ []) := by
  intro k
  induction k with
  | zero => simp [foldH]
  | succ k ih =>
    obtain ⟨a, b, c, d, e⟩ := ih
    by_cases hk : k < L.length
    · rw [foldH_succ hk]
      have key : ∀ (l : List HunkM) (s : StepB), (∀ h ∈ l, h.fc ≤ k ∧ h.tc ≤ k ∧ h.lines.length ≤ k ∧ h.fr ≤ k ∧ h.tr ≤ k) → (lastAdd l s).length = l.length ∧ (l ≠ [] → lastAdd l s ≠ []) ∧ ∀ h ∈ lastAdd l s, h.fc ≤ k + 1 ∧ h.tc ≤ k + 1 ∧ h.lines.length ≤ k + 1 ∧ h.fr ≤ k + 1 ∧ h.tr ≤ k + 1 := by
        intro l s hl
        by_cases h0 : l = []
        · subst h0; simp [lastAdd]
        · obtain ⟨i, x, e1, e2⟩ := lastAdd_ne (s := s) h0
          rw [e2]
          subst e1
          refine ⟨by simp, by simp, ?_⟩
          intro h hh
          rw [List.mem_append] at hh
          rcases hh with hh | hh
          · have := hl h (by simp [hh]); omega
          · simp at hh
            subst hh
            have := hl x (by simp)
            simp only [addL, List.length_append, List.length_singleton]
            refine ⟨?_, ?_, by omega, by omega, by omega⟩ <;> split <;> omega
      refine ⟨by simp only; split <;> omega, by simp only; split <;> omega, ?_, ?_, ?_⟩
      · simp only [stepHs]
        split
        · rw [(key _ _ (by
            split
            · exact d
            · intro h hh
              rw [List.mem_append] at hh
              rcases hh with hh | hh
              · exact d h hh
              · simp at hh; subst hh; simp [newHunk]; omega)).1]
          split
          · omega
          · rw [List.length_append, List.length_singleton]; omega
        · omega
      · simp only [stepHs]
        split
        · exact (key _ _ (by
            split
            · exact d
            · intro h hh
              rw [List.mem_append] at hh
              rcases hh with hh | hh
              · exact d h hh
              · simp at hh; subst hh; simp [newHunk]; omega)).2.2
        · intro h hh; have := d h hh; omega
      · intro _ _ hnb
        simp only [stepHs]
        rw [Nat.add_sub_cancel] at hnb
        rw [if_pos hnb]
        refine (key _ _ (by
            split
            · exact d
            · intro h hh
              rw [List.mem_append] at hh
              rcases hh with hh | hh
              · exact d h hh
              · simp at hh; subst hh; simp [newHunk]; omega)).2.1 ?_
        split
        · rename_i hp
          simp at hp
          exact e hp.1 (by omega) hp.2
        · simp
    · have e1 : foldH L nb (k + 1) = foldH L nb k := by rw [foldH, List.getElem?_eq_none (by omega)]
      rw [e1]
      refine ⟨by omega, by omega, by omega, fun h hh => by have := d h hh; omega, fun _ h2 _ => by omega⟩

/-! ### hunks, perhaps none -/
def HSo (base : Nat) (v : Value) (hv : List HV) (w : World) : Prop :=
  (hv = [] ∧ v = .slice none 0 0) ∨ ∃ g cap, v = .slice (some ⟨g, 0, none⟩) hv.length cap ∧ base ≤ g ∧ HSv base g hv.length cap hv w

theorem owns_mono {w : World} {base base' e size n : Nat} {v : Value} {xs : List Value} (h : w.ownsRow base e size v n xs) (hb : base' ≤ base) : w.ownsRow base' e size v n xs := by
  obtain ⟨a, b⟩ := h
  refine ⟨a, ?_⟩
  rcases b with b | ⟨g, cap, cur, e, hg, r⟩
  · exact .inl b
  · exact .inr ⟨g, cap, cur, e, Nat.le_trans hb hg, r⟩
theorem HSo.mono {base base' : Nat} {v : Value} {hv : List HV} {w : World} (h : HSo base v hv w) (hb : base' ≤ base) : HSo base' v hv w := by
  rcases h with h | ⟨g, cap, e, hg, hs⟩
  · exact .inl h
  · exact .inr ⟨g, cap, e, Nat.le_trans hb hg, hs.len, owns_mono hs.row hb, fun p hp => owns_mono (hs.lines p hp) hb, hs.apart⟩
theorem HSv.kept {base g n cap : Nat} {hv : List HV} {w w' : World} {row : Option Nat} (h : HSv base g n cap hv w) (hg : w.grownBy w' row) (hr : ∀ k, row = some k → w.heap.size ≤ k ∨ ∃ cur t fr, w.heap[k]? = some (.cells cur t fr) ∧ t ≠ 61 ∧ t ≠ 93) : HSv base g n cap hv w' := by
  have key : ∀ {e size n : Nat} {v : Value} {xs : List Value}, w.ownsRow base e size v n xs → (e = 61 ∨ e = 93) → v.ownBlock = none ∨ v.ownBlock ≠ row := by
    intro e size n v xs ho he
    cases hv : v.ownBlock with
    | none => exact .inl rfl
    | some k =>
      right
      intro e'
      rcases hr k e'.symm with h1 | ⟨cur, t, fr, hc, h1, h2⟩
      · have := (ho.lt k hv).2; omega
      · obtain ⟨cur', hc'⟩ := owns_block ho hv
        rw [hc] at hc'
        cases hc'
        rcases he with he | he
        · exact h1 he
        · exact h2 he
  exact ⟨h.len, h.row.kept hg (key h.row (.inl rfl)), fun p hp => (h.lines p hp).kept hg (key (h.lines p hp) (.inr rfl)), h.apart⟩
theorem HSo.kept {base : Nat} {v : Value} {hv : List HV} {w w' : World} {row : Option Nat} (h : HSo base v hv w) (hg : w.grownBy w' row) (hr : ∀ k, row = some k → w.heap.size ≤ k ∨ ∃ cur t fr, w.heap[k]? = some (.cells cur t fr) ∧ t ≠ 61 ∧ t ≠ 93) : HSo base v hv w' := by
  rcases h with h | ⟨g, cap, e, hb, hs⟩
  · exact .inl h
  · exact .inr ⟨g, cap, e, hb, hs.kept hg hr⟩
theorem HSo.alloc {base : Nat} {v : Value} {hv : List HV} {w : World} (h : HSo base v hv w) (o : Obj) : HSo base v hv (w.alloc o) := h.kept (World.grownBy_alloc w o none) (fun k e => by cases e)
theorem HSo.drewN {base k : Nat} {v : Value} {hv : List HV} {w : World} (h : HSo base v hv w) : HSo base v hv (w.drewN k) := by
  rcases h with h | ⟨g, cap, e, hb, hs⟩
  · exact .inl h
  · exact .inr ⟨g, cap, e, hb, hs.len, hs.row, hs.lines, hs.apart⟩

theorem info_hunk : (Tryz.prog.info? 61).map (fun i => (i.zero, i.size, i.bytes)) = some (some (.agg #[.int .i64 0, .int .i64 0, .int .i64 0, .int .i64 0, .slice none 0 0]), 5, 56) := by kernel_rfl

theorem HSo.owns {base : Nat} {v : Value} {hv : List HV} {w : World} (h : HSo base v hv w) : w.ownsRow base 61 5 v hv.length (hunkCells hv) := by
  rcases h with ⟨rfl, rfl⟩ | ⟨g, cap, rfl, _, hs⟩
  · exact World.ownsRow_nil _ _ _ _
  · exact hs.row

/-- a hunk more, behind the others -/
theorem HSo.push {base g cap : Nat} {v : Value} {hv : List HV} {w w1 : World} {ob : Obj} (h : HSo base v hv w) (H : HunkM) (hl : H.lines = []) (hgr : (w.alloc ob).grownBy w1 v.ownBlock)
    (hown : w1.ownsRow base 61 5 (.slice (some ⟨g, 0, none⟩) (hv.length + 1) cap) (hv.length + 1) (hunkCells hv ++ hunkCells1 (H, .slice none 0 0))) :
    HSv base g (hv ++ [(H, Value.slice none 0 0)]).length cap (hv ++ [(H, .slice none 0 0)]) w1 := by
  have hlen : (hv ++ [(H, Value.slice none 0 0)]).length = hv.length + 1 := by simp
  refine ⟨rfl, ?_, ?_, ?_⟩
  · rw [hlen, hunkCells_append]; simpa [hunkCells] using hown
  · intro p hp
    rw [List.mem_append] at hp
    rcases hp with hp | hp
    · rcases h with ⟨rfl, _⟩ | ⟨g0, cap0, e, _, hs⟩
      · simp at hp
      · have ho := (hs.lines p hp).alloc ob
        refine ho.kept hgr ?_
        cases hb : p.2.ownBlock with
        | none => exact .inl rfl
        | some k =>
          right
          rw [e]
          intro e2
          obtain ⟨c1, h1⟩ := owns_block (hs.lines p hp) hb
          obtain ⟨c2, h2⟩ := owns_block hs.row (g := g0) rfl
          cases e2
          rw [h1] at h2
          cases h2
    · simp at hp
      subst hp
      rw [hl]
      exact World.ownsRow_nil _ _ _ _
  · rw [List.pairwise_append]
    refine ⟨?_, by simp, fun p _ q hq => ?_⟩
    · rcases h with ⟨rfl, _⟩ | ⟨g0, cap0, e, _, hs⟩
      · exact List.Pairwise.nil
      · exact hs.apart
    · simp at hq; subst hq
      cases p.2.ownBlock with
      | none => exact .inl rfl
      | some k => right; intro e; cases e
end Go.Proofs.YtcclgodahlinbaaGreatDoor
