import Derived.Test.YtcclgodahlinbaaDoorWPick
namespace Go.Proofs.YtcclgodahlinbaaDoor
open Go.RowKit Go
set_option maxRecDepth 100000

theorem diff_at {old fresh : ByteArray} {c : Nat} {m : Int} {w : World} (hch : checkB old fresh c = 0) (h1 : old.size < 4294967281) (h2 : fresh.size < 4294967281) (hm : w.cell? ⟨0, 0, none⟩ = some (.int .i64 m)) :
    Calls Tryd.prog 14 #[.string old, .string fresh, .int .i64 c] w fun e w' =>
      ∃ a cap, e = .returned (.tuple #[.agg #[.slice a (diffM old fresh c).length cap], .int .i64 0]) ∧ HunksAt w'.heap.size w' (.slice a (diffM old fresh c).length cap) (diffM old fresh c) ∧ Below w.heap.size w w' := by
  refine (diff_ok hch h1 h2 hm).mono ?_
  rintro e w' ⟨v, rfl, hv, hso, hmap, hb⟩
  have hH := HunksAt.of_owns hso
  rw [hmap] at hH
  obtain ⟨a, cap, rfl⟩ := hH.slice
  exact ⟨a, cap, rfl, hH, hb⟩

/-- seams in memory -/
def SeamsAt (w : World) (v : Value) (l : List SeamM) : Prop := (l = [] ∧ ∃ a c, v = .slice a 0 c) ∨ ∃ g cap, v = .slice (some ⟨g, 0, none⟩) l.length cap ∧ g < w.heap.size ∧
  ∀ i (h : i < l.length), w.cell? ⟨g, i * 3, none⟩ = some (.bool l[i].done) ∧ w.cell? ⟨g, i * 3 + 1, none⟩ = some (.int .i64 l[i].at') ∧ w.cell? ⟨g, i * 3 + 2, none⟩ = some (.int .i64 (l[i].fz : Nat))
theorem seamCells_length (l : List SeamM) : (seamCells l).length = l.length * 3 := by
  induction l with
  | nil => rfl
  | cons a l ih => have e : seamCells (a :: l) = [.bool a.done, .int .i64 a.at', .int .i64 (a.fz : Nat)] ++ seamCells l := rfl
                   rw [e, List.length_append, ih]; simp; omega
theorem seamCells_get (l : List SeamM) : ∀ i (h : i < l.length), (seamCells l)[i * 3]? = some (.bool l[i].done) ∧ (seamCells l)[i * 3 + 1]? = some (.int .i64 l[i].at') ∧ (seamCells l)[i * 3 + 2]? = some (.int .i64 (l[i].fz : Nat)) := by
  induction l with
  | nil => intro i h; simp at h
  | cons a l ih =>
    intro i h
    have e : seamCells (a :: l) = [.bool a.done, .int .i64 a.at', .int .i64 (a.fz : Nat)] ++ seamCells l := rfl
    rw [e]
    cases i with
    | zero => exact ⟨rfl, rfl, rfl⟩
    | succ i =>
      have := ih i (by simpa using h)
      refine ⟨?_, ?_, ?_⟩
      · rw [List.getElem?_append_right (by simp; omega)]
        simpa [Nat.succ_mul, show (i + 1) * 3 - 3 = i * 3 by omega] using this.1
      · rw [List.getElem?_append_right (by simp; omega)]
        simpa [show (i + 1) * 3 + 1 - 3 = i * 3 + 1 by omega] using this.2.1
      · rw [List.getElem?_append_right (by simp; omega)]
        simpa [show (i + 1) * 3 + 2 - 3 = i * 3 + 2 by omega] using this.2.2
theorem SeamsAt.of_owns {base : Nat} {w : World} {v : Value} {l : List SeamM} (h : w.ownsRow base 53 3 v l.length (seamCells l)) : SeamsAt w v l := by
  rcases h.2 with ⟨e, h0⟩ | ⟨g, cap, cur, e, _, hg, h1, h2, h3, h4⟩
  · exact .inl ⟨List.eq_nil_of_length_eq_zero h0, _, _, e⟩
  · refine .inr ⟨g, cap, e, (Array.getElem?_eq_some_iff.1 hg).1, fun i hi => ?_⟩
    have hget := seamCells_get l i hi
    have key : ∀ j v, (seamCells l)[j]? = some v → w.cell? ⟨g, j, none⟩ = some v := by
      intro j v hj
      rw [← h4, List.getElem?_take] at hj
      split at hj
      · exact cell_of hg (by simpa using hj)
      · cases hj
    exact ⟨key _ _ hget.1, key _ _ hget.2.1, key _ _ hget.2.2⟩

theorem applyS_length {T : List ByteArray} {fz : Nat} {hs : List HunkM} (hh : ∀ h ∈ hs, HunkOk h) (hT : T.length ≤ 40000) (hx : (textL T).length ≤ 10000) : (applyS T fz hs).length = hs.length := (applyK_ok hh hT hx hs.length (Nat.le_refl _)).2

theorem apply_at {s : ByteArray} {hs : List HunkM} {fz : Nat} {a : Option Addr} {cap : Nat} {m : Int} {w : World} (h1 : isTextB s = true) (h2 : largeB s = false) (hf : fz ≤ 10)
    (hH : HunksAt w.heap.size w (.slice a hs.length cap) hs) (hok : rightM 0 0 hs = true) (hL : hs.length ≤ 1000) (hsz : s.size < 4294967281) (hm : w.cell? ⟨0, 0, none⟩ = some (.int .i64 m)) (hm0 : 0 < w.heap.size)
    (hh : ∀ h ∈ hs, HunkOk h) (hT : (linesB s).length ≤ 40000) (hx : (textL (linesB s)).length ≤ 10000) :
    Calls Tryd.prog 17 #[.string s, .agg #[.slice a hs.length cap], .int .i64 fz] w fun e w' =>
      ∃ a' c', e = .returned (.tuple #[.string (applyT (linesB s) fz hs), .slice a' hs.length c', .int .i64 0]) ∧ SeamsAt w' (.slice a' hs.length c') (applyS (linesB s) fz hs) ∧ Below w.heap.size w w' := by
  have hl := applyS_length (fz := fz) hh hT hx
  refine (apply_ok h1 h2 hf hH hok hL hsz hm hm0 hh hT hx).mono ?_
  rintro e w' ⟨v, rfl, hown, hb⟩
  obtain ⟨a', c', rfl⟩ := owns_isSlice hown
  rw [← hl] at hown
  have := SeamsAt.of_owns hown
  rw [hl] at this
  exact ⟨a', c', rfl, this, hb⟩

/-- hunks and texts, ready to be reckoned -/
def hunkOkB (h : HunkM) : Bool := h.lines.all (fun x => x.kind == 32 || x.kind == 45 || x.kind == 43) && decide (h.lines.length ≤ 1000) && decide (h.fr ≤ 40000) && decide (min h.fc 1 ≤ h.fr) && decide ((textL (Dn.newOf h.lines)).length ≤ 10000)
theorem hunkOk_of {h : HunkM} (e : hunkOkB h = true) : HunkOk h := by
  unfold hunkOkB at e
  simp only [Bool.and_eq_true, decide_eq_true_eq, List.all_eq_true, Bool.or_eq_true, beq_iff_eq] at e
  exact ⟨fun x hx => by have := e.1.1.1.1 x hx; omega, e.1.1.1.2, e.1.1.2, e.1.2, e.2⟩
/-- everything that Apply asks of a text and hunks, as one bool -/
def applyOkB (s : ByteArray) (hs : List HunkM) : Bool := isTextB s && !(largeB s) && rightM 0 0 hs && decide (hs.length ≤ 1000) && decide (s.size ≤ 8000) && hs.all hunkOkB && decide ((linesB s).length ≤ 40000) && decide ((textL (linesB s)).length ≤ 10000)
theorem apply_of {s : ByteArray} {hs : List HunkM} {fz : Nat} {a : Option Addr} {cap : Nat} {m : Int} {w : World} (hok : applyOkB s hs = true) (hf : fz ≤ 10) (hH : HunksAt w.heap.size w (.slice a hs.length cap) hs) (hm : w.cell? ⟨0, 0, none⟩ = some (.int .i64 m)) (hm0 : 0 < w.heap.size) :
    Calls Tryd.prog 17 #[.string s, .agg #[.slice a hs.length cap], .int .i64 fz] w fun e w' =>
      ∃ a' c', e = .returned (.tuple #[.string (applyT (linesB s) fz hs), .slice a' hs.length c', .int .i64 0]) ∧ SeamsAt w' (.slice a' hs.length c') (applyS (linesB s) fz hs) ∧ Below w.heap.size w w' := by
  unfold applyOkB at hok
  simp only [Bool.and_eq_true, decide_eq_true_eq, List.all_eq_true, Bool.not_eq_true'] at hok
  obtain ⟨⟨⟨⟨⟨⟨⟨h1, h2⟩, h3⟩, h4⟩, h5⟩, h6⟩, h7⟩, h8⟩ := hok
  exact apply_at h1 h2 hf hH h3 h4 (by omega) hm hm0 (fun h hh => hunkOk_of (h6 h hh)) h7 h8
end Go.Proofs.YtcclgodahlinbaaDoor
