import Derived.Test.YtcclgodahlinbaaGreatDoorWNear
namespace Go.Proofs.YtcclgodahlinbaaGreatDoor
open Go.RowKit Go
set_option maxRecDepth 100000

theorem step_call {P : Program} {ops : Array Oper} {o : Oper} {a : Act} {w : World} {K : Act → World → Prop} {Q : Exit → Act → World → Prop} {E : Prop}
    (hg : o.guard = none) (f : FuncId) (xs : Array Operand) (ts : Array TypeId) (hop : o.op = Op.call { callee := Callee.value (.func f), args := xs, argTypes := ts })
    (args : Array Value) (ha : xs.map a.eval = args) (hrun : (callFunc f args).run P w = .ok (.enter f args) w) (R : Value → World → Prop)
    (hc : Calls P f args w fun e w' => ∃ v, e = .returned v ∧ R v w') (hK : ∀ v w', R v w' → K (a.put o.dst v) w') :
    if Region.wanted o (yielded ops a.tmps) = true then Oper.wp P o a w K Q else E := by
  have hw : Region.wanted o (yielded ops a.tmps) = true := by simp [Region.wanted, hg]
  rw [if_pos hw]
  unfold Oper.wp
  have e : (execOp a.eval o).run P w = .ok (.enter f args) w := by
    simp [execOp, hop, resolve, invoke, Act.eval, Deferred.ofValue, ha, hrun]
  rw [e]
  refine hc.mono ?_
  rintro e w' ⟨v, rfl, hR⟩
  exact hK v w' hR

theorem run_clone (s : ByteArray) (w : World) : (callFunc 79 #[.string s]).run Tryz.prog w = .ok (.enter 79 #[.string s]) w := by kernel_rfl
theorem clone_any (s : ByteArray) (w : World) (hs : s.size ≤ 281474976710656) : Calls Tryz.prog 79 #[.string s] w fun e w' => e = .returned (.string s) ∧ Below w.heap.size w w' := by
  have hc := Tryz.stringslite_Clone s w hs
  go_enter Tryz.func79, Tryz.ntmps79
  go_wp2_with (go_at_call 112; refine hc.mono ?_; rintro e w' ⟨rfl, hb⟩)
  go_ret
  exact ⟨rfl, hb⟩

/-! ### hunks -/
structure HunkM where
  fr : Nat
  fc : Nat
  tr : Nat
  tc : Nat
  lines : List StepB

abbrev HV := HunkM × Value
def hunkCells1 (p : HV) : List Value := [.int .i64 (p.1.fr : Nat), .int .i64 (p.1.fc : Nat), .int .i64 (p.1.tr : Nat), .int .i64 (p.1.tc : Nat), p.2]
def hunkCells (l : List HV) : List Value := l.flatMap hunkCells1
theorem hunkCells_append (a b : List HV) : hunkCells (a ++ b) = hunkCells a ++ hunkCells b := by simp [hunkCells]
theorem hunkCells_length (l : List HV) : (hunkCells l).length = l.length * 5 := by
  induction l with
  | nil => rfl
  | cons s l ih => show (hunkCells1 s ++ hunkCells l).length = _; rw [List.length_append, ih]; simp [hunkCells1]; omega
theorem hunkCells_get (l : List HV) : ∀ (i : Nat) (h : i < l.length), (hunkCells l)[i * 5]? = some (.int .i64 (l[i].1.fr : Nat)) ∧ (hunkCells l)[i * 5 + 1]? = some (.int .i64 (l[i].1.fc : Nat)) ∧
    (hunkCells l)[i * 5 + 2]? = some (.int .i64 (l[i].1.tr : Nat)) ∧ (hunkCells l)[i * 5 + 3]? = some (.int .i64 (l[i].1.tc : Nat)) ∧ (hunkCells l)[i * 5 + 4]? = some l[i].2 := by
  induction l with
  | nil => intro i h; simp at h
  | cons s l ih =>
    intro i h
    have e : hunkCells (s :: l) = .int .i64 (s.1.fr : Nat) :: .int .i64 (s.1.fc : Nat) :: .int .i64 (s.1.tr : Nat) :: .int .i64 (s.1.tc : Nat) :: s.2 :: hunkCells l := rfl
    cases i with
    | zero => simp [e]
    | succ i =>
      have := ih i (by simpa using h)
      rw [e, show (i + 1) * 5 = i * 5 + 1 + 1 + 1 + 1 + 1 by omega]
      simpa using this
theorem hunkCells_set (l : List HV) (p : HV) : ∀ (i : Nat), i < l.length →
    ((((hunkCells l).set (i * 5) (.int .i64 (p.1.fr : Nat))).set (i * 5 + 1) (.int .i64 (p.1.fc : Nat))).set (i * 5 + 2) (.int .i64 (p.1.tr : Nat)) |>.set (i * 5 + 3) (.int .i64 (p.1.tc : Nat))).set (i * 5 + 4) p.2 = hunkCells (l.set i p) := by
  induction l with
  | nil => intro i h; simp at h
  | cons s l ih =>
    intro i h
    have e : ∀ s l, hunkCells (s :: l) = .int .i64 (s.1.fr : Nat) :: .int .i64 (s.1.fc : Nat) :: .int .i64 (s.1.tr : Nat) :: .int .i64 (s.1.tc : Nat) :: s.2 :: hunkCells l := fun _ _ => rfl
    cases i with
    | zero => simp [e]
    | succ i =>
      have := ih i (by simpa using h)
      rw [List.set_cons_succ, e, e, ← this, show (i + 1) * 5 = i * 5 + 1 + 1 + 1 + 1 + 1 by omega]
      simp

theorem owns_hunk {w : World} {base n cap g : Nat} {l : List HV} (h : w.ownsRow base 61 5 (.slice (some ⟨g, 0, none⟩) n cap) n (hunkCells l)) {i : Nat} (hi : i < l.length) :
    w.cell? ⟨g, i * 5, none⟩ = some (.int .i64 (l[i].1.fr : Nat)) ∧ w.cell? ⟨g, i * 5 + 1, none⟩ = some (.int .i64 (l[i].1.fc : Nat)) ∧ w.cell? ⟨g, i * 5 + 2, none⟩ = some (.int .i64 (l[i].1.tr : Nat)) ∧
    w.cell? ⟨g, i * 5 + 3, none⟩ = some (.int .i64 (l[i].1.tc : Nat)) ∧ w.cell? ⟨g, i * 5 + 4, none⟩ = some l[i].2 := by
  obtain ⟨hl, hr⟩ := h
  rcases hr with ⟨e, _⟩ | ⟨g', cap', cur, e, hb, hg, h1, h2, h3, h4⟩
  · cases e
  · cases e
    obtain ⟨a, b, c, d, e⟩ := hunkCells_get l i hi
    rw [← h4] at a b c d e
    have f : ∀ (j : Nat) (u : Value), (cur.toList.take (n * 5))[j]? = some u → cur[j]? = some u := by
      intro j u hu
      rw [List.getElem?_take] at hu
      split at hu
      · simpa using hu
      · cases hu
    exact ⟨cell_of hg (f _ _ a), cell_of hg (f _ _ b), cell_of hg (f _ _ c), cell_of hg (f _ _ d), cell_of hg (f _ _ e)⟩

/-- a block whose cells at element i are a hunk's, all others as before, owns the row with that hunk at i -/
theorem owns_setHunk {w w' : World} {base n cap g : Nat} {l : List HV} (h : w.ownsRow base 61 5 (.slice (some ⟨g, 0, none⟩) n cap) n (hunkCells l)) (hn : n = l.length) {i : Nat} (hi : i < l.length) (p : HV)
    (hw : ∀ cur, w.heap[g]? = some (.cells cur 61 (0, 0)) → cur.toList.take (n * 5) = hunkCells l → ∃ cur', w'.heap[g]? = some (.cells cur' 61 (0, 0)) ∧ cur'.size = cur.size ∧
      cur'.toList.take (n * 5) = ((((cur.toList.take (n * 5)).set (i * 5) (.int .i64 (p.1.fr : Nat))).set (i * 5 + 1) (.int .i64 (p.1.fc : Nat))).set (i * 5 + 2) (.int .i64 (p.1.tr : Nat)) |>.set (i * 5 + 3) (.int .i64 (p.1.tc : Nat))).set (i * 5 + 4) p.2) :
    w'.ownsRow base 61 5 (.slice (some ⟨g, 0, none⟩) n cap) n (hunkCells (l.set i p)) := by
  subst hn
  obtain ⟨hl, hr⟩ := h
  rcases hr with ⟨e, _⟩ | ⟨g', cap', cur, e, hb, hg, h1, h2, h3, h4⟩
  · cases e
  · cases e
    obtain ⟨cur', k1, k2, k3⟩ := hw cur hg h4
    refine ⟨by rw [hunkCells_length]; simp, .inr ⟨g, cap, cur', rfl, hb, k1, h1, h2, by omega, ?_⟩⟩
    rw [k3, h4, hunkCells_set l p i hi]

theorem owns_below {w w1 : World} {base e size n N : Nat} {v : Value} {xs : List Value} (h : w.ownsRow base e size v n xs) (hb : Below N w w1) (hN : ∀ k, v.ownBlock = some k → k < N) : w1.ownsRow base e size v n xs := by
  obtain ⟨hl, hr⟩ := h
  refine ⟨hl, ?_⟩
  rcases hr with hn | ⟨g, cap, cur, rfl, hbb, hg, rest⟩
  · exact .inl hn
  · exact .inr ⟨g, cap, cur, rfl, hbb, (hb.block g (hN g rfl)).trans hg, rest⟩

/-- hunks in memory: a row of them, each with a row of lines; no two share a row -/
structure HSv (base g n cap : Nat) (hv : List HV) (w : World) : Prop where
  len : n = hv.length
  row : w.ownsRow base 61 5 (.slice (some ⟨g, 0, none⟩) n cap) n (hunkCells hv)
  lines : ∀ p ∈ hv, w.ownsRow base 93 2 p.2 p.1.lines.length (stepCells p.1.lines)
  apart : hv.Pairwise fun p q => p.2.ownBlock = none ∨ p.2.ownBlock ≠ q.2.ownBlock

def addL (h : HunkM) (s : StepB) : HunkM :=
  { h with lines := h.lines ++ [s], fc := h.fc + (if s.kind = 43 then 0 else 1), tc := h.tc + (if s.kind = 45 then 0 else 1) }

theorem info_line : (Tryz.prog.info? 93).map (fun i => (i.zero, i.size, i.bytes)) = some (some (.agg #[.int .u8 0, .string ByteArray.empty]), 2, 24) := by kernel_rfl
end Go.Proofs.YtcclgodahlinbaaGreatDoor
