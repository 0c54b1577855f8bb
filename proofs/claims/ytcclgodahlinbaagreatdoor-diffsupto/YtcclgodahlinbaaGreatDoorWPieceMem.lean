import Derived.Test.YtcclgodahlinbaaGreatDoorWKeeps
namespace Go.Proofs.YtcclgodahlinbaaGreatDoor
open Go.RowKit Go
set_option maxRecDepth 100000

theorem wpList_append_own2 {P : Program} {ops : Array Oper} {rest : List Oper} {o : Oper} {a : Act} {w : World} {Q : Exit → Act → World → Prop} (hgd : o.guard = none) (s x : Operand) (t : TypeId)
    (ho : o.op = .call { callee := .builtin .append, args := #[s, x], argTypes := #[t, t] })
    (base : Nat) (e : TypeId) (i : TypeInfo) (z : Value) (size bytes : Nat) (ht : P.underlying t = some (.slice e)) (hi : P.info? e = some i) (hz : i.zero = some z)
    (hsize : i.size = size) (hby : i.bytes = bytes) (hzs : z.cells.size = size) (hsz : 0 < size)
    (v : Value) (n : Nat) (xs : List Value) (hs : a.eval s = v) (hown : w.ownsRow base e size v n xs)
    (ad : Addr) (m c : Nat) (news : List Value) (hx : a.eval x = .slice (some ad) m c) (hl : news.length = m * size) (hnews : ∀ j u, news[j]? = some u → w.cell? (ad.add j) = some u) (h1 : ∀ u ∈ news, u.oneCell' = true)
    (h63 : n + m ≤ maxLen) (hbytes : (n + m) * bytes ≤ 140737488355328) (hbase : base ≤ w.heap.size)
    (h : ∀ v' w', w'.ownsRow base e size v' (n + m) (xs ++ news) → w.grownBy w' v.ownBlock → (v'.ownBlock = v.ownBlock ∨ ∀ g, v'.ownBlock = some g → w.heap.size ≤ g) → wpList P ops Q rest (a.put o.dst v') w') : wpList P ops Q (o :: rest) a w := by
  refine wpList_plain hgd fun K hK => ?_
  obtain ⟨v', w', hr, r1, r2, r3⟩ := run_append_own2 (P := P) w base t o.type e i z size bytes ht hi hz hsize hby hzs hsz v n xs hown ad m c news hl hnews h1 h63 hbytes hbase
  unfold Oper.wp execOp
  simp only [ho, resolve, invoke, builtin, Sem.run_bind, Sem.run_pure, Result.andThen_ok, List.map_toArray, List.map_cons, List.map_nil, hs, hx, hr]
  exact hK _ _ (h v' w' r1 r2 r3)

def strCells (l : List ByteArray) : List Value := l.map fun s => .string s
theorem strCells_append (a b : List ByteArray) : strCells (a ++ b) = strCells a ++ strCells b := by simp [strCells]
theorem info_str : (Tryz.prog.info? 9).map (fun i => (i.zero, i.size, i.bytes)) = some (some (.string ByteArray.empty), 1, 16) := by kernel_rfl

theorem Strs.of_owns {base : Nat} {w : World} {v : Value} {l : List ByteArray} (h : w.ownsRow base 9 1 v l.length (strCells l)) : Strs w.heap.size w v l := by
  by_cases h0 : l.length = 0
  · have : l = [] := List.eq_nil_of_length_eq_zero h0
    subst this
    rcases h.2 with ⟨e, _⟩ | ⟨g, cap, cur, e, _⟩
    · exact .inl ⟨rfl, _, _, e⟩
    · exact .inl ⟨rfl, _, _, e⟩
  · obtain ⟨g, cap, rfl, _, hg, _⟩ := owns_slice h (by omega)
    refine .inr ⟨g, 0, cap, rfl, hg, fun i hi => ?_⟩
    obtain ⟨hl, hr⟩ := h
    rcases hr with ⟨e, _⟩ | ⟨g', cap', cur, e, hb, hg', h1, h2, h3, h4⟩
    · cases e
    · cases e
      have a : (strCells l)[i]? = some (.string (l.getD i ByteArray.empty)) := by simp [strCells, List.getD, hi]
      rw [← h4, List.getElem?_take] at a
      rw [Nat.zero_add]
      split at a
      · exact cell_of hg' (by simpa using a)
      · cases a

/-- a piece in memory: two rows that share nothing -/
structure PM (base P : Nat) (vo vf : Value) (lo lf : List ByteArray) (w : World) : Prop where
  le : base ≤ P
  blk : w.heap[P]? = some (.cells #[vo, vf] 125 (0, 0))
  o : w.ownsRow base 9 1 vo lo.length (strCells lo)
  f : w.ownsRow base 9 1 vf lf.length (strCells lf)
  ne : vo.ownBlock = none ∨ vo.ownBlock ≠ vf.ownBlock

theorem PM.alloc {base P : Nat} {vo vf : Value} {lo lf : List ByteArray} {w : World} (h : PM base P vo vf lo lf w) (ob : Obj) : PM base P vo vf lo lf (w.alloc ob) :=
  ⟨h.le, (Below.heap_alloc w ob P (Array.getElem?_eq_some_iff.1 h.blk).1).trans h.blk, h.o.alloc ob, h.f.alloc ob, h.ne⟩

theorem PM.addO {base P g n cap : Nat} {vo vf : Value} {lo lf : List ByteArray} {w w1 : World} {ob : Obj} {t : ByteArray} (h : PM base P vo vf lo lf w)
    (hown : w1.ownsRow base 9 1 (.slice (some ⟨g, 0, none⟩) n cap) (lo.length + 1) (strCells lo ++ [.string t])) (hgr : (w.alloc ob).grownBy w1 vo.ownBlock)
    (hnew : (Value.slice (some ⟨g, 0, none⟩) n cap).ownBlock = vo.ownBlock ∨ ∀ k, (Value.slice (some ⟨g, 0, none⟩) n cap).ownBlock = some k → (w.alloc ob).heap.size ≤ k) :
    PM base P (.slice (some ⟨g, 0, none⟩) n cap) vf (lo ++ [t]) lf (w1.setCell ⟨P, 0, none⟩ (.slice (some ⟨g, 0, none⟩) n cap)) := by
  have hPw : P < w.heap.size := (Array.getElem?_eq_some_iff.1 h.blk).1
  have hP1 : w1.heap[P]? = some (.cells #[vo, vf] 125 (0, 0)) := by
    rw [hgr.block P (by simp; omega) (fun e => owns_ne h.o h.blk (by decide) e.symm), Below.heap_alloc w ob P hPw]; exact h.blk
  have hf1 : w1.ownsRow base 9 1 vf lf.length (strCells lf) := (h.f.alloc ob).kept hgr (by
    cases hv : vf.ownBlock with
    | none => exact .inl rfl
    | some k =>
      right
      intro e
      rcases h.ne with h1 | h1
      · rw [h1] at e; cases e
      · exact h1 (e.symm.trans hv.symm))
  have hg2 := grownBy_setCell w1 P 0 (.slice (some ⟨g, 0, none⟩) n cap)
  refine ⟨h.le, heap_setCell_same _ _ _ _ _ _ _ hP1, ?_, hf1.kept hg2 (.inr (owns_ne hf1 hP1 (by decide))), ?_⟩
  · rw [strCells_append, List.length_append]
    exact hown.kept hg2 (.inr (owns_ne hown hP1 (by decide)))
  · rcases hnew with e | e
    · rw [e]; exact h.ne
    · right
      intro e2
      have h1 := e g rfl
      have h2 := (h.f.lt g e2.symm).2
      simp at h1; omega
theorem PM.addF {base P g n cap : Nat} {vo vf : Value} {lo lf : List ByteArray} {w w1 : World} {ob : Obj} {t : ByteArray} (h : PM base P vo vf lo lf w)
    (hown : w1.ownsRow base 9 1 (.slice (some ⟨g, 0, none⟩) n cap) (lf.length + 1) (strCells lf ++ [.string t])) (hgr : (w.alloc ob).grownBy w1 vf.ownBlock)
    (hnew : (Value.slice (some ⟨g, 0, none⟩) n cap).ownBlock = vf.ownBlock ∨ ∀ k, (Value.slice (some ⟨g, 0, none⟩) n cap).ownBlock = some k → (w.alloc ob).heap.size ≤ k) :
    PM base P vo (.slice (some ⟨g, 0, none⟩) n cap) lo (lf ++ [t]) (w1.setCell ⟨P, 1, none⟩ (.slice (some ⟨g, 0, none⟩) n cap)) := by
  have hPw : P < w.heap.size := (Array.getElem?_eq_some_iff.1 h.blk).1
  have hP1 : w1.heap[P]? = some (.cells #[vo, vf] 125 (0, 0)) := by
    rw [hgr.block P (by simp; omega) (fun e => owns_ne h.f h.blk (by decide) e.symm), Below.heap_alloc w ob P hPw]; exact h.blk
  have ho1 : w1.ownsRow base 9 1 vo lo.length (strCells lo) := (h.o.alloc ob).kept hgr h.ne
  have hg2 := grownBy_setCell w1 P 1 (.slice (some ⟨g, 0, none⟩) n cap)
  refine ⟨h.le, heap_setCell_same _ _ _ _ _ _ _ hP1, ho1.kept hg2 (.inr (owns_ne ho1 hP1 (by decide))), ?_, ?_⟩
  · rw [strCells_append, List.length_append]
    exact hown.kept hg2 (.inr (owns_ne hown hP1 (by decide)))
  · rcases hnew with e | e
    · rw [e]; exact h.ne
    · cases hv : vo.ownBlock with
      | none => exact .inl rfl
      | some k =>
        right
        intro e2
        have h2 := (h.o.lt k hv).2
        have e3 : g = k := (Option.some.inj e2).symm
        have h1 := e g rfl
        simp at h1; omega
end Go.Proofs.YtcclgodahlinbaaGreatDoor
