import Derived.Test.YtcclgodahlinbaaDoorWSew
namespace Go.Proofs.YtcclgodahlinbaaDoor
open Go.RowKit Go
set_option maxRecDepth 100000

/-- what a hunk must be for sew -/
structure HunkOk (h : HunkM) : Prop where
  kinds : ∀ x ∈ h.lines, x.kind = 32 ∨ x.kind = 45 ∨ x.kind = 43
  len : h.lines.length ≤ 1000
  fr : h.fr ≤ 40000
  fc : min h.fc 1 ≤ h.fr
  text : (textL (Dn.newOf h.lines)).length ≤ 10000

theorem sewFrom_at {T : List ByteArray} {ei : Nat} {mv : Int} {h : HunkM} : ∀ n f {g : Nat} {x : Int}, sewFrom T ei mv h f n = some (g, x) → sewAt T ei mv h g = some x := by
  intro n
  induction n with
  | zero => intro f g x e; simp [sewFrom] at e
  | succ n ih =>
    intro f g x e
    unfold sewFrom at e
    cases hx : sewAt T ei mv h f with
    | some y => rw [hx] at e; simp at e; obtain ⟨rfl, rfl⟩ := e; exact hx
    | none => rw [hx] at e; exact ih (f + 1) e

/-- bounds on what is sewn -/
structure SewOk (T : List ByteArray) (s : SewS) (n : Nat) : Prop where
  en : s.en ≤ T.length
  mv : -50000 ≤ s.mv ∧ s.mv ≤ 50000
  t : s.t.length ≤ n * 20000

theorem sewM_ok {T : List ByteArray} {s : SewS} {h : HunkM} {fz n : Nat} (hs : SewOk T s n) (hh : HunkOk h) (hT : T.length ≤ 40000) (hx : (textL T).length ≤ 10000) : SewOk T (sewM T s h fz).1 (n + 1) := by
  unfold sewM
  cases hf : sewFind T s.en s.mv h fz with
  | none => exact ⟨hs.en, hs.mv, Nat.le_trans hs.t (by omega)⟩
  | some p =>
    obtain ⟨f, x⟩ := p
    have hat := sewFrom_at _ _ hf
    have hst := List.find?_some hat
    obtain ⟨h1, h2, _⟩ := of_decide_eq_true hst
    have hk := (keepsK_le h.lines h.lines.length).1
    have hpl : placeM h.fr h.fc ≤ 40000 := by have := hh.fr; unfold placeM; split <;> omega
    have hlen := hh.len
    have e1 := textL_sub T s.en ((x + (min f (keepsK h.lines h.lines.length).1 : Nat)).toNat - s.en)
    have e2 : (textL (pieceF h.lines f)).length ≤ (textL (Dn.newOf h.lines)).length := textL_sub _ _ _
    have e3 := hh.text
    have e4 := hs.t
    refine ⟨?_, ?_, ?_⟩
    · show (x + (min f (keepsK h.lines h.lines.length).1 : Nat)).toNat + (pieceO h.lines f).length ≤ T.length
      omega
    · show -50000 ≤ x - (placeM h.fr h.fc : Nat) ∧ x - (placeM h.fr h.fc : Nat) ≤ 50000
      omega
    · show (s.t ++ _ ++ _).length ≤ _
      rw [List.length_append, List.length_append]
      omega

/-! ### the mirror of Apply -/
def applyFrom (T : List ByteArray) (fz : Nat) (s : SewS) : List HunkM → SewS × List SeamM
  | [] => (s, [])
  | h :: l => let r := sewM T s h fz; let q := applyFrom T fz r.1 l; (q.1, r.2 :: q.2)
def applyK (T : List ByteArray) (fz : Nat) (hs : List HunkM) (k : Nat) : SewS × List SeamM := applyFrom T fz ⟨[], 0, 0⟩ (hs.take k)
theorem applyFrom_snoc (T : List ByteArray) (fz : Nat) (h : HunkM) : ∀ (l : List HunkM) (s : SewS), applyFrom T fz s (l ++ [h]) = ((sewM T (applyFrom T fz s l).1 h fz).1, (applyFrom T fz s l).2 ++ [(sewM T (applyFrom T fz s l).1 h fz).2]) := by
  intro l
  induction l with
  | nil => intro s; rfl
  | cons a l ih => intro s; simp only [List.cons_append, applyFrom, ih]
theorem applyK_succ (T : List ByteArray) (fz : Nat) (hs : List HunkM) (k : Nat) (h : k < hs.length) : applyK T fz hs (k + 1) = ((sewM T (applyK T fz hs k).1 hs[k] fz).1, (applyK T fz hs k).2 ++ [(sewM T (applyK T fz hs k).1 hs[k] fz).2]) := by
  unfold applyK
  rw [List.take_succ_eq_append_getElem h, applyFrom_snoc]
theorem applyK_ok {T : List ByteArray} {fz : Nat} {hs : List HunkM} (hh : ∀ h ∈ hs, HunkOk h) (hT : T.length ≤ 40000) (hx : (textL T).length ≤ 10000) : ∀ k, k ≤ hs.length → SewOk T (applyK T fz hs k).1 k ∧ (applyK T fz hs k).2.length = k := by
  intro k
  induction k with
  | zero => intro _; exact ⟨⟨Nat.zero_le _, (show (-50000 : Int) ≤ 0 ∧ (0 : Int) ≤ 50000 by decide), Nat.zero_le _⟩, rfl⟩
  | succ k ih =>
    intro hk
    rw [applyK_succ T fz hs k hk]
    obtain ⟨i1, i2⟩ := ih (by omega)
    exact ⟨sewM_ok i1 (hh _ (List.getElem_mem _)) hT hx, by rw [List.length_append, i2]; rfl⟩
def applyT (T : List ByteArray) (fz : Nat) (hs : List HunkM) : ByteArray := ⟨((applyK T fz hs hs.length).1.t ++ textL (T.drop (applyK T fz hs hs.length).1.en)).toArray⟩
def applyS (T : List ByteArray) (fz : Nat) (hs : List HunkM) : List SeamM := (applyK T fz hs hs.length).2

def seamCells (l : List SeamM) : List Value := l.flatMap fun m => [.bool m.done, .int .i64 m.at', .int .i64 (m.fz : Nat)]
theorem seamCells_append (a b : List SeamM) : seamCells (a ++ b) = seamCells a ++ seamCells b := by unfold seamCells; rw [List.flatMap_append]
theorem info_seam : (Tryd.prog.info? 53).map (fun i => (i.zero, i.size, i.bytes)) = some (some (.agg #[.bool false, .int .i64 0, .int .i64 0]), 3, 24) := by kernel_rfl

theorem SewA.keep {S : Nat} {vl : Value} {t : List UInt8} {en mv : Int} {W W' : World} {row : Option Nat} (h : SewA S vl t en mv W) (hg : W.grownBy W' row) (hr : ∀ r, row = some r → ∃ c fz, W.heap[r]? = some (.cells c 53 fz)) : SewA S vl t en mv W' := by
  obtain ⟨ad, vb, h⟩ := h
  have hS : some S ≠ row := by
    intro e
    obtain ⟨c, z, ho⟩ := hr S e.symm
    rw [h.blk] at ho; injection ho with ho; injection ho with _ e2; exact absurd e2 (by decide)
  refine ⟨ad, vb, (hg.block S h.lt hS).trans h.blk, h.adr, h.own.kept hg ?_⟩
  cases hb : vb.ownBlock with
  | none => exact .inl rfl
  | some g =>
    right
    intro e
    obtain ⟨cur, hc⟩ := owns_block h.own hb
    obtain ⟨c, z, ho⟩ := hr g e.symm
    rw [hc] at ho; injection ho with ho; injection ho with _ e2; exact absurd e2 (by decide)
theorem RowS.keep {v : Value} {L : List ByteArray} {W W' : World} {row : Option Nat} (h : RowS W v L) (hg : W.grownBy W' row) (hr : ∀ r, row = some r → ∃ c fz, W.heap[r]? = some (.cells c 53 fz)) : RowS W' v L :=
  h.of_heap fun b cur fr hb => (hg.block b (Array.getElem?_eq_some_iff.1 hb).1 (fun e => by
    obtain ⟨c, z, ho⟩ := hr b e.symm
    rw [hb] at ho; injection ho with ho; injection ho with _ e2; exact absurd e2 (by decide))).trans hb

theorem owns_others {S base n : Nat} {w w' : World} {v : Value} {xs : List Value} {cs : Array Value} {fr : Nat × Nat} (h : w.ownsRow base 53 3 v n xs) (hS : w.heap[S]? = some (.cells cs 69 fr)) (hk : Lib.OthersKept 5 (some S) w w') : w'.ownsRow base 53 3 v n xs := by
  obtain ⟨a, b⟩ := h
  refine ⟨a, ?_⟩
  rcases b with b | ⟨g, cap, cur, e, hb, hg, r⟩
  · exact .inl b
  · refine .inr ⟨g, cap, cur, e, hb, hk g _ hg ?_ ?_, r⟩
    · rintro ⟨⟩; rw [hS] at hg; injection hg with hg; injection hg with _ e2; exact absurd e2 (by decide)
    · intro c z e2; injection e2 with _ e2; exact absurd e2 (by decide)

/-- linesOf, as a row of strings -/
theorem linesOf_row (s : ByteArray) (m : Int) (w : World) (hs : s.size < 4294967281) (hm : w.cell? ⟨0, 0, none⟩ = some (.int .i64 m)) :
    Calls Tryd.prog 24 #[.string s] w fun e w' => ∃ a c, e = .returned (.slice a (linesB s).length c) ∧ RowS w' (.slice a (linesB s).length c) (linesB s) ∧ Below w.heap.size w w' := by
  by_cases h0 : s.toList.isEmpty = true
  · have hl : linesB s = [] := by unfold linesB; rw [if_pos h0]
    rw [hl]
    have := empty_of_toList h0
    subst this
    refine (linesOf_nil w).mono ?_
    rintro e w' ⟨rfl, rfl⟩
    exact ⟨none, 0, rfl, .inl ⟨rfl, none, 0, rfl⟩, Below.refl _ _⟩
  · replace h0 : s.toList.isEmpty = false := by simpa using h0
    have hl := linesB_length s h0
    refine (linesOf_some s m w hs h0 hm).mono ?_
    rintro e w' ⟨rfl, rfl⟩
    refine ⟨_, _, by rw [hl], .inr ⟨w.heap.size, 0, _, _, _, rfl, by omega, heap_alloc_new w _, fun i hi => ?_⟩, (Below.refl _ _).alloc (Nat.le_refl _) _⟩
    simp [hi, List.getD]
end Go.Proofs.YtcclgodahlinbaaDoor
