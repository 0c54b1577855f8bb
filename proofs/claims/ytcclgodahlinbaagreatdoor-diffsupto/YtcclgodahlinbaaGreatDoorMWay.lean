namespace Dn

structure Spot where
  x : Nat
  y : Nat
  far : Nat
  turn : Nat
  kind : Nat

/-- what lies behind a row -/
abbrev noSpot : Spot := ⟨0, 0, 0, 0, 0⟩

def Spot.less (a b : Spot) : Bool := if a.far = b.far then decide (a.turn < b.turn) else decide (a.far < b.far)

def swapL (l : List Spot) (i j : Nat) : List Spot := (l.set i (l.getD j noSpot)).set j (l.getD i noSpot)

def upM : Nat → List Spot → Nat → List Spot
  | 0, l, _ => l
  | k + 1, l, j =>
    let i := (j - 1) / 2
    if i = j ∨ Spot.less (l.getD j noSpot) (l.getD i noSpot) = false then l else upM k (swapL l i j) i

def downJ (l : List Spot) (i n : Nat) : Nat :=
  if 2 * i + 2 < n ∧ Spot.less (l.getD (2 * i + 2) noSpot) (l.getD (2 * i + 1) noSpot) = true then 2 * i + 2 else 2 * i + 1

def downM : Nat → List Spot → Nat → Nat → List Spot
  | 0, l, _, _ => l
  | k + 1, l, i, n =>
    if n ≤ 2 * i + 1 then l
    else if Spot.less (l.getD (downJ l i n) noSpot) (l.getD i noSpot) = false then l
    else downM k (swapL l i (downJ l i n)) (downJ l i n) n

def pushM (l : List Spot) (s : Spot) : List Spot := upM (l.length + 1) (l ++ [s]) l.length

def popL (l : List Spot) : List Spot := downM l.length (swapL l 0 (l.length - 1)) 0 (l.length - 1)

def popS (l : List Spot) : Spot := (popL l).getD (l.length - 1) noSpot

def popR (l : List Spot) : List Spot := (popL l).take (l.length - 1)

theorem swapL_length (l : List Spot) (i j : Nat) : (swapL l i j).length = l.length := by simp [swapL]

theorem set_perm {α} (d : α) (l : List α) (i j : Nat) (hi : i < l.length) (hj : j < l.length) :
    List.Perm ((l.set i (l.getD j d)).set j (l.getD i d)) l := by
  classical
  letI : DecidableEq α := fun a b => Classical.propDecidable (a = b)
  rw [List.perm_iff_count]
  intro a
  have e1 : l.getD j d = l[j] := by simp [List.getD, hj]
  have e2 : l.getD i d = l[i] := by simp [List.getD, hi]
  rw [e1, e2]
  by_cases hij : i = j
  · subst hij; simp
  · rw [List.count_set (by simpa using hj), List.count_set hi]
    have : (l.set i l[j])[j]'(by simpa using hj) = l[j] := by
      rw [List.getElem_set]; simp [hij]
    rw [this]
    have c1 : (if l[i] == a then 1 else 0) ≤ List.count a l := by
      split
      · rename_i h; simp at h; subst h; exact List.count_pos_iff.2 (List.getElem_mem hi)
      · omega
    omega

theorem swapL_perm (l : List Spot) (i j : Nat) (hi : i < l.length) (hj : j < l.length) : (swapL l i j).Perm l :=
  set_perm noSpot l i j hi hj

theorem upM_perm : ∀ (k : Nat) (l : List Spot) (j : Nat), j < l.length → (upM k l j).Perm l
  | 0, l, _, _ => by simp [upM]
  | k + 1, l, j, h => by
    unfold upM
    simp only
    split
    · exact List.Perm.refl _
    · have hi : (j - 1) / 2 < l.length := by omega
      exact (upM_perm k _ _ (by rw [swapL_length]; exact hi)).trans (swapL_perm l _ _ hi h)

theorem downJ_lt (l : List Spot) (i n : Nat) (h : 2 * i + 1 < n) : downJ l i n < n := by
  unfold downJ; split <;> omega

theorem downJ_gt (l : List Spot) (i n : Nat) : i < downJ l i n := by
  unfold downJ; split <;> omega

theorem downM_perm : ∀ (k : Nat) (l : List Spot) (i n : Nat), n ≤ l.length → (downM k l i n).Perm l
  | 0, l, _, _, _ => by simp [downM]
  | k + 1, l, i, n, h => by
    unfold downM
    split
    · exact List.Perm.refl _
    · split
      · exact List.Perm.refl _
      · have hj := downJ_lt l i n (by omega)
        have := downJ_gt l i n
        exact (downM_perm k _ _ _ (by rw [swapL_length]; exact h)).trans (swapL_perm l _ _ (by omega) (by omega))

theorem upM_length (k : Nat) (l : List Spot) (j : Nat) (h : j < l.length) : (upM k l j).length = l.length := (upM_perm k l j h).length_eq
theorem downM_length (k : Nat) (l : List Spot) (i n : Nat) (h : n ≤ l.length) : (downM k l i n).length = l.length := (downM_perm k l i n h).length_eq

theorem pushM_perm (l : List Spot) (s : Spot) : (pushM l s).Perm (l ++ [s]) := upM_perm _ _ _ (by simp)

theorem pushM_length (l : List Spot) (s : Spot) : (pushM l s).length = l.length + 1 := by
  have := (pushM_perm l s).length_eq; simpa using this

theorem popL_perm (l : List Spot) (h : l ≠ []) : (popL l).Perm l := by
  have hl : 0 < l.length := List.length_pos_iff.2 h
  exact (downM_perm _ _ _ _ (by rw [swapL_length]; omega)).trans (swapL_perm l _ _ hl (by omega))

theorem popL_length (l : List Spot) (h : l ≠ []) : (popL l).length = l.length := (popL_perm l h).length_eq

theorem pop_perm (l : List Spot) (h : l ≠ []) : (popR l ++ [popS l]).Perm l := by
  have hl : 0 < l.length := List.length_pos_iff.2 h
  have e : popR l ++ [popS l] = popL l := by
    unfold popR popS
    have hp := popL_length l h
    have hlt : l.length - 1 < (popL l).length := by omega
    rw [show (popL l).getD (l.length - 1) noSpot = (popL l)[l.length - 1] by simp [List.getD, hlt]]
    rw [← List.take_succ_eq_append_getElem hlt]
    rw [List.take_of_length_le (by omega)]
  rw [e]; exact popL_perm l h

theorem popR_length (l : List Spot) : (popR l).length = l.length - 1 ∨ l = [] := by
  by_cases h : l = []
  · exact .inr h
  · left; unfold popR; rw [List.length_take, popL_length l h]; omega

end Dn
