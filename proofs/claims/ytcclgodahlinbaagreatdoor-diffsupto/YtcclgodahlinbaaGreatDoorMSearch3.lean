import Derived.Test.YtcclgodahlinbaaGreatDoorMSearch2
namespace Dn
section
set_option linter.unusedSectionVars false
variable {α : Type} [DecidableEq α] {o f : List α}

def mu (st : Srch) : Nat := 3 * zeros st.led + st.op.length

def searchM (o f : List α) : Nat → Srch → Srch
  | 0, st => st
  | k + 1, st => if st.at f.length o.length f.length = 0 then searchM o f k (roundM o f st) else st

theorem searchM_done {k : Nat} {st : Srch} (h : st.at f.length o.length f.length ≠ 0) : searchM o f k st = st := by
  cases k with
  | zero => rfl
  | succ k => simp [searchM, h]

theorem searchM_fuel : ∀ (k k' : Nat) (st : Srch), Inv o f st → mu st ≤ k → mu st ≤ k' → searchM o f k st = searchM o f k' st := by
  intro k
  induction k with
  | zero =>
    intro k' st hi h _
    by_cases he : st.at f.length o.length f.length = 0
    · have := List.length_pos_iff.2 (hi.open_ne he)
      unfold mu at h; omega
    · rw [searchM_done he, searchM_done he]
  | succ k ih =>
    intro k' st hi h h'
    by_cases he : st.at f.length o.length f.length = 0
    · have hne := hi.open_ne he
      obtain ⟨hi', hlt⟩ := hi.round hne
      have := List.length_pos_iff.2 hne
      cases k' with
      | zero => unfold mu at h'; omega
      | succ k' =>
        simp only [searchM, he, if_true]
        exact ih k' _ hi' (by unfold mu at *; omega) (by unfold mu at *; omega)
    · rw [searchM_done he, searchM_done he]

theorem searchM_step {st : Srch} (hi : Inv o f st) (he : st.at f.length o.length f.length = 0) :
    searchM o f (mu (roundM o f st)) (roundM o f st) = searchM o f (mu st) st := by
  have hne := hi.open_ne he
  obtain ⟨hi', hlt⟩ := hi.round hne
  have hp := List.length_pos_iff.2 hne
  obtain ⟨k, hk⟩ : ∃ k, mu st = k + 1 := ⟨mu st - 1, by unfold mu; omega⟩
  rw [hk]
  simp only [searchM, he, if_true]
  exact searchM_fuel _ _ _ hi' (Nat.le_refl _) (by unfold mu at *; omega)

/-- what the search ends with -/
def foundM (o f : List α) : Srch := searchM o f (mu (startM o f)) (startM o f)

structure StepM (α : Type) where
  kind : Nat
  text : α

/-- the steps from a place back to the beginning -/
def backM [Inhabited α] (o f : List α) (st : Srch) : Nat → Nat → Nat → List (StepM α)
  | 0, _, _ => []
  | k + 1, x, y =>
    if x = 0 ∧ y = 0 then []
    else if st.at f.length x y = 32 then ⟨32, o.getD (x - 1) default⟩ :: backM o f st k (x - 1) (y - 1)
    else if st.at f.length x y = 45 then ⟨45, o.getD (x - 1) default⟩ :: backM o f st k (x - 1) y
    else ⟨st.at f.length x y, f.getD (y - 1) default⟩ :: backM o f st k x (y - 1)

def wayM [Inhabited α] (o f : List α) : List (StepM α) := (backM o f (foundM o f) (o.length + f.length) o.length f.length).reverse

def oldOf (l : List (StepM α)) : List α := (l.filter (fun s => s.kind != 43)).map (·.text)
def newOf (l : List (StepM α)) : List α := (l.filter (fun s => s.kind != 45)).map (·.text)

theorem oldOf_append (a b : List (StepM α)) : oldOf (a ++ b) = oldOf a ++ oldOf b := by simp [oldOf]
theorem newOf_append (a b : List (StepM α)) : newOf (a ++ b) = newOf a ++ newOf b := by simp [newOf]

theorem take_pred [Inhabited α] (l : List α) (x : Nat) (h0 : 0 < x) (h : x ≤ l.length) : l.take (x - 1) ++ [l.getD (x - 1) default] = l.take x := by
  obtain ⟨y, rfl⟩ : ∃ y, x = y + 1 := ⟨x - 1, by omega⟩
  have hy : y < l.length := by omega
  rw [Nat.add_sub_cancel, List.take_succ_eq_append_getElem hy]
  simp [List.getD, hy]

theorem backM_way [Inhabited α] {st : Srch} (h : Inv o f st) : ∀ (k x y : Nat), x + y ≤ k → x ≤ o.length → y ≤ f.length → st.at f.length x y ≠ 0 →
    oldOf (backM o f st k x y).reverse = o.take x ∧ newOf (backM o f st k x y).reverse = f.take y ∧
    ∀ s ∈ backM o f st k x y, s.kind = 32 ∨ s.kind = 45 ∨ s.kind = 43 := by
  intro k
  induction k with
  | zero =>
    intro x y hk _ _ _
    have : x = 0 := by omega
    have : y = 0 := by omega
    subst_vars
    simp [backM, oldOf, newOf]
  | succ k ih =>
    intro x y hk hx hy hr
    unfold backM
    split
    · rename_i e; simp [e.1, e.2, oldOf, newOf]
    · rename_i e
      have hled := h.known x y hx hy hr
      rcases hled with ⟨a, b, c⟩ | ⟨a, b, c, d, e'⟩ | ⟨a, b, c⟩ | ⟨a, b, c⟩
      · omega
      · rw [if_pos a]
        obtain ⟨i1, i2, i3⟩ := ih (x - 1) (y - 1) (by omega) (by omega) (by omega) e'
        have hlt := same_lt o f d
        have hs : o.getD (x - 1) default = f.getD (y - 1) default := by
          unfold same at d; simp only [decide_eq_true_eq] at d
          simp only [List.getD]; rw [d.2.2]
        refine ⟨?_, ?_, ?_⟩
        · rw [List.reverse_cons, oldOf_append, i1]; exact take_pred o x b hx
        · rw [List.reverse_cons, newOf_append, i2, hs]; exact take_pred f y c hy
        · intro s hs'; simp at hs'; rcases hs' with rfl | hs'
          · simp
          · exact i3 s hs'
      · rw [if_neg (by omega), if_pos a]
        obtain ⟨i1, i2, i3⟩ := ih (x - 1) y (by omega) (by omega) hy c
        refine ⟨?_, ?_, ?_⟩
        · rw [List.reverse_cons, oldOf_append, i1]; exact take_pred o x b hx
        · rw [List.reverse_cons, newOf_append, i2]; simp [newOf]
        · intro s hs'; simp at hs'; rcases hs' with rfl | hs'
          · simp
          · exact i3 s hs'
      · rw [if_neg (by omega), if_neg (by omega)]
        obtain ⟨i1, i2, i3⟩ := ih x (y - 1) (by omega) hx (by omega) c
        refine ⟨?_, ?_, ?_⟩
        · rw [List.reverse_cons, oldOf_append, i1]; simp [oldOf, a]
        · rw [List.reverse_cons, newOf_append, i2, a]; exact take_pred f y b hy
        · intro s hs'; simp at hs'; rcases hs' with rfl | hs'
          · simp [a]
          · exact i3 s hs'

theorem searchM_inv : ∀ (k : Nat) (st : Srch), Inv o f st → mu st ≤ k → Inv o f (searchM o f k st) ∧ (searchM o f k st).at f.length o.length f.length ≠ 0 := by
  intro k
  induction k with
  | zero =>
    intro st hi h
    have he : st.at f.length o.length f.length ≠ 0 := by
      intro he
      have := List.length_pos_iff.2 (hi.open_ne he)
      unfold mu at h; omega
    rw [searchM_done he]; exact ⟨hi, he⟩
  | succ k ih =>
    intro st hi h
    by_cases he : st.at f.length o.length f.length = 0
    · have hne := hi.open_ne he
      obtain ⟨hi', hlt⟩ := hi.round hne
      simp only [searchM, he, if_true]
      exact ih _ hi' (by unfold mu at *; omega)
    · rw [searchM_done he]; exact ⟨hi, he⟩

theorem foundM_inv (o f : List α) : Inv o f (foundM o f) ∧ (foundM o f).at f.length o.length f.length ≠ 0 := searchM_inv _ _ (startM_inv o f) (Nat.le_refl _)

theorem wayM_way [Inhabited α] (o f : List α) : oldOf (wayM o f) = o ∧ newOf (wayM o f) = f ∧ ∀ s ∈ wayM o f, s.kind = 32 ∨ s.kind = 45 ∨ s.kind = 43 := by
  obtain ⟨hi, he⟩ := foundM_inv o f
  obtain ⟨a, b, c⟩ := backM_way hi (o.length + f.length) o.length f.length (Nat.le_refl _) (Nat.le_refl _) (Nat.le_refl _) he
  refine ⟨by simpa [wayM] using a, by simpa [wayM] using b, ?_⟩
  intro s hs
  exact c s (by simpa [wayM] using hs)

end
end Dn
