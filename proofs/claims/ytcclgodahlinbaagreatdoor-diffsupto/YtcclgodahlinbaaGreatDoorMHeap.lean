import Derived.Test.YtcclgodahlinbaaGreatDoorMWay
namespace Dn

def Spot.lt (a b : Spot) : Prop := a.far < b.far ∨ (a.far = b.far ∧ a.turn < b.turn)

theorem less_iff (a b : Spot) : Spot.less a b = true ↔ a.lt b := by
  unfold Spot.less Spot.lt; split <;> simp <;> omega

theorem less_false (a b : Spot) : Spot.less a b = false ↔ ¬ a.lt b := by
  rw [← less_iff]; simp

theorem lt_trans' {a b c : Spot} (h1 : ¬ b.lt a) (h2 : ¬ c.lt b) : ¬ c.lt a := by
  unfold Spot.lt at *; omega
theorem lt_asymm' {a b : Spot} (h : a.lt b) : ¬ b.lt a := by unfold Spot.lt at *; omega

abbrev gt (l : List Spot) (i : Nat) : Spot := l.getD i noSpot

theorem gt_swap (l : List Spot) (i j t : Nat) (hi : i < l.length) (hj : j < l.length) :
    gt (swapL l i j) t = if t = j then gt l i else if t = i then gt l j else gt l t := by
  unfold gt swapL
  simp only [List.getD, List.getElem?_set, List.length_set]
  by_cases h1 : t = j
  · subst h1; simp [hj]
  · by_cases h2 : t = i
    · subst h2
      rw [if_neg (fun h => h1 h.symm), if_pos rfl, if_pos hi, if_neg h1, if_pos rfl]; rfl
    · rw [if_neg (fun h => h1 h.symm), if_neg (fun h => h2 h.symm), if_neg h1, if_neg h2]

def heapOk (n : Nat) (l : List Spot) : Prop := ∀ i, 0 < i → i < n → ¬ (gt l i).lt (gt l ((i - 1) / 2))

theorem up_heap (n : Nat) : ∀ (k : Nat) (l : List Spot) (j : Nat), j < k → j < n → n ≤ l.length →
    (∀ i, 0 < i → i < n → i ≠ j → ¬ (gt l i).lt (gt l ((i - 1) / 2))) →
    (∀ c, 0 < c → c < n → (c - 1) / 2 = j → 0 < j → ¬ (gt l c).lt (gt l ((j - 1) / 2))) → heapOk n (upM k l j) := by
  intro k
  induction k with
  | zero => intro l j h; omega
  | succ k ih =>
    intro l j hk hj hn h1 h2
    unfold upM
    simp only
    split
    · rename_i h
      intro i hi0 hin
      by_cases e : i = j
      · subst e
        rcases h with h | h
        · omega
        · exact (less_false _ _).1 h
      · exact h1 i hi0 hin e
    · rename_i h
      have hne : (j - 1) / 2 ≠ j := fun e => h (.inl e)
      have hlt : (gt l j).lt (gt l ((j - 1) / 2)) := by
        rw [← less_iff]
        cases hh : Spot.less (gt l j) (gt l ((j - 1) / 2)) with
        | true => rfl
        | false => exact absurd (.inr hh) h
      have hil : (j - 1) / 2 < l.length := by omega
      have hjl : j < l.length := by omega
      have hjpos : 0 < j := by omega
      refine ih _ _ (by omega) (by omega) (by rw [swapL_length]; exact hn) ?_ ?_
      · intro i hi0 hin hne'
        rw [gt_swap l _ _ _ hil hjl, gt_swap l _ _ _ hil hjl]
        by_cases e1 : i = j
        · subst e1
          rw [if_pos rfl, if_neg hne, if_pos rfl]
          exact lt_asymm' hlt
        · rw [if_neg e1, if_neg hne']
          by_cases e2 : (i - 1) / 2 = j
          · rw [if_pos e2]; exact h2 i hi0 hin e2 hjpos
          · rw [if_neg e2]
            by_cases e3 : (i - 1) / 2 = (j - 1) / 2
            · rw [if_pos e3]
              have := h1 i hi0 hin e1
              rw [e3] at this
              exact lt_trans' (lt_asymm' hlt) this
            · rw [if_neg e3]; exact h1 i hi0 hin e1
      · intro c hc0 hcn hc hipos
        have hgp : ((j - 1) / 2 - 1) / 2 ≠ j := by omega
        have hgp2 : ((j - 1) / 2 - 1) / 2 ≠ (j - 1) / 2 := by omega
        rw [gt_swap l _ _ _ hil hjl, gt_swap l _ _ _ hil hjl, if_neg hgp, if_neg hgp2]
        have hp := h1 ((j - 1) / 2) hipos (by omega) hne
        by_cases e1 : c = j
        · rw [if_pos e1]; exact hp
        · have e2 : c ≠ (j - 1) / 2 := by omega
          rw [if_neg e1, if_neg e2]
          have := h1 c hc0 hcn e1
          rw [hc] at this
          exact lt_trans' hp this

theorem down_heap (n : Nat) : ∀ (k : Nat) (l : List Spot) (i : Nat), n ≤ k + i → n ≤ l.length →
    (∀ t, 0 < t → t < n → (t - 1) / 2 ≠ i → ¬ (gt l t).lt (gt l ((t - 1) / 2))) →
    (∀ c, 0 < c → c < n → (c - 1) / 2 = i → 0 < i → ¬ (gt l c).lt (gt l ((i - 1) / 2))) → heapOk n (downM k l i n) := by
  intro k
  induction k with
  | zero =>
    intro l i hk hn h1 _ t ht0 htn
    exact h1 t ht0 htn (by omega)
  | succ k ih =>
    intro l i hk hn h1 h2
    unfold downM
    split
    · rename_i h
      intro t ht0 htn
      exact h1 t ht0 htn (by omega)
    · rename_i hlt
      have hlt : 2 * i + 1 < n := by omega
      have hjn := downJ_lt l i n hlt
      have hji := downJ_gt l i n
      -- the lesser of the two
      have hmin : ∀ t, 0 < t → t < n → (t - 1) / 2 = i → ¬ (gt l t).lt (gt l (downJ l i n)) := by
        intro t ht0 htn hti
        have : t = 2 * i + 1 ∨ t = 2 * i + 2 := by omega
        unfold downJ
        split
        · rename_i hh
          have hh2 := (less_iff _ _).1 hh.2
          rcases this with rfl | rfl
          · exact lt_asymm' hh2
          · unfold Spot.lt; omega
        · rename_i hh
          rcases this with rfl | rfl
          · unfold Spot.lt; omega
          · intro hl
            exact hh ⟨htn, (less_iff _ _).2 hl⟩
      have hpar : (downJ l i n - 1) / 2 = i := by unfold downJ; split <;> omega
      split
      · rename_i hf
        have hf' := (less_false _ _).1 hf
        intro t ht0 htn
        by_cases e : (t - 1) / 2 = i
        · rw [e]; exact lt_trans' hf' (hmin t ht0 htn e)
        · exact h1 t ht0 htn e
      · rename_i hf
        have hl : (gt l (downJ l i n)).lt (gt l i) := by
          rw [← less_iff]
          cases hh : Spot.less (gt l (downJ l i n)) (gt l i) with
          | true => rfl
          | false => exact absurd hh hf
        generalize downJ l i n = j at *
        have hil : i < l.length := by omega
        have hjl : j < l.length := by omega
        refine ih _ _ (by omega) (by rw [swapL_length]; exact hn) ?_ ?_
        · intro t ht0 htn hne
          rw [gt_swap l _ _ _ hil hjl, gt_swap l _ _ _ hil hjl]
          rw [if_neg (show ¬ (t - 1) / 2 = j from hne)]
          by_cases e1 : t = j
          · rw [if_pos e1, e1, if_pos hpar]; exact lt_asymm' hl
          · rw [if_neg e1]
            by_cases e2 : t = i
            · rw [if_pos e2]
              have e3 : (t - 1) / 2 ≠ i := by omega
              rw [if_neg e3]
              subst e2
              exact h2 j (by omega) hjn hpar ht0
            · rw [if_neg e2]
              by_cases e3 : (t - 1) / 2 = i
              · rw [if_pos e3]; exact hmin t ht0 htn e3
              · rw [if_neg e3]; exact h1 t ht0 htn e3
        · intro c hc0 hcn hc _
          rw [gt_swap l _ _ _ hil hjl, gt_swap l _ _ _ hil hjl]
          rw [if_neg (show c ≠ j by omega), if_neg (show c ≠ i by omega), if_neg (show (j - 1) / 2 ≠ j by omega), if_pos hpar]
          have := h1 c hc0 hcn (by omega)
          rw [hc] at this
          exact this

theorem heap_min {n : Nat} {l : List Spot} (h : heapOk n l) : ∀ i, i < n → ¬ (gt l i).lt (gt l 0) := by
  intro i
  induction i using Nat.strongRecOn with
  | ind i ih =>
    intro hi
    by_cases h0 : i = 0
    · subst h0; unfold Spot.lt; omega
    · exact lt_trans' (ih ((i - 1) / 2) (by omega) (by omega)) (h i (by omega) hi)

theorem downM_tail (n : Nat) : ∀ (k : Nat) (l : List Spot) (i t : Nat), n ≤ l.length → n ≤ t → gt (downM k l i n) t = gt l t := by
  intro k
  induction k with
  | zero => intro l i t _ _; rfl
  | succ k ih =>
    intro l i t hn ht
    unfold downM
    split
    · rfl
    · split
      · rfl
      · have hj := downJ_lt l i n (by omega)
        have hi := downJ_gt l i n
        rw [ih _ _ _ (by rw [swapL_length]; exact hn) ht, gt_swap l _ _ _ (by omega) (by omega), if_neg (by omega), if_neg (by omega)]

def heapL (l : List Spot) : Prop := heapOk l.length l

theorem gt_append_lt (l r : List Spot) (i : Nat) (h : i < l.length) : gt (l ++ r) i = gt l i := by
  unfold gt; simp [List.getD, List.getElem?_append_left h]

theorem push_heap {l : List Spot} (h : heapL l) (s : Spot) : heapL (pushM l s) := by
  unfold heapL
  rw [pushM_length]
  unfold pushM
  refine up_heap _ _ _ _ (by omega) (by omega) (by simp) ?_ ?_
  · intro i hi0 hin hne
    rw [gt_append_lt _ _ _ (by omega), gt_append_lt _ _ _ (by omega)]
    exact h i hi0 (by omega)
  · intro c hc0 hcn hc _
    omega

theorem pop_heap {l : List Spot} (h : heapL l) (hne : l ≠ []) : heapL (popR l) ∧ popS l = gt l 0 ∧ ∀ s ∈ l, ¬ s.lt (popS l) := by
  have hl : 0 < l.length := List.length_pos_iff.2 hne
  have hS : popS l = gt l 0 := by
    show gt (popL l) (l.length - 1) = gt l 0
    unfold popL
    rw [downM_tail _ _ _ _ _ (by rw [swapL_length]; omega) (Nat.le_refl _), gt_swap l _ _ _ hl (by omega), if_pos rfl]
  refine ⟨?_, hS, ?_⟩
  · have hd : heapOk (l.length - 1) (popL l) := by
      unfold popL
      refine down_heap _ _ _ _ (by omega) (by rw [swapL_length]; omega) ?_ ?_
      · intro t ht0 htn hne'
        rw [gt_swap l _ _ _ hl (by omega), gt_swap l _ _ _ hl (by omega), if_neg (by omega), if_neg (by omega), if_neg (by omega), if_neg (by omega)]
        exact h t ht0 (by omega)
      · intro c _ _ _ h0; omega
    have hr : (popR l).length = l.length - 1 := by
      rcases popR_length l with h | h
      · exact h
      · exact absurd h hne
    unfold heapL
    rw [hr]
    intro i hi0 hin
    have e : ∀ t, t < l.length - 1 → gt (popR l) t = gt (popL l) t := by
      intro t ht
      unfold popR gt
      simp [List.getD, ht]
    rw [e _ hin, e _ (by omega)]
    exact hd i hi0 hin
  · intro s hs
    rw [hS]
    obtain ⟨i, hi, rfl⟩ := List.mem_iff_getElem.1 hs
    have := heap_min h i hi
    rwa [show gt l i = l[i] by simp [gt, List.getD, hi]] at this

end Dn
