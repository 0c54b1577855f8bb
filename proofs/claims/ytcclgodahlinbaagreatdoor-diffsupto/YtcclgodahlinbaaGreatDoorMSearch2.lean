import Derived.Test.YtcclgodahlinbaaGreatDoorMSearch
namespace Dn
section
set_option linter.unusedSectionVars false
variable {α : Type} [DecidableEq α] {o f : List α}

theorem Led.mono {st st' : Srch} {x y k : Nat} (hm : ∀ x y, y ≤ f.length → st.at f.length x y ≠ 0 → st'.at f.length x y ≠ 0) (hy : y ≤ f.length)
    (h : Led o f st x y k) : Led o f st' x y k := by
  rcases h with h | ⟨a, b, c, d, e⟩ | ⟨a, b, c⟩ | ⟨a, b, c⟩
  · exact .inl h
  · exact .inr (.inl ⟨a, b, c, d, hm _ _ (by omega) e⟩)
  · exact .inr (.inr (.inl ⟨a, b, hm _ _ hy c⟩))
  · exact .inr (.inr (.inr ⟨a, b, hm _ _ (by omega) c⟩))

theorem Led.pos {st : Srch} {x y k : Nat} (h : Led o f st x y k) : k ≠ 0 := by
  rcases h with h | h | h | h <;> omega

theorem at_set {st : Srch} {n m x0 y0 x y k : Nat} (hl : st.led.length = (n + 1) * (m + 1)) (hx0 : x0 ≤ n) (hy0 : y0 ≤ m) (hy : y ≤ m) (op : List Spot) (t : Nat) :
    Srch.at { op := op, turns := t, led := st.led.set (idx m x0 y0) k } m x y = if x = x0 ∧ y = y0 then k else st.at m x y := by
  have hlt : idx m x0 y0 < st.led.length := by rw [hl]; exact idx_lt hx0 hy0
  unfold Srch.at
  simp only [List.getD, List.getElem?_set]
  split
  · rename_i h
    have := idx_inj hy0 hy h
    rw [if_pos ⟨this.1.symm, this.2.symm⟩]
    rfl
  · rename_i h
    rw [if_neg]
    rintro ⟨rfl, rfl⟩
    exact h rfl

theorem zeros_set {l : List Nat} {i k : Nat} (hi : i < l.length) (h0 : l.getD i 0 = 0) (hk : k ≠ 0) : zeros (l.set i k) + 1 = zeros l := by
  unfold zeros
  have hz : l[i] = 0 := by simpa [List.getD, hi] using h0
  rw [List.count_set hi]
  have hp : 0 < l.count 0 := List.count_pos_iff.2 (hz ▸ List.getElem_mem hi)
  simp [hz, hk]
  omega

/-- a push of a right spot keeps all but the turns -/
theorem Inv.push {st : Srch} (h : Inv o f st) (s : Spot) (t : Nat) (hx : s.x ≤ o.length) (hy : s.y ≤ f.length) (hled : Led o f st s.x s.y s.kind)
    (hfar : s.far ≤ t) (hturn : s.turn ≤ t) (hmono : st.turns ≤ t) (ht : t + 2 * zeros st.led ≤ 2 * st.led.length) :
    Inv o f { op := pushM st.op s, turns := t, led := st.led } := by
  have hmem : ∀ q, q ∈ pushM st.op s ↔ q ∈ st.op ∨ q = s := by
    intro q; rw [(pushM_perm st.op s).mem_iff]; simp
  have hsoon : ∀ x y, Soon f st x y → Soon f { op := pushM st.op s, turns := t, led := st.led } x y := by
    intro x y hs
    rcases hs with hs | ⟨q, hq, e⟩
    · exact .inl hs
    · exact .inr ⟨q, (hmem q).2 (.inl hq), e⟩
  refine ⟨h.len, ?_, h.known, hsoon _ _ h.start, ?_, ht⟩
  · intro q hq
    rcases (hmem q).1 hq with hq | rfl
    · obtain ⟨a, b, c, d, e⟩ := h.spots q hq
      exact ⟨a, b, Nat.le_trans c hmono, Nat.le_trans d hmono, e⟩
    · exact ⟨hx, hy, hfar, hturn, hled⟩
  · intro x y hx hy hr
    have := h.next x y hx hy hr
    split at this
    · rename_i hs; rw [if_pos hs]; exact hsoon _ _ this
    · rename_i hs; rw [if_neg hs]; exact ⟨fun a => hsoon _ _ (this.1 a), fun a => hsoon _ _ (this.2 a)⟩

/-- all of the invariant but that what is behind (x0, y0) is known or open -/
structure Inv0 (o f : List α) (x0 y0 : Nat) (b : Nat) (st : Srch) : Prop where
  len : st.led.length = (o.length + 1) * (f.length + 1)
  spots : ∀ s ∈ st.op, s.x ≤ o.length ∧ s.y ≤ f.length ∧ s.far ≤ st.turns ∧ s.turn ≤ st.turns ∧ Led o f st s.x s.y s.kind
  known : ∀ x y, x ≤ o.length → y ≤ f.length → st.at f.length x y ≠ 0 → Led o f st x y (st.at f.length x y)
  start : Soon f st 0 0
  next : ∀ x y, x ≤ o.length → y ≤ f.length → st.at f.length x y ≠ 0 → ¬ (x = x0 ∧ y = y0) →
    if same o f x y = true then Soon f st (x + 1) (y + 1)
    else (x < o.length → Soon f st (x + 1) y) ∧ (y < f.length → Soon f st x (y + 1))
  here : st.at f.length x0 y0 ≠ 0
  turns : st.turns + 2 * zeros st.led + b ≤ 2 * st.led.length

theorem Inv0.push {x0 y0 b b' : Nat} {st : Srch} (h : Inv0 o f x0 y0 b st) (s : Spot) (t : Nat) (hx : s.x ≤ o.length) (hy : s.y ≤ f.length) (hled : Led o f st s.x s.y s.kind)
    (hfar : s.far ≤ t) (hturn : s.turn ≤ t) (hmono : st.turns ≤ t) (ht : t + 2 * zeros st.led + b' ≤ 2 * st.led.length) :
    Inv0 o f x0 y0 b' { op := pushM st.op s, turns := t, led := st.led } := by
  have hmem : ∀ q, q ∈ pushM st.op s ↔ q ∈ st.op ∨ q = s := by
    intro q; rw [(pushM_perm st.op s).mem_iff]; simp
  have hsoon : ∀ x y, Soon f st x y → Soon f { op := pushM st.op s, turns := t, led := st.led } x y := by
    intro x y hs
    rcases hs with hs | ⟨q, hq, e⟩
    · exact .inl hs
    · exact .inr ⟨q, (hmem q).2 (.inl hq), e⟩
  refine ⟨h.len, ?_, h.known, hsoon _ _ h.start, ?_, h.here, ht⟩
  · intro q hq
    rcases (hmem q).1 hq with hq | rfl
    · obtain ⟨a, b, c, d, e⟩ := h.spots q hq
      exact ⟨a, b, Nat.le_trans c hmono, Nat.le_trans d hmono, e⟩
    · exact ⟨hx, hy, hfar, hturn, hled⟩
  · intro x y hx hy hr hne
    have := h.next x y hx hy hr hne
    split at this
    · rename_i hs; rw [if_pos hs]; exact hsoon _ _ this
    · rename_i hs; rw [if_neg hs]; exact ⟨fun a => hsoon _ _ (this.1 a), fun a => hsoon _ _ (this.2 a)⟩

theorem soon_push {st : Srch} (s : Spot) (t : Nat) : Soon f { op := pushM st.op s, turns := t, led := st.led } s.x s.y :=
  .inr ⟨s, (pushM_perm st.op s).mem_iff.2 (by simp), rfl, rfl⟩

/-- change: the turn goes up by one at most; what is meant is known or open; nothing else is lost -/
theorem Inv0.change {x0 y0 b : Nat} {st : Srch} (h : Inv0 o f x0 y0 (b + 1) st) (p : Spot) (dx dy kind : Nat) (hx : p.x + dx ≤ o.length) (hy : p.y + dy ≤ f.length)
    (hp : p.far ≤ st.turns) (hled : Led o f st (p.x + dx) (p.y + dy) kind) :
    Inv0 o f x0 y0 b (changeM f.length st p dx dy kind) ∧ Soon f (changeM f.length st p dx dy kind) (p.x + dx) (p.y + dy) ∧
    st.turns ≤ (changeM f.length st p dx dy kind).turns ∧ (changeM f.length st p dx dy kind).led = st.led ∧
    (changeM f.length st p dx dy kind).op.length ≤ st.op.length + 1 ∧
    (∀ x y, Soon f st x y → Soon f (changeM f.length st p dx dy kind) x y) := by
  have ht := h.turns
  unfold changeM
  split
  · rename_i h0
    refine ⟨h.push _ _ hx hy hled (Nat.succ_le_succ hp) (Nat.le_refl _) (Nat.le_succ _) (by omega), soon_push _ _, by simp, rfl, by simp [pushM_length], ?_⟩
    intro x y hs
    rcases hs with hs | ⟨q, hq, e⟩
    · exact .inl hs
    · exact .inr ⟨q, (pushM_perm st.op _).mem_iff.2 (by simp [hq]), e⟩
  · rename_i h0
    exact ⟨⟨h.len, h.spots, h.known, h.start, h.next, h.here, by omega⟩, .inl h0, Nat.le_refl _, rfl, by omega, fun _ _ h => h⟩

/-- pop, then settle: the invariant holds again, and less is left to be done -/
theorem Inv.round {st : Srch} (h : Inv o f st) (hne : st.op ≠ []) :
    Inv o f (roundM o f st) ∧ 3 * zeros (roundM o f st).led + (roundM o f st).op.length < 3 * zeros st.led + st.op.length := by
  have hperm := pop_perm st.op hne
  have hmem : ∀ q, q ∈ st.op ↔ q ∈ popR st.op ∨ q = popS st.op := by
    intro q; rw [← hperm.mem_iff]; simp
  have hlen : (popR st.op).length + 1 = st.op.length := by have := hperm.length_eq; simpa using this
  obtain ⟨px, py, pf, pt, pl⟩ := h.spots _ ((hmem _).2 (.inr rfl))
  have ht := h.turns
  unfold roundM settleM
  simp only
  generalize hs : popS st.op = s at *
  have hat : ∀ x y, Srch.at { op := popR st.op, turns := st.turns, led := st.led } f.length x y = st.at f.length x y := fun _ _ => rfl
  rw [hat]
  split
  · rename_i h0
    have hset := fun x y (hy : y ≤ f.length) => at_set (st := st) (n := o.length) (m := f.length) (x0 := s.x) (y0 := s.y) (x := x) (y := y) (k := s.kind) h.len px py hy (popR st.op) st.turns
    have hz := zeros_set (l := st.led) (i := idx f.length s.x s.y) (k := s.kind) (by rw [h.len]; exact idx_lt px py) h0 pl.pos
    have hmono : ∀ x y, y ≤ f.length → st.at f.length x y ≠ 0 → Srch.at { op := popR st.op, turns := st.turns, led := st.led.set (idx f.length s.x s.y) s.kind } f.length x y ≠ 0 := by
      intro x y hy hr
      rw [hset x y hy]
      split
      · exact pl.pos
      · exact hr
    have hsoon : ∀ x y, x ≤ o.length → y ≤ f.length → Soon f st x y → Soon f { op := popR st.op, turns := st.turns, led := st.led.set (idx f.length s.x s.y) s.kind } x y := by
      intro x y hx hy hh
      rcases hh with hh | ⟨q, hq, e1, e2⟩
      · exact .inl (hmono x y hy hh)
      · rcases (hmem q).1 hq with hq | rfl
        · exact .inr ⟨q, hq, e1, e2⟩
        · left
          rw [hset x y hy, if_pos ⟨e1.symm, e2.symm⟩]
          exact pl.pos
    have i0 : Inv0 o f s.x s.y 2 { op := popR st.op, turns := st.turns, led := st.led.set (idx f.length s.x s.y) s.kind } := by
      refine ⟨by simpa using h.len, ?_, ?_, hsoon _ _ (by omega) (by omega) h.start, ?_, ?_, ?_⟩
      · intro q hq
        obtain ⟨a, b, c, d, e⟩ := h.spots q ((hmem q).2 (.inl hq))
        exact ⟨a, b, c, d, e.mono hmono b⟩
      · intro x y hx hy hr
        rw [hset x y hy] at hr ⊢
        split
        · rename_i e
          rw [e.1, e.2]
          exact pl.mono hmono py
        · rename_i e
          rw [if_neg e] at hr
          exact (h.known x y hx hy hr).mono hmono hy
      · intro x y hx hy hr hne'
        rw [hset x y hy, if_neg hne'] at hr
        have := h.next x y hx hy hr
        split at this
        · rename_i hs'
          rw [if_pos hs']
          have hlt := same_lt o f hs'
          exact hsoon _ _ (by omega) (by omega) this
        · rename_i hs'
          rw [if_neg hs']
          exact ⟨fun a => hsoon _ _ (by omega) (by omega) (this.1 a), fun a => hsoon _ _ (by omega) (by omega) (this.2 a)⟩
      · rw [hset _ _ py, if_pos ⟨rfl, rfl⟩]; exact pl.pos
      · simp only [List.length_set]
        omega
    split
    · rename_i hsame
      have hlt := same_lt o f hsame
      have hat1 := i0.here
      have i1 := i0.push (b' := 0) ⟨s.x + 1, s.y + 1, s.far, s.turn, 32⟩ st.turns (by simp; omega) (by simp; omega)
        (by right; left; exact ⟨rfl, by simp, by simp, by simpa using hsame, by simpa using hat1⟩) pf pt (Nat.le_refl _) (by have := i0.turns; simp at this ⊢; omega)
      refine ⟨⟨i1.len, i1.spots, i1.known, i1.start, ?_, i1.turns⟩, ?_⟩
      · intro x y hx hy hr
        by_cases e : x = s.x ∧ y = s.y
        · rw [e.1, e.2, if_pos hsame]
          exact soon_push (st := { op := popR st.op, turns := st.turns, led := st.led.set (idx f.length s.x s.y) s.kind }) ⟨s.x + 1, s.y + 1, s.far, s.turn, 32⟩ st.turns
        · exact i1.next x y hx hy hr e
      · simp only [pushM_length]
        omega
    · rename_i hsame
      have hsf : same o f s.x s.y = false := by simpa using hsame
      have key : ∃ st2 : Srch, st2 = (if s.x < o.length then changeM f.length { op := popR st.op, turns := st.turns, led := st.led.set (idx f.length s.x s.y) s.kind } s 1 0 45 else { op := popR st.op, turns := st.turns, led := st.led.set (idx f.length s.x s.y) s.kind }) ∧
          Inv0 o f s.x s.y 1 st2 ∧ (s.x < o.length → Soon f st2 (s.x + 1) s.y) ∧ st.turns ≤ st2.turns ∧ st2.led = st.led.set (idx f.length s.x s.y) s.kind ∧ st2.op.length ≤ (popR st.op).length + 1 := by
        refine ⟨_, rfl, ?_⟩
        split
        · rename_i hxl
          have hat1 := i0.here
          obtain ⟨a, b, c, d, e, _⟩ := i0.change s 1 0 45 (by omega) (by omega) pf (by right; right; left; exact ⟨rfl, by omega, by simpa using hat1⟩)
          exact ⟨a, fun _ => by simpa using b, c, d, e⟩
        · exact ⟨⟨i0.len, i0.spots, i0.known, i0.start, i0.next, i0.here, by have := i0.turns; omega⟩, fun hh => absurd hh (by assumption), Nat.le_refl _, rfl, by simp⟩
      obtain ⟨st2, hst2, j1, j2, j3, j4, j5⟩ := key
      rw [← hst2]
      split
      · rename_i hyl
        have hat1 := j1.here
        obtain ⟨a, b, c, d, e, g⟩ := j1.change s 0 1 43 (by omega) (by omega) (by omega) (by right; right; right; exact ⟨rfl, by omega, by simpa using hat1⟩)
        refine ⟨⟨a.len, a.spots, a.known, a.start, ?_, a.turns⟩, ?_⟩
        · intro x y hx hy hr
          by_cases e : x = s.x ∧ y = s.y
          · rw [e.1, e.2, if_neg (by simp [hsf])]
            exact ⟨fun hh => g _ _ (j2 hh), fun _ => by simpa using b⟩
          · exact a.next x y hx hy hr e
        · rw [d, j4]; omega
      · rename_i hyl
        refine ⟨⟨j1.len, j1.spots, j1.known, j1.start, ?_, by have := j1.turns; omega⟩, ?_⟩
        · intro x y hx hy hr
          by_cases e : x = s.x ∧ y = s.y
          · rw [e.1, e.2, if_neg (by simp [hsf])]
            exact ⟨j2, fun hh => absurd hh hyl⟩
          · exact j1.next x y hx hy hr e
        · rw [j4]; omega
  · rename_i h0
    have hsoon : ∀ x y, Soon f st x y → Soon f { op := popR st.op, turns := st.turns, led := st.led } x y := by
      intro x y hh
      rcases hh with hh | ⟨q, hq, e1, e2⟩
      · exact .inl hh
      · rcases (hmem q).1 hq with hq | rfl
        · exact .inr ⟨q, hq, e1, e2⟩
        · left
          rw [← e1, ← e2]; exact h0
    refine ⟨⟨h.len, ?_, h.known, hsoon _ _ h.start, ?_, ht⟩, ?_⟩
    · intro q hq
      exact h.spots q ((hmem q).2 (.inl hq))
    · intro x y hx hy hr
      have := h.next x y hx hy hr
      split at this
      · rename_i hs'; rw [if_pos hs']; exact hsoon _ _ this
      · rename_i hs'; rw [if_neg hs']; exact ⟨fun a => hsoon _ _ (this.1 a), fun a => hsoon _ _ (this.2 a)⟩
    · simp only; omega

end
end Dn
