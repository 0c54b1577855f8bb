import Derived.Test.YtcclgodahlinbaaGreatDoorMWay
namespace Dn

structure Srch where
  op : List Spot
  turns : Nat
  led : List Nat

def idx (m x y : Nat) : Nat := x * (m + 1) + y

theorem idx_inj {m x y x' y' : Nat} (h : y ≤ m) (h' : y' ≤ m) (e : idx m x y = idx m x' y') : x = x' ∧ y = y' := by
  unfold idx at e
  have a : (x * (m + 1) + y) / (m + 1) = x := by rw [Nat.mul_comm, Nat.mul_add_div (by omega)]; simp [Nat.div_eq_of_lt (show y < m + 1 by omega)]
  have b : (x' * (m + 1) + y') / (m + 1) = x' := by rw [Nat.mul_comm, Nat.mul_add_div (by omega)]; simp [Nat.div_eq_of_lt (show y' < m + 1 by omega)]
  have : x = x' := by rw [← a, ← b, e]
  subst this
  omega

theorem idx_lt {n m x y : Nat} (hx : x ≤ n) (hy : y ≤ m) : idx m x y < (n + 1) * (m + 1) := by
  unfold idx
  have : x * (m + 1) ≤ n * (m + 1) := Nat.mul_le_mul_right _ hx
  rw [Nat.add_mul]; omega

section
variable {α : Type} [DecidableEq α] (o f : List α)

def Srch.at (st : Srch) (m x y : Nat) : Nat := st.led.getD (idx m x y) 0

def changeM (m : Nat) (st : Srch) (p : Spot) (dx dy kind : Nat) : Srch :=
  if st.at m (p.x + dx) (p.y + dy) = 0 then
    { op := pushM st.op ⟨p.x + dx, p.y + dy, p.far + 1, st.turns + 1, kind⟩, turns := st.turns + 1, led := st.led }
  else st

def same (x y : Nat) : Bool := decide (x < o.length ∧ y < f.length ∧ o[x]? = f[y]?)

def settleM (st : Srch) (p : Spot) : Srch :=
  if st.at f.length p.x p.y = 0 then
    let st1 : Srch := { st with led := st.led.set (idx f.length p.x p.y) p.kind }
    if same o f p.x p.y = true then { st1 with op := pushM st1.op ⟨p.x + 1, p.y + 1, p.far, p.turn, 32⟩ }
    else
      let st2 := if p.x < o.length then changeM f.length st1 p 1 0 45 else st1
      if p.y < f.length then changeM f.length st2 p 0 1 43 else st2
  else st

def startM : Srch := { op := [⟨0, 0, 0, 0, 46⟩], turns := 0, led := List.replicate ((o.length + 1) * (f.length + 1)) 0 }

def roundM (st : Srch) : Srch := settleM o f { st with op := popR st.op } (popS st.op)

/-- how a place may be led to -/
def Led (st : Srch) (x y kind : Nat) : Prop :=
  (kind = 46 ∧ x = 0 ∧ y = 0) ∨
  (kind = 32 ∧ 0 < x ∧ 0 < y ∧ same o f (x - 1) (y - 1) = true ∧ st.at f.length (x - 1) (y - 1) ≠ 0) ∨
  (kind = 45 ∧ 0 < x ∧ st.at f.length (x - 1) y ≠ 0) ∨
  (kind = 43 ∧ 0 < y ∧ st.at f.length x (y - 1) ≠ 0)

/-- a place is known or will be -/
def Soon (st : Srch) (x y : Nat) : Prop := st.at f.length x y ≠ 0 ∨ ∃ s ∈ st.op, s.x = x ∧ s.y = y

def zeros (l : List Nat) : Nat := l.count 0

structure Inv (st : Srch) : Prop where
  len : st.led.length = (o.length + 1) * (f.length + 1)
  spots : ∀ s ∈ st.op, s.x ≤ o.length ∧ s.y ≤ f.length ∧ s.far ≤ st.turns ∧ s.turn ≤ st.turns ∧ Led o f st s.x s.y s.kind
  known : ∀ x y, x ≤ o.length → y ≤ f.length → st.at f.length x y ≠ 0 → Led o f st x y (st.at f.length x y)
  start : Soon f st 0 0
  next : ∀ x y, x ≤ o.length → y ≤ f.length → st.at f.length x y ≠ 0 →
    if same o f x y = true then Soon f st (x + 1) (y + 1)
    else (x < o.length → Soon f st (x + 1) y) ∧ (y < f.length → Soon f st x (y + 1))
  turns : st.turns + 2 * zeros st.led ≤ 2 * st.led.length

theorem same_lt {x y : Nat} (h : same o f x y = true) : x < o.length ∧ y < f.length := by
  unfold same at h; simp at h; exact ⟨h.1, h.2.1⟩

theorem startM_inv : Inv o f (startM o f) where
  len := by simp [startM]
  spots := by
    intro s hs
    simp [startM] at hs
    subst hs
    simp [startM, Led]
  known := by
    intro x y hx hy h
    exfalso; apply h
    simp [startM, Srch.at, List.getD, List.getElem?_replicate]
    split <;> rfl
  start := by
    right; exact ⟨⟨0, 0, 0, 0, 46⟩, by simp [startM], rfl, rfl⟩
  next := by
    intro x y hx hy h
    exfalso; apply h
    simp [startM, Srch.at, List.getD, List.getElem?_replicate]
    split <;> rfl
  turns := by simp [startM, zeros]

/-- where the end isn't known yet something is open -/
theorem Inv.open_ne {o f : List α} {st : Srch} (h : Inv o f st) (he : st.at f.length o.length f.length = 0) : st.op ≠ [] := by
  intro h0
  have soon : ∀ x y, Soon f st x y → st.at f.length x y ≠ 0 := by
    intro x y hs
    rcases hs with hs | ⟨s, hs, _⟩
    · exact hs
    · rw [h0] at hs; simp at hs
  have key : ∀ k x y, x ≤ o.length → y ≤ f.length → (o.length - x) + (f.length - y) = k → st.at f.length x y ≠ 0 → False := by
    intro k
    induction k using Nat.strongRecOn with
    | ind k ih =>
      intro x y hx hy hk hr
      have hn := h.next x y hx hy hr
      split at hn
      · rename_i hsame
        have := same_lt o f hsame
        exact ih _ (by omega) (x + 1) (y + 1) (by omega) (by omega) rfl (soon _ _ hn)
      · by_cases hxl : x < o.length
        · exact ih _ (by omega) (x + 1) y (by omega) (by omega) rfl (soon _ _ (hn.1 hxl))
        · by_cases hyl : y < f.length
          · exact ih _ (by omega) x (y + 1) (by omega) (by omega) rfl (soon _ _ (hn.2 hyl))
          · have : x = o.length := by omega
            have : y = f.length := by omega
            subst_vars
            exact hr he
  exact key _ 0 0 (by omega) (by omega) rfl (soon _ _ h.start)

end
end Dn
