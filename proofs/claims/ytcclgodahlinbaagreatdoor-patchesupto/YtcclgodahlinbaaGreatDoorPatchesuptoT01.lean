import Derived.Test.YtcclgodahlinbaaGreatDoorProg
import Derived.WalkKit
import Derived.WalkSpells
import Derived.WalkLawsBesides
import Derived.Laws.ComplexArith
import Derived.Deep.QuietTactic
import Derived.BigQuiet
import Derived.BigRegion
import Derived.Deep.RegionWith
import Derived.Deep.RegionLaw
import Derived.StillTailTactics
namespace Go.Proofs.YtcclgodahlinbaaGreatDoor
open Go.RowKit Go
def fl (k : Nat) : Nat := floatOfInt .f64 k
def flOk (k : Nat) : Bool :=
  (floatToIntVal .f64 (fl k) .i64 == some (k : Int)) && (floatBits .add .f64 (fl k) 4607182418800017408 == some (fl (k + 1))) && (floatBits .add .f64 (fl k) 0 == some (fl k)) &&
  (floatBits .sub .f64 (fl (k + 1)) 4607182418800017408 == some (fl k)) && (floatBits .sub .f64 (fl k) 0 == some (fl k))
theorem fl_all : (List.range 210).all flOk = true := by kernel_rfl
theorem fl_ok (k : Nat) (h : k < 210) : flOk k = true := List.all_eq_true.1 fl_all k (List.mem_range.2 h)
theorem fl_int {k : Nat} (h : k < 210) : floatToIntVal .f64 (fl k) .i64 = some (k : Int) := by
  have := fl_ok k h; simp [flOk] at this; exact this.1.1.1.1
theorem fl_add1 {k : Nat} (h : k < 210) : floatBits .add .f64 (fl k) 4607182418800017408 = some (fl (k + 1)) := by
  have := fl_ok k h; simp [flOk] at this; exact this.1.1.1.2
theorem fl_add0 {k : Nat} (h : k < 210) : floatBits .add .f64 (fl k) 0 = some (fl k) := by
  have := fl_ok k h; simp [flOk] at this; exact this.1.1.2
theorem fl_sub1 {k : Nat} (h : k < 210) : floatBits .sub .f64 (fl (k + 1)) 4607182418800017408 = some (fl k) := by
  have := fl_ok k h; simp [flOk] at this; exact this.1.2
theorem fl_sub0 {k : Nat} (h : k < 210) : floatBits .sub .f64 (fl k) 0 = some (fl k) := by
  have := fl_ok k h; simp [flOk] at this; exact this.2
theorem und108 : (Tryz.prog.underlying 108).isSome = true := by kernel_rfl
theorem und3 : Tryz.prog.underlying 3 = some (.int .i64) := by kernel_rfl
theorem conv_fl {k : Nat} (h : k < 210) (w : World) : (convert 108 3 (.float .f64 (fl k))).run Tryz.prog w = .ok (.int .i64 k) w :=
  run_convert_float_int w 108 3 .f64 .i64 (fl k) k und108 und3 (fl_int h)
theorem cadd_drop {x y : Nat} (hx : x < 210) (hy : y < 210) (w : World) :
    (binOp .add 107 (.complex .f64 (fl x) (fl y)) (.complex .f64 4607182418800017408 0)).run Tryz.prog w = .ok (.complex .f64 (fl (x + 1)) (fl y)) w :=
  run_complex_sum w .add (.inl rfl) _ _ _ _ _ _ _ _ (by simp [cSumBits, fl_add1 hx, fl_add0 hy])
theorem cadd_add {x y : Nat} (hx : x < 210) (hy : y < 210) (w : World) :
    (binOp .add 107 (.complex .f64 (fl x) (fl y)) (.complex .f64 0 4607182418800017408)).run Tryz.prog w = .ok (.complex .f64 (fl x) (fl (y + 1))) w :=
  run_complex_sum w .add (.inl rfl) _ _ _ _ _ _ _ _ (by simp [cSumBits, fl_add0 hx, fl_add1 hy])
theorem cadd_keep {x y : Nat} (hx : x < 210) (hy : y < 210) (w : World) :
    (binOp .add 107 (.complex .f64 (fl x) (fl y)) (.complex .f64 4607182418800017408 4607182418800017408)).run Tryz.prog w = .ok (.complex .f64 (fl (x + 1)) (fl (y + 1))) w :=
  run_complex_sum w .add (.inl rfl) _ _ _ _ _ _ _ _ (by simp [cSumBits, fl_add1 hx, fl_add1 hy])
theorem csub_drop {x y : Nat} (hx : x < 210) (hy : y < 210) (w : World) :
    (binOp .sub 107 (.complex .f64 (fl (x + 1)) (fl y)) (.complex .f64 4607182418800017408 0)).run Tryz.prog w = .ok (.complex .f64 (fl x) (fl y)) w :=
  run_complex_sum w .sub (.inr rfl) _ _ _ _ _ _ _ _ (by simp [cSumBits, fl_sub1 hx, fl_sub0 hy])
theorem csub_add {x y : Nat} (hx : x < 210) (hy : y < 210) (w : World) :
    (binOp .sub 107 (.complex .f64 (fl x) (fl (y + 1))) (.complex .f64 0 4607182418800017408)).run Tryz.prog w = .ok (.complex .f64 (fl x) (fl y)) w :=
  run_complex_sum w .sub (.inr rfl) _ _ _ _ _ _ _ _ (by simp [cSumBits, fl_sub0 hx, fl_sub1 hy])
theorem csub_keep {x y : Nat} (hx : x < 210) (hy : y < 210) (w : World) :
    (binOp .sub 107 (.complex .f64 (fl (x + 1)) (fl (y + 1))) (.complex .f64 4607182418800017408 4607182418800017408)).run Tryz.prog w = .ok (.complex .f64 (fl x) (fl y)) w :=
  run_complex_sum w .sub (.inr rfl) _ _ _ _ _ _ _ _ (by simp [cSumBits, fl_sub1 hx, fl_sub1 hy])
theorem fl_zero : fl 0 = 0 := by kernel_rfl
end Go.Proofs.YtcclgodahlinbaaGreatDoor
namespace Dn
structure Spot where
  x : Nat
  y : Nat
  far : Nat
  turn : Nat
  kind : Nat
abbrev noSpot : Spot := ⟨0, 0, 0, 0, 0⟩
def Spot.less (a b : Spot) : Bool := if a.far = b.far then decide (a.turn < b.turn) else decide (a.far < b.far)
def swapL (l : List Spot) (i j : Nat) : List Spot := (l.set i (l.getD j noSpot)).set j (l.getD i noSpot)
def upM : Nat → List Spot → Nat → List Spot
  | 0, l, _ => l
  | k + 1, l, j =>
    let i := (j - 1) / 2
    if i = j ∨ Spot.less (l.getD j noSpot) (l.getD i noSpot) = false then l else upM k (swapL l i j) i
def downJ (l : List Spot) (i n : Nat) : Nat :=
  if 2 * i + 2 < n ∧ Spot.less (l.getD (2 * i + 2) noSpot) (l.getD (2 * i + 1) noSpot) = true then 2 * i + 2 else 2 * i + 1
def downM : Nat → List Spot → Nat → Nat → List Spot
  | 0, l, _, _ => l
  | k + 1, l, i, n =>
    if n ≤ 2 * i + 1 then l
    else if Spot.less (l.getD (downJ l i n) noSpot) (l.getD i noSpot) = false then l
    else downM k (swapL l i (downJ l i n)) (downJ l i n) n
def pushM (l : List Spot) (s : Spot) : List Spot := upM (l.length + 1) (l ++ [s]) l.length
def popL (l : List Spot) : List Spot := downM l.length (swapL l 0 (l.length - 1)) 0 (l.length - 1)
def popS (l : List Spot) : Spot := (popL l).getD (l.length - 1) noSpot
def popR (l : List Spot) : List Spot := (popL l).take (l.length - 1)
theorem swapL_length (l : List Spot) (i j : Nat) : (swapL l i j).length = l.length := by simp [swapL]
theorem set_perm {α} (d : α) (l : List α) (i j : Nat) (hi : i < l.length) (hj : j < l.length) :
    List.Perm ((l.set i (l.getD j d)).set j (l.getD i d)) l := by
  classical
  letI : DecidableEq α := fun a b => Classical.propDecidable (a = b)
  rw [List.perm_iff_count]
  intro a
  have e1 : l.getD j d = l[j] := by simp [List.getD, hj]
  have e2 : l.getD i d = l[i] := by simp [List.getD, hi]
  rw [e1, e2]
  by_cases hij : i = j
  · subst hij; simp
  · rw [List.count_set (by simpa using hj), List.count_set hi]
    have : (l.set i l[j])[j]'(by simpa using hj) = l[j] := by
      rw [List.getElem_set]; simp [hij]
    rw [this]
    have c1 : (if l[i] == a then 1 else 0) ≤ List.count a l := by
      split
      · rename_i h; simp at h; subst h; exact List.count_pos_iff.2 (List.getElem_mem hi)
      · omega
    omega
theorem swapL_perm (l : List Spot) (i j : Nat) (hi : i < l.length) (hj : j < l.length) : (swapL l i j).Perm l :=
  set_perm noSpot l i j hi hj
theorem upM_perm : ∀ (k : Nat) (l : List Spot) (j : Nat), j < l.length → (upM k l j).Perm l
  | 0, l, _, _ => by simp [upM]
  | k + 1, l, j, h => by
    unfold upM
    simp only
    split
    · exact List.Perm.refl _
    · have hi : (j - 1) / 2 < l.length := by omega
      exact (upM_perm k _ _ (by rw [swapL_length]; exact hi)).trans (swapL_perm l _ _ hi h)
theorem downJ_lt (l : List Spot) (i n : Nat) (h : 2 * i + 1 < n) : downJ l i n < n := by
  unfold downJ; split <;> omega
theorem downJ_gt (l : List Spot) (i n : Nat) : i < downJ l i n := by
  unfold downJ; split <;> omega
theorem downM_perm : ∀ (k : Nat) (l : List Spot) (i n : Nat), n ≤ l.length → (downM k l i n).Perm l
  | 0, l, _, _, _ => by simp [downM]
  | k + 1, l, i, n, h => by
    unfold downM
    split
    · exact List.Perm.refl _
    · split
      · exact List.Perm.refl _
      · have hj := downJ_lt l i n (by omega)
        have := downJ_gt l i n
        exact (downM_perm k _ _ _ (by rw [swapL_length]; exact h)).trans (swapL_perm l _ _ (by omega) (by omega))
theorem pushM_perm (l : List Spot) (s : Spot) : (pushM l s).Perm (l ++ [s]) := upM_perm _ _ _ (by simp)
theorem pushM_length (l : List Spot) (s : Spot) : (pushM l s).length = l.length + 1 := by
  have := (pushM_perm l s).length_eq; simpa using this
theorem popL_perm (l : List Spot) (h : l ≠ []) : (popL l).Perm l := by
  have hl : 0 < l.length := List.length_pos_iff.2 h
  exact (downM_perm _ _ _ _ (by rw [swapL_length]; omega)).trans (swapL_perm l _ _ hl (by omega))
theorem popL_length (l : List Spot) (h : l ≠ []) : (popL l).length = l.length := (popL_perm l h).length_eq
theorem pop_perm (l : List Spot) (h : l ≠ []) : (popR l ++ [popS l]).Perm l := by
  have hl : 0 < l.length := List.length_pos_iff.2 h
  have e : popR l ++ [popS l] = popL l := by
    unfold popR popS
    have hp := popL_length l h
    have hlt : l.length - 1 < (popL l).length := by omega
    rw [show (popL l).getD (l.length - 1) noSpot = (popL l)[l.length - 1] by simp [List.getD, hlt]]
    rw [← List.take_succ_eq_append_getElem hlt]
    rw [List.take_of_length_le (by omega)]
  rw [e]; exact popL_perm l h
theorem popR_length (l : List Spot) : (popR l).length = l.length - 1 ∨ l = [] := by
  by_cases h : l = []
  · exact .inr h
  · left; unfold popR; rw [List.length_take, popL_length l h]; omega
end Dn
namespace Dn
structure Srch where
  op : List Spot
  turns : Nat
  led : List Nat
def idx (m x y : Nat) : Nat := x * (m + 1) + y
theorem idx_inj {m x y x' y' : Nat} (h : y ≤ m) (h' : y' ≤ m) (e : idx m x y = idx m x' y') : x = x' ∧ y = y' := by
  unfold idx at e
  have a : (x * (m + 1) + y) / (m + 1) = x := by rw [Nat.mul_comm, Nat.mul_add_div (by omega)]; simp [Nat.div_eq_of_lt (show y < m + 1 by omega)]
  have b : (x' * (m + 1) + y') / (m + 1) = x' := by rw [Nat.mul_comm, Nat.mul_add_div (by omega)]; simp [Nat.div_eq_of_lt (show y' < m + 1 by omega)]
  have : x = x' := by rw [← a, ← b, e]
  subst this
  omega
theorem idx_lt {n m x y : Nat} (hx : x ≤ n) (hy : y ≤ m) : idx m x y < (n + 1) * (m + 1) := by
  unfold idx
  have : x * (m + 1) ≤ n * (m + 1) := Nat.mul_le_mul_right _ hx
  rw [Nat.add_mul]; omega
section
variable {α : Type} [DecidableEq α] (o f : List α)
def Srch.at (st : Srch) (m x y : Nat) : Nat := st.led.getD (idx m x y) 0
def changeM (m : Nat) (st : Srch) (p : Spot) (dx dy kind : Nat) : Srch :=
  if st.at m (p.x + dx) (p.y + dy) = 0 then
    { op := pushM st.op ⟨p.x + dx, p.y + dy, p.far + 1, st.turns + 1, kind⟩, turns := st.turns + 1, led := st.led }
  else st
def same (x y : Nat) : Bool := decide (x < o.length ∧ y < f.length ∧ o[x]? = f[y]?)
def settleM (st : Srch) (p : Spot) : Srch :=
  if st.at f.length p.x p.y = 0 then
    let st1 : Srch := { st with led := st.led.set (idx f.length p.x p.y) p.kind }
    if same o f p.x p.y = true then { st1 with op := pushM st1.op ⟨p.x + 1, p.y + 1, p.far, p.turn, 32⟩ }
    else
      let st2 := if p.x < o.length then changeM f.length st1 p 1 0 45 else st1
      if p.y < f.length then changeM f.length st2 p 0 1 43 else st2
  else st
def startM : Srch := { op := [⟨0, 0, 0, 0, 46⟩], turns := 0, led := List.replicate ((o.length + 1) * (f.length + 1)) 0 }
def roundM (st : Srch) : Srch := settleM o f { st with op := popR st.op } (popS st.op)
def Led (st : Srch) (x y kind : Nat) : Prop :=
  (kind = 46 ∧ x = 0 ∧ y = 0) ∨
  (kind = 32 ∧ 0 < x ∧ 0 < y ∧ same o f (x - 1) (y - 1) = true ∧ st.at f.length (x - 1) (y - 1) ≠ 0) ∨
  (kind = 45 ∧ 0 < x ∧ st.at f.length (x - 1) y ≠ 0) ∨
  (kind = 43 ∧ 0 < y ∧ st.at f.length x (y - 1) ≠ 0)
def Soon (st : Srch) (x y : Nat) : Prop := st.at f.length x y ≠ 0 ∨ ∃ s ∈ st.op, s.x = x ∧ s.y = y
def zeros (l : List Nat) : Nat := l.count 0
structure Inv (st : Srch) : Prop where
  len : st.led.length = (o.length + 1) * (f.length + 1)
  spots : ∀ s ∈ st.op, s.x ≤ o.length ∧ s.y ≤ f.length ∧ s.far ≤ st.turns ∧ s.turn ≤ st.turns ∧ Led o f st s.x s.y s.kind
  known : ∀ x y, x ≤ o.length → y ≤ f.length → st.at f.length x y ≠ 0 → Led o f st x y (st.at f.length x y)
  start : Soon f st 0 0
  next : ∀ x y, x ≤ o.length → y ≤ f.length → st.at f.length x y ≠ 0 →
    if same o f x y = true then Soon f st (x + 1) (y + 1)
    else (x < o.length → Soon f st (x + 1) y) ∧ (y < f.length → Soon f st x (y + 1))
  turns : st.turns + 2 * zeros st.led ≤ 2 * st.led.length
theorem same_lt {x y : Nat} (h : same o f x y = true) : x < o.length ∧ y < f.length := by
  unfold same at h; simp at h; exact ⟨h.1, h.2.1⟩
theorem startM_inv : Inv o f (startM o f) where
  len := by simp [startM]
  spots := by
    intro s hs
    simp [startM] at hs
    subst hs
    simp [startM, Led]
  known := by
    intro x y hx hy h
    exfalso; apply h
    simp [startM, Srch.at, List.getD, List.getElem?_replicate]
    split <;> rfl
  start := by
    right; exact ⟨⟨0, 0, 0, 0, 46⟩, by simp [startM], rfl, rfl⟩
  next := by
    intro x y hx hy h
    exfalso; apply h
    simp [startM, Srch.at, List.getD, List.getElem?_replicate]
    split <;> rfl
  turns := by simp [startM, zeros]
theorem Inv.open_ne {o f : List α} {st : Srch} (h : Inv o f st) (he : st.at f.length o.length f.length = 0) : st.op ≠ [] := by
  intro h0
  have soon : ∀ x y, Soon f st x y → st.at f.length x y ≠ 0 := by
    intro x y hs
    rcases hs with hs | ⟨s, hs, _⟩
    · exact hs
    · rw [h0] at hs; simp at hs
  have key : ∀ k x y, x ≤ o.length → y ≤ f.length → (o.length - x) + (f.length - y) = k → st.at f.length x y ≠ 0 → False := by
    intro k
    induction k using Nat.strongRecOn with
    | ind k ih =>
      intro x y hx hy hk hr
      have hn := h.next x y hx hy hr
      split at hn
      · rename_i hsame
        have := same_lt o f hsame
        exact ih _ (by omega) (x + 1) (y + 1) (by omega) (by omega) rfl (soon _ _ hn)
      · by_cases hxl : x < o.length
        · exact ih _ (by omega) (x + 1) y (by omega) (by omega) rfl (soon _ _ (hn.1 hxl))
        · by_cases hyl : y < f.length
          · exact ih _ (by omega) x (y + 1) (by omega) (by omega) rfl (soon _ _ (hn.2 hyl))
          · have : x = o.length := by omega
            have : y = f.length := by omega
            subst_vars
            exact hr he
  exact key _ 0 0 (by omega) (by omega) rfl (soon _ _ h.start)
end
end Dn
namespace Dn
section
set_option linter.unusedSectionVars false
variable {α : Type} [DecidableEq α] {o f : List α}
theorem Led.mono {st st' : Srch} {x y k : Nat} (hm : ∀ x y, y ≤ f.length → st.at f.length x y ≠ 0 → st'.at f.length x y ≠ 0) (hy : y ≤ f.length)
    (h : Led o f st x y k) : Led o f st' x y k := by
  rcases h with h | ⟨a, b, c, d, e⟩ | ⟨a, b, c⟩ | ⟨a, b, c⟩
  · exact .inl h
  · exact .inr (.inl ⟨a, b, c, d, hm _ _ (by omega) e⟩)
  · exact .inr (.inr (.inl ⟨a, b, hm _ _ hy c⟩))
  · exact .inr (.inr (.inr ⟨a, b, hm _ _ (by omega) c⟩))
theorem Led.pos {st : Srch} {x y k : Nat} (h : Led o f st x y k) : k ≠ 0 := by
  rcases h with h | h | h | h <;> omega
theorem at_set {st : Srch} {n m x0 y0 x y k : Nat} (hl : st.led.length = (n + 1) * (m + 1)) (hx0 : x0 ≤ n) (hy0 : y0 ≤ m) (hy : y ≤ m) (op : List Spot) (t : Nat) :
    Srch.at { op := op, turns := t, led := st.led.set (idx m x0 y0) k } m x y = if x = x0 ∧ y = y0 then k else st.at m x y := by
  have hlt : idx m x0 y0 < st.led.length := by rw [hl]; exact idx_lt hx0 hy0
  unfold Srch.at
  simp only [List.getD, List.getElem?_set]
  split
  · rename_i h
    have := idx_inj hy0 hy h
    rw [if_pos ⟨this.1.symm, this.2.symm⟩]
    rfl
  · rename_i h
    rw [if_neg]
    rintro ⟨rfl, rfl⟩
    exact h rfl
theorem zeros_set {l : List Nat} {i k : Nat} (hi : i < l.length) (h0 : l.getD i 0 = 0) (hk : k ≠ 0) : zeros (l.set i k) + 1 = zeros l := by
  unfold zeros
  have hz : l[i] = 0 := by simpa [List.getD, hi] using h0
  rw [List.count_set hi]
  have hp : 0 < l.count 0 := List.count_pos_iff.2 (hz ▸ List.getElem_mem hi)
  simp [hz, hk]
  omega
structure Inv0 (o f : List α) (x0 y0 : Nat) (b : Nat) (st : Srch) : Prop where
  len : st.led.length = (o.length + 1) * (f.length + 1)
  spots : ∀ s ∈ st.op, s.x ≤ o.length ∧ s.y ≤ f.length ∧ s.far ≤ st.turns ∧ s.turn ≤ st.turns ∧ Led o f st s.x s.y s.kind
  known : ∀ x y, x ≤ o.length → y ≤ f.length → st.at f.length x y ≠ 0 → Led o f st x y (st.at f.length x y)
  start : Soon f st 0 0
  next : ∀ x y, x ≤ o.length → y ≤ f.length → st.at f.length x y ≠ 0 → ¬ (x = x0 ∧ y = y0) →
    if same o f x y = true then Soon f st (x + 1) (y + 1)
    else (x < o.length → Soon f st (x + 1) y) ∧ (y < f.length → Soon f st x (y + 1))
  here : st.at f.length x0 y0 ≠ 0
  turns : st.turns + 2 * zeros st.led + b ≤ 2 * st.led.length
theorem Inv0.push {x0 y0 b b' : Nat} {st : Srch} (h : Inv0 o f x0 y0 b st) (s : Spot) (t : Nat) (hx : s.x ≤ o.length) (hy : s.y ≤ f.length) (hled : Led o f st s.x s.y s.kind)
    (hfar : s.far ≤ t) (hturn : s.turn ≤ t) (hmono : st.turns ≤ t) (ht : t + 2 * zeros st.led + b' ≤ 2 * st.led.length) :
    Inv0 o f x0 y0 b' { op := pushM st.op s, turns := t, led := st.led } := by
  have hmem : ∀ q, q ∈ pushM st.op s ↔ q ∈ st.op ∨ q = s := by
    intro q; rw [(pushM_perm st.op s).mem_iff]; simp
  have hsoon : ∀ x y, Soon f st x y → Soon f { op := pushM st.op s, turns := t, led := st.led } x y := by
    intro x y hs
    rcases hs with hs | ⟨q, hq, e⟩
    · exact .inl hs
    · exact .inr ⟨q, (hmem q).2 (.inl hq), e⟩
  refine ⟨h.len, ?_, h.known, hsoon _ _ h.start, ?_, h.here, ht⟩
  · intro q hq
    rcases (hmem q).1 hq with hq | rfl
    · obtain ⟨a, b, c, d, e⟩ := h.spots q hq
      exact ⟨a, b, Nat.le_trans c hmono, Nat.le_trans d hmono, e⟩
    · exact ⟨hx, hy, hfar, hturn, hled⟩
  · intro x y hx hy hr hne
    have := h.next x y hx hy hr hne
    split at this
    · rename_i hs; rw [if_pos hs]; exact hsoon _ _ this
    · rename_i hs; rw [if_neg hs]; exact ⟨fun a => hsoon _ _ (this.1 a), fun a => hsoon _ _ (this.2 a)⟩
theorem soon_push {st : Srch} (s : Spot) (t : Nat) : Soon f { op := pushM st.op s, turns := t, led := st.led } s.x s.y :=
  .inr ⟨s, (pushM_perm st.op s).mem_iff.2 (by simp), rfl, rfl⟩
theorem Inv0.change {x0 y0 b : Nat} {st : Srch} (h : Inv0 o f x0 y0 (b + 1) st) (p : Spot) (dx dy kind : Nat) (hx : p.x + dx ≤ o.length) (hy : p.y + dy ≤ f.length)
    (hp : p.far ≤ st.turns) (hled : Led o f st (p.x + dx) (p.y + dy) kind) :
    Inv0 o f x0 y0 b (changeM f.length st p dx dy kind) ∧ Soon f (changeM f.length st p dx dy kind) (p.x + dx) (p.y + dy) ∧
    st.turns ≤ (changeM f.length st p dx dy kind).turns ∧ (changeM f.length st p dx dy kind).led = st.led ∧
    (changeM f.length st p dx dy kind).op.length ≤ st.op.length + 1 ∧
    (∀ x y, Soon f st x y → Soon f (changeM f.length st p dx dy kind) x y) := by
  have ht := h.turns
  unfold changeM
  split
  · rename_i h0
    refine ⟨h.push _ _ hx hy hled (Nat.succ_le_succ hp) (Nat.le_refl _) (Nat.le_succ _) (by omega), soon_push _ _, by simp, rfl, by simp [pushM_length], ?_⟩
    intro x y hs
    rcases hs with hs | ⟨q, hq, e⟩
    · exact .inl hs
    · exact .inr ⟨q, (pushM_perm st.op _).mem_iff.2 (by simp [hq]), e⟩
  · rename_i h0
    exact ⟨⟨h.len, h.spots, h.known, h.start, h.next, h.here, by omega⟩, .inl h0, Nat.le_refl _, rfl, by omega, fun _ _ h => h⟩
theorem Inv.round {st : Srch} (h : Inv o f st) (hne : st.op ≠ []) :
    Inv o f (roundM o f st) ∧ 3 * zeros (roundM o f st).led + (roundM o f st).op.length < 3 * zeros st.led + st.op.length := by
  have hperm := pop_perm st.op hne
  have hmem : ∀ q, q ∈ st.op ↔ q ∈ popR st.op ∨ q = popS st.op := by
    intro q; rw [← hperm.mem_iff]; simp
  have hlen : (popR st.op).length + 1 = st.op.length := by have := hperm.length_eq; simpa using this
  obtain ⟨px, py, pf, pt, pl⟩ := h.spots _ ((hmem _).2 (.inr rfl))
  have ht := h.turns
  unfold roundM settleM
  simp only
  generalize hs : popS st.op = s at *
  have hat : ∀ x y, Srch.at { op := popR st.op, turns := st.turns, led := st.led } f.length x y = st.at f.length x y := fun _ _ => rfl
  rw [hat]
  split
  · rename_i h0
    have hset := fun x y (hy : y ≤ f.length) => at_set (st := st) (n := o.length) (m := f.length) (x0 := s.x) (y0 := s.y) (x := x) (y := y) (k := s.kind) h.len px py hy (popR st.op) st.turns
    have hz := zeros_set (l := st.led) (i := idx f.length s.x s.y) (k := s.kind) (by rw [h.len]; exact idx_lt px py) h0 pl.pos
    have hmono : ∀ x y, y ≤ f.length → st.at f.length x y ≠ 0 → Srch.at { op := popR st.op, turns := st.turns, led := st.led.set (idx f.length s.x s.y) s.kind } f.length x y ≠ 0 := by
      intro x y hy hr
      rw [hset x y hy]
      split
      · exact pl.pos
      · exact hr
    have hsoon : ∀ x y, x ≤ o.length → y ≤ f.length → Soon f st x y → Soon f { op := popR st.op, turns := st.turns, led := st.led.set (idx f.length s.x s.y) s.kind } x y := by
      intro x y hx hy hh
      rcases hh with hh | ⟨q, hq, e1, e2⟩
      · exact .inl (hmono x y hy hh)
      · rcases (hmem q).1 hq with hq | rfl
        · exact .inr ⟨q, hq, e1, e2⟩
        · left
          rw [hset x y hy, if_pos ⟨e1.symm, e2.symm⟩]
          exact pl.pos
    have i0 : Inv0 o f s.x s.y 2 { op := popR st.op, turns := st.turns, led := st.led.set (idx f.length s.x s.y) s.kind } := by
      refine ⟨by simpa using h.len, ?_, ?_, hsoon _ _ (by omega) (by omega) h.start, ?_, ?_, ?_⟩
      · intro q hq
        obtain ⟨a, b, c, d, e⟩ := h.spots q ((hmem q).2 (.inl hq))
        exact ⟨a, b, c, d, e.mono hmono b⟩
      · intro x y hx hy hr
        rw [hset x y hy] at hr ⊢
        split
        · rename_i e
          rw [e.1, e.2]
          exact pl.mono hmono py
        · rename_i e
          rw [if_neg e] at hr
          exact (h.known x y hx hy hr).mono hmono hy
      · intro x y hx hy hr hne'
        rw [hset x y hy, if_neg hne'] at hr
        have := h.next x y hx hy hr
        split at this
        · rename_i hs'
          rw [if_pos hs']
          have hlt := same_lt o f hs'
          exact hsoon _ _ (by omega) (by omega) this
        · rename_i hs'
          rw [if_neg hs']
          exact ⟨fun a => hsoon _ _ (by omega) (by omega) (this.1 a), fun a => hsoon _ _ (by omega) (by omega) (this.2 a)⟩
      · rw [hset _ _ py, if_pos ⟨rfl, rfl⟩]; exact pl.pos
      · simp only [List.length_set]
        omega
    split
    · rename_i hsame
      have hlt := same_lt o f hsame
      have hat1 := i0.here
      have i1 := i0.push (b' := 0) ⟨s.x + 1, s.y + 1, s.far, s.turn, 32⟩ st.turns (by simp; omega) (by simp; omega)
        (by right; left; exact ⟨rfl, by simp, by simp, by simpa using hsame, by simpa using hat1⟩) pf pt (Nat.le_refl _) (by have := i0.turns; simp at this ⊢; omega)
      refine ⟨⟨i1.len, i1.spots, i1.known, i1.start, ?_, i1.turns⟩, ?_⟩
      · intro x y hx hy hr
        by_cases e : x = s.x ∧ y = s.y
        · rw [e.1, e.2, if_pos hsame]
          exact soon_push (st := { op := popR st.op, turns := st.turns, led := st.led.set (idx f.length s.x s.y) s.kind }) ⟨s.x + 1, s.y + 1, s.far, s.turn, 32⟩ st.turns
        · exact i1.next x y hx hy hr e
      · simp only [pushM_length]
        omega
    · rename_i hsame
      have hsf : same o f s.x s.y = false := by simpa using hsame
      have key : ∃ st2 : Srch, st2 = (if s.x < o.length then changeM f.length { op := popR st.op, turns := st.turns, led := st.led.set (idx f.length s.x s.y) s.kind } s 1 0 45 else { op := popR st.op, turns := st.turns, led := st.led.set (idx f.length s.x s.y) s.kind }) ∧
          Inv0 o f s.x s.y 1 st2 ∧ (s.x < o.length → Soon f st2 (s.x + 1) s.y) ∧ st.turns ≤ st2.turns ∧ st2.led = st.led.set (idx f.length s.x s.y) s.kind ∧ st2.op.length ≤ (popR st.op).length + 1 := by
        refine ⟨_, rfl, ?_⟩
        split
        · rename_i hxl
          have hat1 := i0.here
          obtain ⟨a, b, c, d, e, _⟩ := i0.change s 1 0 45 (by omega) (by omega) pf (by right; right; left; exact ⟨rfl, by omega, by simpa using hat1⟩)
          exact ⟨a, fun _ => by simpa using b, c, d, e⟩
        · exact ⟨⟨i0.len, i0.spots, i0.known, i0.start, i0.next, i0.here, by have := i0.turns; omega⟩, fun hh => absurd hh (by assumption), Nat.le_refl _, rfl, by simp⟩
      obtain ⟨st2, hst2, j1, j2, j3, j4, j5⟩ := key
      rw [← hst2]
      split
      · rename_i hyl
        have hat1 := j1.here
        obtain ⟨a, b, c, d, e, g⟩ := j1.change s 0 1 43 (by omega) (by omega) (by omega) (by right; right; right; exact ⟨rfl, by omega, by simpa using hat1⟩)
        refine ⟨⟨a.len, a.spots, a.known, a.start, ?_, a.turns⟩, ?_⟩
        · intro x y hx hy hr
          by_cases e : x = s.x ∧ y = s.y
          · rw [e.1, e.2, if_neg (by simp [hsf])]
            exact ⟨fun hh => g _ _ (j2 hh), fun _ => by simpa using b⟩
          · exact a.next x y hx hy hr e
        · rw [d, j4]; omega
      · rename_i hyl
        refine ⟨⟨j1.len, j1.spots, j1.known, j1.start, ?_, by have := j1.turns; omega⟩, ?_⟩
        · intro x y hx hy hr
          by_cases e : x = s.x ∧ y = s.y
          · rw [e.1, e.2, if_neg (by simp [hsf])]
            exact ⟨j2, fun hh => absurd hh hyl⟩
          · exact j1.next x y hx hy hr e
        · rw [j4]; omega
  · rename_i h0
    have hsoon : ∀ x y, Soon f st x y → Soon f { op := popR st.op, turns := st.turns, led := st.led } x y := by
      intro x y hh
      rcases hh with hh | ⟨q, hq, e1, e2⟩
      · exact .inl hh
      · rcases (hmem q).1 hq with hq | rfl
        · exact .inr ⟨q, hq, e1, e2⟩
        · left
          rw [← e1, ← e2]; exact h0
    refine ⟨⟨h.len, ?_, h.known, hsoon _ _ h.start, ?_, ht⟩, ?_⟩
    · intro q hq
      exact h.spots q ((hmem q).2 (.inl hq))
    · intro x y hx hy hr
      have := h.next x y hx hy hr
      split at this
      · rename_i hs'; rw [if_pos hs']; exact hsoon _ _ this
      · rename_i hs'; rw [if_neg hs']; exact ⟨fun a => hsoon _ _ (this.1 a), fun a => hsoon _ _ (this.2 a)⟩
    · simp only; omega
end
end Dn
namespace Dn
section
set_option linter.unusedSectionVars false
variable {α : Type} [DecidableEq α] {o f : List α}
def mu (st : Srch) : Nat := 3 * zeros st.led + st.op.length
def searchM (o f : List α) : Nat → Srch → Srch
  | 0, st => st
  | k + 1, st => if st.at f.length o.length f.length = 0 then searchM o f k (roundM o f st) else st
theorem searchM_done {k : Nat} {st : Srch} (h : st.at f.length o.length f.length ≠ 0) : searchM o f k st = st := by
  cases k with
  | zero => rfl
  | succ k => simp [searchM, h]
theorem searchM_fuel : ∀ (k k' : Nat) (st : Srch), Inv o f st → mu st ≤ k → mu st ≤ k' → searchM o f k st = searchM o f k' st := by
  intro k
  induction k with
  | zero =>
    intro k' st hi h _
    by_cases he : st.at f.length o.length f.length = 0
    · have := List.length_pos_iff.2 (hi.open_ne he)
      unfold mu at h; omega
    · rw [searchM_done he, searchM_done he]
  | succ k ih =>
    intro k' st hi h h'
    by_cases he : st.at f.length o.length f.length = 0
    · have hne := hi.open_ne he
      obtain ⟨hi', hlt⟩ := hi.round hne
      have := List.length_pos_iff.2 hne
      cases k' with
      | zero => unfold mu at h'; omega
      | succ k' =>
        simp only [searchM, he, if_true]
        exact ih k' _ hi' (by unfold mu at *; omega) (by unfold mu at *; omega)
    · rw [searchM_done he, searchM_done he]
theorem searchM_step {st : Srch} (hi : Inv o f st) (he : st.at f.length o.length f.length = 0) :
    searchM o f (mu (roundM o f st)) (roundM o f st) = searchM o f (mu st) st := by
  have hne := hi.open_ne he
  obtain ⟨hi', hlt⟩ := hi.round hne
  have hp := List.length_pos_iff.2 hne
  obtain ⟨k, hk⟩ : ∃ k, mu st = k + 1 := ⟨mu st - 1, by unfold mu; omega⟩
  rw [hk]
  simp only [searchM, he, if_true]
  exact searchM_fuel _ _ _ hi' (Nat.le_refl _) (by unfold mu at *; omega)
def foundM (o f : List α) : Srch := searchM o f (mu (startM o f)) (startM o f)
structure StepM (α : Type) where
  kind : Nat
  text : α
def backM [Inhabited α] (o f : List α) (st : Srch) : Nat → Nat → Nat → List (StepM α)
  | 0, _, _ => []
  | k + 1, x, y =>
    if x = 0 ∧ y = 0 then []
    else if st.at f.length x y = 32 then ⟨32, o.getD (x - 1) default⟩ :: backM o f st k (x - 1) (y - 1)
    else if st.at f.length x y = 45 then ⟨45, o.getD (x - 1) default⟩ :: backM o f st k (x - 1) y
    else ⟨st.at f.length x y, f.getD (y - 1) default⟩ :: backM o f st k x (y - 1)
def wayM [Inhabited α] (o f : List α) : List (StepM α) := (backM o f (foundM o f) (o.length + f.length) o.length f.length).reverse
def oldOf (l : List (StepM α)) : List α := (l.filter (fun s => s.kind != 43)).map (·.text)
def newOf (l : List (StepM α)) : List α := (l.filter (fun s => s.kind != 45)).map (·.text)
theorem oldOf_append (a b : List (StepM α)) : oldOf (a ++ b) = oldOf a ++ oldOf b := by simp [oldOf]
theorem newOf_append (a b : List (StepM α)) : newOf (a ++ b) = newOf a ++ newOf b := by simp [newOf]
theorem take_pred [Inhabited α] (l : List α) (x : Nat) (h0 : 0 < x) (h : x ≤ l.length) : l.take (x - 1) ++ [l.getD (x - 1) default] = l.take x := by
  obtain ⟨y, rfl⟩ : ∃ y, x = y + 1 := ⟨x - 1, by omega⟩
  have hy : y < l.length := by omega
  rw [Nat.add_sub_cancel, List.take_succ_eq_append_getElem hy]
  simp [List.getD, hy]
theorem backM_way [Inhabited α] {st : Srch} (h : Inv o f st) : ∀ (k x y : Nat), x + y ≤ k → x ≤ o.length → y ≤ f.length → st.at f.length x y ≠ 0 →
    oldOf (backM o f st k x y).reverse = o.take x ∧ newOf (backM o f st k x y).reverse = f.take y ∧
    ∀ s ∈ backM o f st k x y, s.kind = 32 ∨ s.kind = 45 ∨ s.kind = 43 := by
  intro k
  induction k with
  | zero =>
    intro x y hk _ _ _
    have : x = 0 := by omega
    have : y = 0 := by omega
    subst_vars
    simp [backM, oldOf, newOf]
  | succ k ih =>
    intro x y hk hx hy hr
    unfold backM
    split
    · rename_i e; simp [e.1, e.2, oldOf, newOf]
    · rename_i e
      have hled := h.known x y hx hy hr
      rcases hled with ⟨a, b, c⟩ | ⟨a, b, c, d, e'⟩ | ⟨a, b, c⟩ | ⟨a, b, c⟩
      · omega
      · rw [if_pos a]
        obtain ⟨i1, i2, i3⟩ := ih (x - 1) (y - 1) (by omega) (by omega) (by omega) e'
        have hlt := same_lt o f d
        have hs : o.getD (x - 1) default = f.getD (y - 1) default := by
          unfold same at d; simp only [decide_eq_true_eq] at d
          simp only [List.getD]; rw [d.2.2]
        refine ⟨?_, ?_, ?_⟩
        · rw [List.reverse_cons, oldOf_append, i1]; exact take_pred o x b hx
        · rw [List.reverse_cons, newOf_append, i2, hs]; exact take_pred f y c hy
        · intro s hs'; simp at hs'; rcases hs' with rfl | hs'
          · simp
          · exact i3 s hs'
      · rw [if_neg (by omega), if_pos a]
        obtain ⟨i1, i2, i3⟩ := ih (x - 1) y (by omega) (by omega) hy c
        refine ⟨?_, ?_, ?_⟩
        · rw [List.reverse_cons, oldOf_append, i1]; exact take_pred o x b hx
        · rw [List.reverse_cons, newOf_append, i2]; simp [newOf]
        · intro s hs'; simp at hs'; rcases hs' with rfl | hs'
          · simp
          · exact i3 s hs'
      · rw [if_neg (by omega), if_neg (by omega)]
        obtain ⟨i1, i2, i3⟩ := ih x (y - 1) (by omega) hx (by omega) c
        refine ⟨?_, ?_, ?_⟩
        · rw [List.reverse_cons, oldOf_append, i1]; simp [oldOf, a]
        · rw [List.reverse_cons, newOf_append, i2, a]; exact take_pred f y b hy
        · intro s hs'; simp at hs'; rcases hs' with rfl | hs'
          · simp [a]
          · exact i3 s hs'
theorem searchM_inv : ∀ (k : Nat) (st : Srch), Inv o f st → mu st ≤ k → Inv o f (searchM o f k st) ∧ (searchM o f k st).at f.length o.length f.length ≠ 0 := by
  intro k
  induction k with
  | zero =>
    intro st hi h
    have he : st.at f.length o.length f.length ≠ 0 := by
      intro he
      have := List.length_pos_iff.2 (hi.open_ne he)
      unfold mu at h; omega
    rw [searchM_done he]; exact ⟨hi, he⟩
  | succ k ih =>
    intro st hi h
    by_cases he : st.at f.length o.length f.length = 0
    · have hne := hi.open_ne he
      obtain ⟨hi', hlt⟩ := hi.round hne
      simp only [searchM, he, if_true]
      exact ih _ hi' (by unfold mu at *; omega)
    · rw [searchM_done he]; exact ⟨hi, he⟩
theorem foundM_inv (o f : List α) : Inv o f (foundM o f) ∧ (foundM o f).at f.length o.length f.length ≠ 0 := searchM_inv _ _ (startM_inv o f) (Nat.le_refl _)
theorem wayM_way [Inhabited α] (o f : List α) : oldOf (wayM o f) = o ∧ newOf (wayM o f) = f ∧ ∀ s ∈ wayM o f, s.kind = 32 ∨ s.kind = 45 ∨ s.kind = 43 := by
  obtain ⟨hi, he⟩ := foundM_inv o f
  obtain ⟨a, b, c⟩ := backM_way hi (o.length + f.length) o.length f.length (Nat.le_refl _) (Nat.le_refl _) (Nat.le_refl _) he
  refine ⟨by simpa [wayM] using a, by simpa [wayM] using b, ?_⟩
  intro s hs
  exact c s (by simpa [wayM] using hs)
end
end Dn
namespace Dn
def Spot.lt (a b : Spot) : Prop := a.far < b.far ∨ (a.far = b.far ∧ a.turn < b.turn)
theorem less_iff (a b : Spot) : Spot.less a b = true ↔ a.lt b := by
  unfold Spot.less Spot.lt; split <;> simp <;> omega
theorem less_false (a b : Spot) : Spot.less a b = false ↔ ¬ a.lt b := by
  rw [← less_iff]; simp
theorem lt_trans' {a b c : Spot} (h1 : ¬ b.lt a) (h2 : ¬ c.lt b) : ¬ c.lt a := by
  unfold Spot.lt at *; omega
theorem lt_asymm' {a b : Spot} (h : a.lt b) : ¬ b.lt a := by unfold Spot.lt at *; omega
abbrev gt (l : List Spot) (i : Nat) : Spot := l.getD i noSpot
theorem gt_swap (l : List Spot) (i j t : Nat) (hi : i < l.length) (hj : j < l.length) :
    gt (swapL l i j) t = if t = j then gt l i else if t = i then gt l j else gt l t := by
  unfold gt swapL
  simp only [List.getD, List.getElem?_set, List.length_set]
  by_cases h1 : t = j
  · subst h1; simp [hj]
  · by_cases h2 : t = i
    · subst h2
      rw [if_neg (fun h => h1 h.symm), if_pos rfl, if_pos hi, if_neg h1, if_pos rfl]; rfl
    · rw [if_neg (fun h => h1 h.symm), if_neg (fun h => h2 h.symm), if_neg h1, if_neg h2]
def heapOk (n : Nat) (l : List Spot) : Prop := ∀ i, 0 < i → i < n → ¬ (gt l i).lt (gt l ((i - 1) / 2))
theorem up_heap (n : Nat) : ∀ (k : Nat) (l : List Spot) (j : Nat), j < k → j < n → n ≤ l.length →
    (∀ i, 0 < i → i < n → i ≠ j → ¬ (gt l i).lt (gt l ((i - 1) / 2))) →
    (∀ c, 0 < c → c < n → (c - 1) / 2 = j → 0 < j → ¬ (gt l c).lt (gt l ((j - 1) / 2))) → heapOk n (upM k l j) := by
  intro k
  induction k with
  | zero => intro l j h; omega
  | succ k ih =>
    intro l j hk hj hn h1 h2
    unfold upM
    simp only
    split
    · rename_i h
      intro i hi0 hin
      by_cases e : i = j
      · subst e
        rcases h with h | h
        · omega
        · exact (less_false _ _).1 h
      · exact h1 i hi0 hin e
    · rename_i h
      have hne : (j - 1) / 2 ≠ j := fun e => h (.inl e)
      have hlt : (gt l j).lt (gt l ((j - 1) / 2)) := by
        rw [← less_iff]
        cases hh : Spot.less (gt l j) (gt l ((j - 1) / 2)) with
        | true => rfl
        | false => exact absurd (.inr hh) h
      have hil : (j - 1) / 2 < l.length := by omega
      have hjl : j < l.length := by omega
      have hjpos : 0 < j := by omega
      refine ih _ _ (by omega) (by omega) (by rw [swapL_length]; exact hn) ?_ ?_
      · intro i hi0 hin hne'
        rw [gt_swap l _ _ _ hil hjl, gt_swap l _ _ _ hil hjl]
        by_cases e1 : i = j
        · subst e1
          rw [if_pos rfl, if_neg hne, if_pos rfl]
          exact lt_asymm' hlt
        · rw [if_neg e1, if_neg hne']
          by_cases e2 : (i - 1) / 2 = j
          · rw [if_pos e2]; exact h2 i hi0 hin e2 hjpos
          · rw [if_neg e2]
            by_cases e3 : (i - 1) / 2 = (j - 1) / 2
            · rw [if_pos e3]
              have := h1 i hi0 hin e1
              rw [e3] at this
              exact lt_trans' (lt_asymm' hlt) this
            · rw [if_neg e3]; exact h1 i hi0 hin e1
      · intro c hc0 hcn hc hipos
        have hgp : ((j - 1) / 2 - 1) / 2 ≠ j := by omega
        have hgp2 : ((j - 1) / 2 - 1) / 2 ≠ (j - 1) / 2 := by omega
        rw [gt_swap l _ _ _ hil hjl, gt_swap l _ _ _ hil hjl, if_neg hgp, if_neg hgp2]
        have hp := h1 ((j - 1) / 2) hipos (by omega) hne
        by_cases e1 : c = j
        · rw [if_pos e1]; exact hp
        · have e2 : c ≠ (j - 1) / 2 := by omega
          rw [if_neg e1, if_neg e2]
          have := h1 c hc0 hcn e1
          rw [hc] at this
          exact lt_trans' hp this
theorem down_heap (n : Nat) : ∀ (k : Nat) (l : List Spot) (i : Nat), n ≤ k + i → n ≤ l.length →
    (∀ t, 0 < t → t < n → (t - 1) / 2 ≠ i → ¬ (gt l t).lt (gt l ((t - 1) / 2))) →
    (∀ c, 0 < c → c < n → (c - 1) / 2 = i → 0 < i → ¬ (gt l c).lt (gt l ((i - 1) / 2))) → heapOk n (downM k l i n) := by
  intro k
  induction k with
  | zero =>
    intro l i hk hn h1 _ t ht0 htn
    exact h1 t ht0 htn (by omega)
  | succ k ih =>
    intro l i hk hn h1 h2
    unfold downM
    split
    · rename_i h
      intro t ht0 htn
      exact h1 t ht0 htn (by omega)
    · rename_i hlt
      have hlt : 2 * i + 1 < n := by omega
      have hjn := downJ_lt l i n hlt
      have hji := downJ_gt l i n
      have hmin : ∀ t, 0 < t → t < n → (t - 1) / 2 = i → ¬ (gt l t).lt (gt l (downJ l i n)) := by
        intro t ht0 htn hti
        have : t = 2 * i + 1 ∨ t = 2 * i + 2 := by omega
        unfold downJ
        split
        · rename_i hh
          have hh2 := (less_iff _ _).1 hh.2
          rcases this with rfl | rfl
          · exact lt_asymm' hh2
          · unfold Spot.lt; omega
        · rename_i hh
          rcases this with rfl | rfl
          · unfold Spot.lt; omega
          · intro hl
            exact hh ⟨htn, (less_iff _ _).2 hl⟩
      have hpar : (downJ l i n - 1) / 2 = i := by unfold downJ; split <;> omega
      split
      · rename_i hf
        have hf' := (less_false _ _).1 hf
        intro t ht0 htn
        by_cases e : (t - 1) / 2 = i
        · rw [e]; exact lt_trans' hf' (hmin t ht0 htn e)
        · exact h1 t ht0 htn e
      · rename_i hf
        have hl : (gt l (downJ l i n)).lt (gt l i) := by
          rw [← less_iff]
          cases hh : Spot.less (gt l (downJ l i n)) (gt l i) with
          | true => rfl
          | false => exact absurd hh hf
        generalize downJ l i n = j at *
        have hil : i < l.length := by omega
        have hjl : j < l.length := by omega
        refine ih _ _ (by omega) (by rw [swapL_length]; exact hn) ?_ ?_
        · intro t ht0 htn hne
          rw [gt_swap l _ _ _ hil hjl, gt_swap l _ _ _ hil hjl]
          rw [if_neg (show ¬ (t - 1) / 2 = j from hne)]
          by_cases e1 : t = j
          · rw [if_pos e1, e1, if_pos hpar]; exact lt_asymm' hl
          · rw [if_neg e1]
            by_cases e2 : t = i
            · rw [if_pos e2]
              have e3 : (t - 1) / 2 ≠ i := by omega
              rw [if_neg e3]
              subst e2
              exact h2 j (by omega) hjn hpar ht0
            · rw [if_neg e2]
              by_cases e3 : (t - 1) / 2 = i
              · rw [if_pos e3]; exact hmin t ht0 htn e3
              · rw [if_neg e3]; exact h1 t ht0 htn e3
        · intro c hc0 hcn hc _
          rw [gt_swap l _ _ _ hil hjl, gt_swap l _ _ _ hil hjl]
          rw [if_neg (show c ≠ j by omega), if_neg (show c ≠ i by omega), if_neg (show (j - 1) / 2 ≠ j by omega), if_pos hpar]
          have := h1 c hc0 hcn (by omega)
          rw [hc] at this
          exact this
theorem heap_min {n : Nat} {l : List Spot} (h : heapOk n l) : ∀ i, i < n → ¬ (gt l i).lt (gt l 0) := by
  intro i
  induction i using Nat.strongRecOn with
  | ind i ih =>
    intro hi
    by_cases h0 : i = 0
    · subst h0; unfold Spot.lt; omega
    · exact lt_trans' (ih ((i - 1) / 2) (by omega) (by omega)) (h i (by omega) hi)
theorem downM_tail (n : Nat) : ∀ (k : Nat) (l : List Spot) (i t : Nat), n ≤ l.length → n ≤ t → gt (downM k l i n) t = gt l t := by
  intro k
  induction k with
  | zero => intro l i t _ _; rfl
  | succ k ih =>
    intro l i t hn ht
    unfold downM
    split
    · rfl
    · split
      · rfl
      · have hj := downJ_lt l i n (by omega)
        have hi := downJ_gt l i n
        rw [ih _ _ _ (by rw [swapL_length]; exact hn) ht, gt_swap l _ _ _ (by omega) (by omega), if_neg (by omega), if_neg (by omega)]
def heapL (l : List Spot) : Prop := heapOk l.length l
theorem gt_append_lt (l r : List Spot) (i : Nat) (h : i < l.length) : gt (l ++ r) i = gt l i := by
  unfold gt; simp [List.getD, List.getElem?_append_left h]
theorem push_heap {l : List Spot} (h : heapL l) (s : Spot) : heapL (pushM l s) := by
  unfold heapL
  rw [pushM_length]
  unfold pushM
  refine up_heap _ _ _ _ (by omega) (by omega) (by simp) ?_ ?_
  · intro i hi0 hin hne
    rw [gt_append_lt _ _ _ (by omega), gt_append_lt _ _ _ (by omega)]
    exact h i hi0 (by omega)
  · intro c hc0 hcn hc _
    omega
theorem pop_heap {l : List Spot} (h : heapL l) (hne : l ≠ []) : heapL (popR l) ∧ popS l = gt l 0 ∧ ∀ s ∈ l, ¬ s.lt (popS l) := by
  have hl : 0 < l.length := List.length_pos_iff.2 hne
  have hS : popS l = gt l 0 := by
    show gt (popL l) (l.length - 1) = gt l 0
    unfold popL
    rw [downM_tail _ _ _ _ _ (by rw [swapL_length]; omega) (Nat.le_refl _), gt_swap l _ _ _ hl (by omega), if_pos rfl]
  refine ⟨?_, hS, ?_⟩
  · have hd : heapOk (l.length - 1) (popL l) := by
      unfold popL
      refine down_heap _ _ _ _ (by omega) (by rw [swapL_length]; omega) ?_ ?_
      · intro t ht0 htn hne'
        rw [gt_swap l _ _ _ hl (by omega), gt_swap l _ _ _ hl (by omega), if_neg (by omega), if_neg (by omega), if_neg (by omega), if_neg (by omega)]
        exact h t ht0 (by omega)
      · intro c _ _ _ h0; omega
    have hr : (popR l).length = l.length - 1 := by
      rcases popR_length l with h | h
      · exact h
      · exact absurd h hne
    unfold heapL
    rw [hr]
    intro i hi0 hin
    have e : ∀ t, t < l.length - 1 → gt (popR l) t = gt (popL l) t := by
      intro t ht
      unfold popR gt
      simp [List.getD, ht]
    rw [e _ hin, e _ (by omega)]
    exact hd i hi0 hin
  · intro s hs
    rw [hS]
    obtain ⟨i, hi, rfl⟩ := List.mem_iff_getElem.1 hs
    have := heap_min h i hi
    rwa [show gt l i = l[i] by simp [gt, List.getD, hi]] at this
end Dn
namespace Go.Proofs.YtcclgodahlinbaaGreatDoor
open Go.RowKit Go
set_option maxRecDepth 100000
theorem m_push (a : Addr) (w : World) : (method 353 110 (.pointer (some a)) "Push").run Tryz.prog w = .ok (198, .pointer (some a)) w := by kernel_rfl
theorem m_pop (a : Addr) (w : World) : (method 353 110 (.pointer (some a)) "Pop").run Tryz.prog w = .ok (197, .pointer (some a)) w := by kernel_rfl
theorem load_spots (a : Addr) (w : World) (v : Value) (h : w.cell? a = some v) : (loadVar 104 a).run Tryz.prog w = .ok v w := by
  go_simp
theorem m_len (a : Addr) (w : World) (v : Value) (h : w.cell? a = some v) : (method 353 110 (.pointer (some a)) "Len").run Tryz.prog w = .ok (194, v) w := by
  have e : (method 353 110 (.pointer (some a)) "Len").run Tryz.prog w = (do let v ← loadVar 104 a; pure (194, v) : Sem (FuncId × Value)).run Tryz.prog w := by kernel_rfl
  rw [e, Sem.run_bind, load_spots a w v h]; rfl
theorem m_less (a : Addr) (w : World) (v : Value) (h : w.cell? a = some v) : (method 353 110 (.pointer (some a)) "Less").run Tryz.prog w = .ok (195, v) w := by
  have e : (method 353 110 (.pointer (some a)) "Less").run Tryz.prog w = (do let v ← loadVar 104 a; pure (195, v) : Sem (FuncId × Value)).run Tryz.prog w := by kernel_rfl
  rw [e, Sem.run_bind, load_spots a w v h]; rfl
theorem m_swap (a : Addr) (w : World) (v : Value) (h : w.cell? a = some v) : (method 353 110 (.pointer (some a)) "Swap").run Tryz.prog w = .ok (196, v) w := by
  have e : (method 353 110 (.pointer (some a)) "Swap").run Tryz.prog w = (do let v ← loadVar 104 a; pure (196, v) : Sem (FuncId × Value)).run Tryz.prog w := by kernel_rfl
  rw [e, Sem.run_bind, load_spots a w v h]; rfl
def spotCells (s : Dn.Spot) : List Value := [.complex .f64 (fl s.x) (fl s.y), .int .i64 s.far, .int .i64 s.turn, .int .u8 s.kind]
def rowCells (l : List Dn.Spot) : List Value := l.flatMap spotCells
theorem rowCells_cons (s : Dn.Spot) (l : List Dn.Spot) : rowCells (s :: l) = .complex .f64 (fl s.x) (fl s.y) :: .int .i64 s.far :: .int .i64 s.turn :: .int .u8 s.kind :: rowCells l := rfl
theorem rowCells_append (a b : List Dn.Spot) : rowCells (a ++ b) = rowCells a ++ rowCells b := by simp [rowCells]
theorem rowCells_length (l : List Dn.Spot) : (rowCells l).length = l.length * 4 := by
  induction l with
  | nil => rfl
  | cons s l ih => rw [rowCells_cons]; simp [ih]; omega
theorem rowCells_get (l : List Dn.Spot) : ∀ (i : Nat), i < l.length →
    (rowCells l)[i * 4]? = some (.complex .f64 (fl (Dn.gt l i).x) (fl (Dn.gt l i).y)) ∧ (rowCells l)[i * 4 + 1]? = some (.int .i64 (Dn.gt l i).far) ∧
    (rowCells l)[i * 4 + 2]? = some (.int .i64 (Dn.gt l i).turn) ∧ (rowCells l)[i * 4 + 3]? = some (.int .u8 (Dn.gt l i).kind) := by
  induction l with
  | nil => intro i h; simp at h
  | cons s l ih =>
    intro i h
    cases i with
    | zero => simp [rowCells_cons, Dn.gt]
    | succ i =>
      have := ih i (by simpa using h)
      rw [rowCells_cons, show (i + 1) * 4 = i * 4 + 1 + 1 + 1 + 1 by omega]
      simpa [Dn.gt, List.getD] using this
def set4 (r : List Value) (i : Nat) (s : Dn.Spot) : List Value :=
  (((r.set (i * 4) (.complex .f64 (fl s.x) (fl s.y))).set (i * 4 + 1) (.int .i64 s.far)).set (i * 4 + 2) (.int .i64 s.turn)).set (i * 4 + 3) (.int .u8 s.kind)
theorem rowCells_set (l : List Dn.Spot) (s : Dn.Spot) : ∀ (i : Nat), i < l.length → set4 (rowCells l) i s = rowCells (l.set i s) := by
  induction l with
  | nil => intro i h; simp at h
  | cons t l ih =>
    intro i h
    cases i with
    | zero => simp [rowCells_cons, set4]
    | succ i =>
      have := ih i (by simpa using h)
      unfold set4 at *
      rw [List.set_cons_succ, rowCells_cons, rowCells_cons, ← this, show (i + 1) * 4 = i * 4 + 1 + 1 + 1 + 1 by omega]
      simp
def setSpot (w : World) (g i : Nat) (s : Dn.Spot) : World :=
  (((w.setCell ⟨g, i * 4, none⟩ (.complex .f64 (fl s.x) (fl s.y))).setCell ⟨g, i * 4 + 1, none⟩ (.int .i64 s.far)).setCell ⟨g, i * 4 + 2, none⟩ (.int .i64 s.turn)).setCell ⟨g, i * 4 + 3, none⟩ (.int .u8 s.kind)
theorem heap_setCell_same (w : World) (g o : Nat) (v : Value) (cur : Array Value) (t : TypeId) (fr : Nat × Nat) (h : w.heap[g]? = some (.cells cur t fr)) :
    (w.setCell ⟨g, o, none⟩ v).heap[g]? = some (.cells (cur.setIfInBounds o v) t fr) := by
  simp [World.setCell, Array.getElem?_modify, h]
theorem heap_setCell_other (w : World) (g k : Nat) (o : Nat) (v : Value) (h : k ≠ g) : (w.setCell ⟨g, o, none⟩ v).heap[k]? = w.heap[k]? := Below.heap_setCell _ _ _ _ h
theorem grownBy_setCell (w : World) (g o : Nat) (v : Value) : w.grownBy (w.setCell ⟨g, o, none⟩ v) (some g) :=
  ⟨rfl, rfl, rfl, by simp [World.setCell], fun k _ hne => heap_setCell_other w g k o v (fun e => hne (by rw [e]))⟩
theorem grownBy_trans {a b c : World} {r : Option Nat} (h : a.grownBy b r) (k : b.grownBy c r) : a.grownBy c r :=
  ⟨k.os.trans h.os, k.tape.trans h.tape, k.output.trans h.output, Nat.le_trans h.size k.size, fun i hi hne => (k.block i (Nat.lt_of_lt_of_le hi h.size) hne).trans (h.block i hi hne)⟩
theorem grownBy_setSpot (w : World) (g i : Nat) (s : Dn.Spot) : w.grownBy (setSpot w g i s) (some g) :=
  grownBy_trans (grownBy_trans (grownBy_trans (grownBy_setCell _ _ _ _) (grownBy_setCell _ _ _ _)) (grownBy_setCell _ _ _ _)) (grownBy_setCell _ _ _ _)
theorem setSpot_row {w : World} {base g n cap i : Nat} {l : List Dn.Spot} (s : Dn.Spot) (hn : n = l.length) (hi : i < l.length)
    (h : w.ownsRow base 112 4 (.slice (some ⟨g, 0, none⟩) n cap) n (rowCells l)) :
    (setSpot w g i s).ownsRow base 112 4 (.slice (some ⟨g, 0, none⟩) n cap) n (rowCells (l.set i s)) := by
  subst hn
  obtain ⟨hl, hr⟩ := h
  rcases hr with ⟨e, _⟩ | ⟨g', cap', cur, e, hb, hg, h1, h2, h3, h4⟩
  · cases e
  · cases e
    refine ⟨by rw [rowCells_length]; simp, .inr ⟨g, cap, _, rfl, hb, heap_setCell_same _ _ _ _ _ _ _ (heap_setCell_same _ _ _ _ _ _ _ (heap_setCell_same _ _ _ _ _ _ _ (heap_setCell_same _ _ _ _ _ _ _ hg))), h1, h2, by simpa using h3, ?_⟩⟩
    rw [← rowCells_set l s i hi, ← h4]
    simp [set4, List.take_set]
theorem ownsRow_drewN {w : World} {base e size n k : Nat} {v : Value} {xs : List Value} (h : w.ownsRow base e size v n xs) : (w.drewN k).ownsRow base e size v n xs := h
def ledCells (l : List Nat) : List Value := l.map fun (k : Nat) => .int .u8 (k : Int)
structure SMv (X : List (Nat × Obj)) (base S : Nat) (vo vf : Value) (st : Dn.Srch) (vop vled : Value) (w : World) : Prop where
  le : base ≤ S
  blk : w.heap[S]? = some (.cells #[vo, vf, vop, .int .i64 st.turns, vled] 106 (0, 0))
  op : w.ownsRow base 112 4 vop st.op.length (rowCells st.op)
  led : w.ownsRow base 5 1 vled st.led.length (ledCells st.led)
  ne1 : vop.ownBlock ≠ some S
  ne2 : vled.ownBlock ≠ some S
  ne3 : vop.ownBlock = none ∨ vop.ownBlock ≠ vled.ownBlock
  fr : ∀ x ∈ X, w.heap[x.1]? = some x.2 ∧ x.1 ≠ S ∧ vop.ownBlock ≠ some x.1 ∧ vled.ownBlock ≠ some x.1
def SM (X : List (Nat × Obj)) (base S : Nat) (vo vf : Value) (st : Dn.Srch) (w : World) : Prop := ∃ vop vled, SMv X base S vo vf st vop vled w
theorem SMv.drewN {X : List (Nat × Obj)} {base S k : Nat} {vo vf vop vled : Value} {st : Dn.Srch} {w : World} (h : SMv X base S vo vf st vop vled w) : SMv X base S vo vf st vop vled (w.drewN k) :=
  ⟨h.le, h.blk, h.op, h.led, h.ne1, h.ne2, h.ne3, h.fr⟩
theorem Below.drewN' {B k : Nat} {w w' : World} (h : Below B w w') : Below B w (w'.drewN k) := ⟨h.os, h.tape, h.output, h.size, h.block⟩
theorem cell_of {w : World} {S k : Nat} {cs : Array Value} {t : TypeId} {fr : Nat × Nat} {v : Value} (h : w.heap[S]? = some (.cells cs t fr)) (hk : cs[k]? = some v) : w.cell? ⟨S, k, none⟩ = some v := by
  simp [World.cell?, h, hk]
theorem frozen_of {w : World} {S k : Nat} {cs : Array Value} {t : TypeId} (h : w.heap[S]? = some (.cells cs t (0, 0))) : w.frozen? ⟨S, k, none⟩ = false := by
  simp [World.frozen?, h]
theorem owns_spot {w : World} {base n cap g : Nat} {l : List Dn.Spot} (h : w.ownsRow base 112 4 (.slice (some ⟨g, 0, none⟩) n cap) n (rowCells l)) {i : Nat} (hi : i < l.length) :
    w.cell? ⟨g, i * 4, none⟩ = some (.complex .f64 (fl (Dn.gt l i).x) (fl (Dn.gt l i).y)) ∧ w.cell? ⟨g, i * 4 + 1, none⟩ = some (.int .i64 (Dn.gt l i).far) ∧
    w.cell? ⟨g, i * 4 + 2, none⟩ = some (.int .i64 (Dn.gt l i).turn) ∧ w.cell? ⟨g, i * 4 + 3, none⟩ = some (.int .u8 (Dn.gt l i).kind) := by
  obtain ⟨hl, hr⟩ := h
  rcases hr with ⟨e, _⟩ | ⟨g', cap', cur, e, hb, hg, h1, h2, h3, h4⟩
  · cases e
  · cases e
    obtain ⟨a, b, c, d⟩ := rowCells_get l i hi
    rw [← h4] at a b c d
    have f : ∀ (j : Nat) (u : Value), (cur.toList.take (n * 4))[j]? = some u → cur[j]? = some u := by
      intro j u hu
      rw [List.getElem?_take] at hu
      split at hu
      · simpa using hu
      · cases hu
    exact ⟨cell_of hg (f _ _ a), cell_of hg (f _ _ b), cell_of hg (f _ _ c), cell_of hg (f _ _ d)⟩
theorem owns_frozen {w : World} {base n cap g e size : Nat} {xs : List Value} (h : w.ownsRow base e size (.slice (some ⟨g, 0, none⟩) n cap) n xs) (k : Nat) : w.frozen? ⟨g, k, none⟩ = false := by
  obtain ⟨hl, hr⟩ := h
  rcases hr with ⟨e, _⟩ | ⟨g', cap', cur, e, hb, hg, h1, h2, h3, h4⟩
  · cases e
  · cases e; exact frozen_of hg
theorem owns_slice {w : World} {base e size n : Nat} {v : Value} {xs : List Value} (h : w.ownsRow base e size v n xs) (hn : 0 < n) : ∃ g cap, v = .slice (some ⟨g, 0, none⟩) n cap ∧ base ≤ g ∧ g < w.heap.size ∧ n ≤ cap ∧ cap ≤ maxLen := by
  rcases h.2 with ⟨_, e⟩ | ⟨g, cap, cur, e, hb, hg, h1, h2, _⟩
  · omega
  · exact ⟨g, cap, e, hb, (Array.getElem?_eq_some_iff.1 hg).1, h1, h2⟩
theorem run_store_complex (P : Program) (w : World) (a : Addr) (m : Mode) (k : FloatKind) (x y : Nat) : (store a (.complex k x y) m).run P w = stored P w a (.complex k x y) m := run_store P w a _ m rfl
attribute [local go_sem] run_store_complex
theorem drewN2 (w : World) (a b : Nat) : (w.drewN a).drewN b = w.drewN (a + b) := by simp [World.drewN, Nat.add_assoc]
set_option maxHeartbeats 400000 in
theorem len_at (a : Option Addr) (n cap : Nat) (w : World) : Calls Tryz.prog 194 #[.slice a n cap] w fun e w' => e = .returned (.int .i64 n) ∧ w = w' := by
  go_enter Tryz.func194, Tryz.ntmps194
  go_wp2
  go_ret
  exact ⟨rfl, rfl⟩
set_option maxHeartbeats 400000 in
theorem less_at (b n cap i j : Nat) (fi ti fj tj : Int) (w : World) (hi : i < n) (hj : j < n) (_hn : n ≤ 1000000)
    (hfi : w.cell? ⟨b, i * 4 + 1, none⟩ = some (.int .i64 fi)) (hti : w.cell? ⟨b, i * 4 + 2, none⟩ = some (.int .i64 ti))
    (hfj : w.cell? ⟨b, j * 4 + 1, none⟩ = some (.int .i64 fj)) (htj : w.cell? ⟨b, j * 4 + 2, none⟩ = some (.int .i64 tj)) :
    Calls Tryz.prog 195 #[.slice (some ⟨b, 0, none⟩) n cap, .int .i64 i, .int .i64 j] w fun e w' => e = .returned (.bool (if fi = fj then decide (ti < tj) else decide (fi < fj))) ∧ ∃ k, w' = w.drewN k := by
  have hi' : (i : Int) < n := by omega
  have hj' : (j : Int) < n := by omega
  by_cases h : fi = fj
  · subst h
    go_enter Tryz.func195, Tryz.ntmps195
    go_wp2_with fail
    go_quiet (fail)
    go_wp2_with fail
    go_quiet (fail)
    go_wp2_with fail
    go_ret
    exact ⟨by simp, _, rfl⟩
  · have h' : (fi == fj) = false := by simpa using h
    have h2 : (if fi = fj then decide (ti < tj) else decide (fi < fj)) = decide (fi < fj) := if_neg h
    rw [h2]
    go_enter Tryz.func195, Tryz.ntmps195
    go_wp2_with fail
    go_quiet (fail)
    go_wp2_with fail
    go_quiet (fail)
    go_wp2_with fail
    go_ret
    exact ⟨rfl, _, drewN2 _ _ _⟩
set_option maxHeartbeats 400000 in
theorem swap_at (b n cap i j : Nat) (s t : Dn.Spot) (w : World) (hi : i < n) (hj : j < n) (_hn : n ≤ 1000000)
    (hp0 : w.cell? ⟨b, i * 4, none⟩ = some (.complex .f64 (fl s.x) (fl s.y))) (hp1 : w.cell? ⟨b, i * 4 + 1, none⟩ = some (.int .i64 s.far)) (hp2 : w.cell? ⟨b, i * 4 + 2, none⟩ = some (.int .i64 s.turn)) (hp3 : w.cell? ⟨b, i * 4 + 3, none⟩ = some (.int .u8 s.kind))
    (hq0 : w.cell? ⟨b, j * 4, none⟩ = some (.complex .f64 (fl t.x) (fl t.y))) (hq1 : w.cell? ⟨b, j * 4 + 1, none⟩ = some (.int .i64 t.far)) (hq2 : w.cell? ⟨b, j * 4 + 2, none⟩ = some (.int .i64 t.turn)) (hq3 : w.cell? ⟨b, j * 4 + 3, none⟩ = some (.int .u8 t.kind))
    (hf : ∀ k, w.frozen? ⟨b, k, none⟩ = false) (hst : i = j → s = t) :
    Calls Tryz.prog 196 #[.slice (some ⟨b, 0, none⟩) n cap, .int .i64 i, .int .i64 j] w fun e w' => e = .returned (.tuple #[]) ∧ ∃ k, w' = (setSpot (setSpot w b i t) b j s).drewN k := by
  have hi' : (i : Int) < n := by omega
  have hj' : (j : Int) < n := by omega
  by_cases hij : i = j
  · obtain rfl := hst hij
    clear hst
    subst hij
    go_enter Tryz.func196, Tryz.ntmps196
    go_wp2_with fail
    go_region
    go_end0
    exact ⟨rfl, 1, rfl⟩
  · have hji : ¬ j = i := fun h => hij h.symm
    clear hst
    go_enter Tryz.func196, Tryz.ntmps196
    go_wp2_with fail
    go_region
    go_end0
    exact ⟨rfl, 1, rfl⟩
theorem SMv.size {X : List (Nat × Obj)} {base S : Nat} {vo vf : Value} {st : Dn.Srch} {vop vled : Value} {w : World} (h : SMv X base S vo vf st vop vled w) : base < w.heap.size + 1 ∧ S < w.heap.size := by
  have := (Array.getElem?_eq_some_iff.1 h.blk).1
  have := h.le
  omega
theorem SM.of_setRow {X : List (Nat × Obj)} {base S g n cap : Nat} {vo vf : Value} {st : Dn.Srch} {vled : Value} {w w' : World} {l : List Dn.Spot}
    (h : SMv X base S vo vf st (.slice (some ⟨g, 0, none⟩) n cap) vled w) (hg : w.grownBy w' (some g))
    (ho : w'.ownsRow base 112 4 (.slice (some ⟨g, 0, none⟩) n cap) l.length (rowCells l)) : SMv X base S vo vf { st with op := l } (.slice (some ⟨g, 0, none⟩) n cap) vled w' := by
  have hs := h.size
  have e1 := h.ne1
  have e3 := h.ne3
  refine ⟨h.le, ?_, ho, h.led.kept hg ?_, h.ne1, h.ne2, h.ne3, fun x hx => ?_⟩
  · rw [hg.block S hs.2 (fun e => e1 (by rw [e]; rfl))]; exact h.blk
  · right
    intro e
    rcases e3 with e3 | e3
    · cases e3
    · exact e3 e.symm
  · obtain ⟨a, b, c, d⟩ := h.fr x hx
    exact ⟨(hg.block x.1 (Array.getElem?_eq_some_iff.1 a).1 (fun e => c (by rw [e]; rfl))).trans a, b, c, d⟩
theorem swapL_gt (l : List Dn.Spot) (i j : Nat) : Dn.swapL l i j = (l.set i (Dn.gt l j)).set j (Dn.gt l i) := rfl
end Go.Proofs.YtcclgodahlinbaaGreatDoor
namespace Go.Proofs.YtcclgodahlinbaaGreatDoor
open Go.RowKit Go
set_option maxRecDepth 100000
theorem grownBy_drewN {w w' : World} {r : Option Nat} {k : Nat} (h : w.grownBy w' r) : w.grownBy (w'.drewN k) r := ⟨h.os, h.tape, h.output, h.size, h.block⟩
theorem swap_sm {X : List (Nat × Obj)} {base S g n cap i j : Nat} {vo vf : Value} {st : Dn.Srch} {vled : Value} {w : World} (h : SMv X base S vo vf st (.slice (some ⟨g, 0, none⟩) n cap) vled w)
    (hi : i < st.op.length) (hj : j < st.op.length) (hb : st.op.length ≤ 1000000) :
    Calls Tryz.prog 196 #[.slice (some ⟨g, 0, none⟩) n cap, .int .i64 i, .int .i64 j] w fun e w' =>
      e = .returned (.tuple #[]) ∧ SMv X base S vo vf { st with op := Dn.swapL st.op i j } (.slice (some ⟨g, 0, none⟩) n cap) vled w' ∧ Below base w w' := by
  have hop := h.op
  obtain ⟨g', cap', e, hbg, _, _⟩ := owns_slice hop (by omega)
  cases e
  obtain ⟨p0, p1, p2, p3⟩ := owns_spot hop hi
  obtain ⟨q0, q1, q2, q3⟩ := owns_spot hop hj
  have hsw := swap_at g _ cap i j (Dn.gt st.op i) (Dn.gt st.op j) w hi hj hb p0 p1 p2 p3 q0 q1 q2 q3 (owns_frozen hop) (fun e => congrArg (Dn.gt st.op) e)
  refine hsw.mono ?_
  clear hsw
  rintro e w' ⟨rfl, k, rfl⟩
  have h1 := setSpot_row (Dn.gt st.op j) rfl hi hop
  have h2 := setSpot_row (l := st.op.set i (Dn.gt st.op j)) (n := st.op.length) (i := j) (Dn.gt st.op i) (by simp) (by simpa using hj) h1
  have hgr := grownBy_drewN (k := k) (grownBy_trans (grownBy_setSpot w g i (Dn.gt st.op j)) (grownBy_setSpot _ g j (Dn.gt st.op i)))
  have h3 := ownsRow_drewN (k := k) h2
  generalize (setSpot (setSpot w g i (Dn.gt st.op j)) g j (Dn.gt st.op i)).drewN k = w1 at hgr h3 ⊢
  have h4 := SM.of_setRow (l := Dn.swapL st.op i j) h hgr (by rw [Dn.swapL_length, swapL_gt]; exact h3)
  exact ⟨rfl, h4, (Below.refl base w).grown hgr (by have := h.size; omega) (fun k e => by cases e; exact hbg)⟩
end Go.Proofs.YtcclgodahlinbaaGreatDoor
namespace Go.Proofs.YtcclgodahlinbaaGreatDoor
open Go.RowKit Go
set_option maxRecDepth 100000
theorem run_append_own2 {P : Program} (w : World) (base : Nat) (t ty e : TypeId) (i : TypeInfo) (z : Value) (size bytes : Nat) (h1 : P.underlying t = some (.slice e)) (h2 : P.info? e = some i) (h3 : i.zero = some z) (h4 : i.size = size) (h5 : i.bytes = bytes) (h6 : z.cells.size = size) (h7 : 0 < size)
    (v : Value) (n : Nat) (xs : List Value) (hown : w.ownsRow base e size v n xs)
    (ad : Addr) (m c : Nat) (news : List Value) (hn : news.length = m * size) (hc : ∀ j u, news[j]? = some u → w.cell? (ad.add j) = some u) (h1c : ∀ u ∈ news, u.oneCell' = true)
    (b1 : n + m ≤ maxLen) (b2 : (n + m) * bytes ≤ 140737488355328) (hbase : base ≤ w.heap.size) :
    ∃ v' w', (Builtin.append_ #[t, t] ty #[v, .slice (some ad) m c]).run P w = .ok v' w' ∧ w'.ownsRow base e size v' (n + m) (xs ++ news) ∧ w.grownBy w' v.ownBlock ∧
      (v'.ownBlock = v.ownBlock ∨ ∀ g, v'.ownBlock = some g → w.heap.size ≤ g) := by
  obtain ⟨v', w', hr, r2, r3, _⟩ := run_append_own (P := P) w base t ty e i z size bytes h1 h2 h3 h4 h5 h6 h7 v n xs hown ad m c news hn hc h1c b1 b2 hbase
  refine ⟨v', w', hr, r2, r3, ?_⟩
  rcases hown.2 with ⟨rfl, rfl⟩ | ⟨g, cap, cur, rfl, hbg, hg, hnc, hcm, hcs, htake⟩
  · have hx : xs = [] := List.eq_nil_of_length_eq_zero (by simpa using hown.1)
    subst hx
    obtain ⟨v2, w2, hr2, s2, _, _⟩ := run_append_own (P := P) w w.heap.size t ty e i z size bytes h1 h2 h3 h4 h5 h6 h7 (.slice none 0 0) 0 [] (World.ownsRow_nil w _ e size) ad m c news hn hc h1c b1 b2 (Nat.le_refl _)
    rw [hr] at hr2
    cases hr2
    exact .inr fun g hg => (s2.lt g hg).1
  · by_cases hroom : n + m ≤ cap
    · subst h4
      have hfit : n * i.size + news.length ≤ cur.size := by rw [hn, hcs, ← Nat.add_mul]; exact Nat.mul_le_mul_right _ hroom
      have hr2 := run_append_room (P := P) w t ty e i h1 h2 g n cap cur hg ad m c news hn hc h1c hroom hfit
      rw [hr] at hr2
      cases hr2
      exact .inl rfl
    · have holds : ∀ j u, xs[j]? = some u → w.cell? ((⟨g, 0, none⟩ : Addr).add j) = some u := hown.cells (g := g) rfl
      obtain ⟨v2, w2, hr2, s2, _⟩ := run_append_arg_grows (P := P) w t ty e i z size bytes h1 h2 h3 h4 h5 h6 h7 ⟨g, 0, none⟩ n cap xs hown.1 holds ad m c news hn hc (by omega) b1 b2
      rw [hr] at hr2
      cases hr2
      exact .inr fun k hk => (s2.lt k hk).1
theorem step_append_own {P : Program} {ops : Array Oper} {o : Oper} {a : Act} {w : World} {K : Act → World → Prop} {Q : Exit → Act → World → Prop} {E : Prop}
    (hg : o.guard = none) (s x : Operand) (t : TypeId) (hop : o.op = Op.call { callee := Callee.builtin Builtin.append, args := #[s, x], argTypes := #[t, t] })
    (base : Nat) (e : TypeId) (i : TypeInfo) (z : Value) (size bytes : Nat) (h1 : P.underlying t = some (.slice e)) (h2 : P.info? e = some i) (h3 : i.zero = some z) (h4 : i.size = size) (h5 : i.bytes = bytes) (h6 : z.cells.size = size) (h7 : 0 < size)
    (v : Value) (n : Nat) (xs : List Value) (hs : a.eval s = v) (hown : w.ownsRow base e size v n xs)
    (ad : Addr) (m c : Nat) (news : List Value) (hx : a.eval x = .slice (some ad) m c) (hn : news.length = m * size) (hc : ∀ j u, news[j]? = some u → w.cell? (ad.add j) = some u) (h1c : ∀ u ∈ news, u.oneCell' = true)
    (b1 : n + m ≤ maxLen) (b2 : (n + m) * bytes ≤ 140737488355328) (hbase : base ≤ w.heap.size)
    (hK : ∀ v' w', w'.ownsRow base e size v' (n + m) (xs ++ news) → w.grownBy w' v.ownBlock → (v'.ownBlock = v.ownBlock ∨ ∀ g, v'.ownBlock = some g → w.heap.size ≤ g) → K (a.put o.dst v') w') :
    if Region.wanted o (yielded ops a.tmps) = true then Oper.wp P o a w K Q else E := by
  have hw : Region.wanted o (yielded ops a.tmps) = true := by simp [Region.wanted, hg]
  rw [if_pos hw]
  obtain ⟨v', w', hr, r1, r2, r3⟩ := run_append_own2 (P := P) w base t o.type e i z size bytes h1 h2 h3 h4 h5 h6 h7 v n xs hown ad m c news hn hc h1c b1 b2 hbase
  unfold Oper.wp execOp
  simp only [hop, resolve, invoke, builtin, Sem.run_bind, Sem.run_pure, Result.andThen_ok, List.map_toArray, List.map_cons, List.map_nil, hs, hx, hr]
  exact hK v' w' r1 r2 r3
theorem cells_new (w : World) (cs : List Value) (T : TypeId) : ∀ (j : Nat) (u : Value), cs[j]? = some u → (w.alloc (.cells cs.toArray T)).cell? ((⟨w.heap.size, 0, none⟩ : Addr).add j) = some u := by
  intro j u hu
  have hadd : (⟨w.heap.size, 0, none⟩ : Addr).add j = ⟨w.heap.size, j, none⟩ := by unfold Addr.add; split <;> simp_all
  rw [hadd]
  exact cell_of (cs := cs.toArray) (t := T) (fr := (0, 0)) (heap_alloc_new w _) (by simpa using hu)
theorem spotCells_one (s : Dn.Spot) : ∀ u ∈ spotCells s, u.oneCell' = true := by
  intro u hu
  simp [spotCells] at hu
  rcases hu with rfl | rfl | rfl | rfl <;> rfl
theorem owns_block {w : World} {base e size n g : Nat} {v : Value} {xs : List Value} (h : w.ownsRow base e size v n xs) (hg : v.ownBlock = some g) : ∃ cur, w.heap[g]? = some (.cells cur e (0, 0)) := by
  rcases h.2 with ⟨rfl, _⟩ | ⟨g', cap, cur, rfl, _, hh, _⟩
  · cases hg
  · cases hg; exact ⟨cur, hh⟩
theorem owns_ne {w : World} {base e size n S : Nat} {v : Value} {xs : List Value} {cs : Array Value} {t : TypeId} {fr : Nat × Nat} (h : w.ownsRow base e size v n xs) (hS : w.heap[S]? = some (.cells cs t fr)) (hne : e ≠ t) : v.ownBlock ≠ some S := by
  intro hg
  obtain ⟨cur, hh⟩ := owns_block h hg
  rw [hS] at hh
  cases hh
  exact hne rfl
theorem owns_ne2 {w : World} {base e size n base' e' size' n' : Nat} {v v' : Value} {xs xs' : List Value} (h : w.ownsRow base e size v n xs) (h' : w.ownsRow base' e' size' v' n' xs') (hne : e ≠ e') : v.ownBlock = none ∨ v.ownBlock ≠ v'.ownBlock := by
  cases hg : v.ownBlock with
  | none => exact .inl rfl
  | some g =>
    right
    intro hg'
    obtain ⟨cur, hh⟩ := owns_block h hg
    obtain ⟨cur', hh'⟩ := owns_block h' hg'.symm
    rw [hh] at hh'
    cases hh'
    exact hne rfl
theorem SMv.mk' {X : List (Nat × Obj)} {base S : Nat} {vo vf : Value} {st : Dn.Srch} {vop vled : Value} {w : World} (le : base ≤ S)
    (blk : w.heap[S]? = some (.cells #[vo, vf, vop, .int .i64 st.turns, vled] 106 (0, 0))) (op : w.ownsRow base 112 4 vop st.op.length (rowCells st.op))
    (led : w.ownsRow base 5 1 vled st.led.length (ledCells st.led)) (fr : ∀ x ∈ X, w.heap[x.1]? = some x.2 ∧ x.1 ≠ S ∧ vop.ownBlock ≠ some x.1 ∧ vled.ownBlock ≠ some x.1) : SMv X base S vo vf st vop vled w :=
  ⟨le, blk, op, led, owns_ne op blk (by decide), owns_ne led blk (by decide), owns_ne2 op led (by decide), fr⟩
theorem ownsRow_alloc_drew {w : World} {base e size n : Nat} {v : Value} {xs : List Value} (h : w.ownsRow base e size v n xs) (o : Obj) : (w.alloc o).drew.ownsRow base e size v n xs := h.alloc o
theorem push_fin {X : List (Nat × Obj)} {base S g cap : Nat} {vo vf : Value} {st : Dn.Srch} {vop vled : Value} {w w1 : World} {s : Dn.Spot} {o : Obj} (h : SMv X base S vo vf st vop vled w)
    (hgr : (w.alloc o).drew.grownBy w1 vop.ownBlock) (hS : w1.heap[S]? = w.heap[S]?) (hown : w1.ownsRow base 112 4 (.slice (some ⟨g, 0, none⟩) (st.op.length + 1) cap) (st.op.length + 1) (rowCells st.op ++ spotCells s)) (hnew : (Value.slice (some ⟨g, 0, none⟩) (st.op.length + 1) cap).ownBlock = vop.ownBlock ∨ ∀ k, (Value.slice (some ⟨g, 0, none⟩) (st.op.length + 1) cap).ownBlock = some k → (w.alloc o).drew.heap.size ≤ k) :
    SM X base S vo vf { st with op := st.op ++ [s] } (w1.setCell ⟨S, 2, none⟩ (.slice (some ⟨g, 0, none⟩) (st.op.length + 1) cap)) ∧ Below base w (w1.setCell ⟨S, 2, none⟩ (.slice (some ⟨g, 0, none⟩) (st.op.length + 1) cap)) := by
  have hs := h.size
  have hled : w1.ownsRow base 5 1 vled st.led.length (ledCells st.led) := (ownsRow_alloc_drew h.led o).kept hgr (by
    rcases h.ne3 with e | e
    · cases hv : vled.ownBlock with
      | none => exact .inl rfl
      | some k => right; rw [e]; exact fun x => by cases x
    · exact .inr (fun x => e x.symm))
  have hblk := hS.trans h.blk
  have hg2 := grownBy_setCell w1 S 2 (.slice (some ⟨g, 0, none⟩) (st.op.length + 1) cap)
  have hn1 : (Value.slice (some ⟨g, 0, none⟩) (st.op.length + 1) cap).ownBlock ≠ some S := owns_ne hown hblk (by decide)
  have hn2 : vled.ownBlock ≠ some S := owns_ne hled hblk (by decide)
  refine ⟨⟨.slice (some ⟨g, 0, none⟩) (st.op.length + 1) cap, vled, SMv.mk' h.le ?_ ?_ (hled.kept hg2 (.inr hn2)) ?_⟩, ?_⟩
  · exact heap_setCell_same w1 S 2 _ _ _ _ hblk
  · have := hown.kept hg2 (.inr hn1)
    rw [rowCells_append]
    simpa [rowCells] using this
  · intro x hx
    obtain ⟨a, b, c, d⟩ := h.fr x hx
    have hlt := (Array.getElem?_eq_some_iff.1 a).1
    refine ⟨?_, b, ?_, d⟩
    · rw [heap_setCell_other w1 S x.1 2 _ b, hgr.block x.1 (by simp; omega) (fun e => c e.symm)]
      exact (Below.heap_alloc w o x.1 hlt).trans a
    · intro e
      rcases hnew with e' | e'
      · exact c (e'.symm.trans e)
      · have := e' _ e; simp at this; omega
  · refine ((((Below.refl base w).alloc (by omega) o).drew).grown hgr (by simp; omega) (fun k e => (h.op.lt k e).1)).setCell (p := ⟨S, 2, none⟩) h.le _
theorem info_spot : (Tryz.prog.info? 112).map (fun i => (i.zero, i.size, i.bytes)) = some (some (.agg #[.complex .f64 0 0, .int .i64 0, .int .i64 0, .int .u8 0]), 4, 40) := by kernel_rfl
set_option maxHeartbeats 800000 in
theorem push_sm {X : List (Nat × Obj)} {base S : Nat} {vo vf : Value} {st : Dn.Srch} {vop vled : Value} {w : World} (s : Dn.Spot) (h : SMv X base S vo vf st vop vled w) (hb : st.op.length ≤ 1000000) :
    Calls Tryz.prog 198 #[.pointer (some ⟨S, 2, none⟩), .iface 112 (.agg #[.complex .f64 (fl s.x) (fl s.y), .int .i64 s.far, .int .i64 s.turn, .int .u8 s.kind])] w fun e w' =>
      e = .returned (.tuple #[]) ∧ SM X base S vo vf { st with op := st.op ++ [s] } w' ∧ Below base w w' := by
  have hc := cell_of (k := 2) (v := vop) h.blk rfl
  have hf : w.frozen? ⟨S, 2, none⟩ = false := frozen_of h.blk
  have hop := h.op
  obtain ⟨i0, hi, hz0, hz1, hz2⟩ := info_parts info_spot
  go_enter Tryz.func198, Tryz.ntmps198
  have hta : ∀ (v : Value) (w : World), (Instr.typeAssert (.iface 112 v) 20 112 false).run Tryz.prog w = .ok v w := fun _ _ => by kernel_rfl
  go_wp2_with fail
  have hb1 : st.op.length + 1 ≤ maxLen := by unfold maxLen; omega
  have hb2 : (st.op.length + 1) * 40 ≤ 140737488355328 := by omega
  have hbs : ∀ o, base ≤ (w.alloc o).drew.heap.size := by intro o; have := h.size; simp; omega
  have hk : ∀ o w1, (w.alloc o).drew.grownBy w1 vop.ownBlock → w1.heap[S]? = w.heap[S]? := by
    intro o w1 hg
    have hs := h.size
    rw [hg.block S (by simp; omega) (fun e => h.ne1 e.symm)]
    exact Below.heap_alloc w o S hs.2
  have hS := h.size.2
  go_region_law (refine step_append_own rfl (.tmp 7) (.tmp 10) 104 rfl base 112 i0 _ 4 40 Tryz.underlying104 hi hz0 hz1 hz2 rfl (by decide) vop _ _ (by simp [Act.eval]) (hop.alloc _) ⟨w.heap.size, 0, none⟩ 1 1 (spotCells s) (by simp [Act.eval]) rfl (cells_new w _ _) (spotCells_one s) hb1 hb2 (hbs _) ?_; intro v' w1 hown' hgrow hnew; obtain ⟨g', cap', rfl, _, _⟩ := owns_slice hown' (Nat.succ_pos _); have hkk := hk _ w1 hgrow; have hc1 : w1.cell? ⟨S, 2, none⟩ = some vop := cell_of (hkk.trans h.blk) rfl; have hf1 : w1.frozen? ⟨S, 2, none⟩ = false := frozen_of (hkk.trans h.blk))
  all_goals
    go_end0
    exact ⟨rfl, push_fin h hgrow hkk hown' hnew⟩
end Go.Proofs.YtcclgodahlinbaaGreatDoor
namespace Go.Proofs.YtcclgodahlinbaaGreatDoor
open Go.RowKit Go
set_option maxRecDepth 100000
attribute [local go_sem] run_store_complex
theorem rowCells_take (l : List Dn.Spot) : ∀ (k : Nat), rowCells (l.take k) = (rowCells l).take (k * 4) := by
  induction l with
  | nil => intro k; simp [rowCells]
  | cons s l ih =>
    intro k
    cases k with
    | zero => simp [rowCells]
    | succ k =>
      rw [List.take_succ_cons, rowCells_cons, rowCells_cons, ih k, show (k + 1) * 4 = k * 4 + 1 + 1 + 1 + 1 by omega]
      rfl
theorem owns_take {w : World} {base n cap g k : Nat} {l : List Dn.Spot} (h : w.ownsRow base 112 4 (.slice (some ⟨g, 0, none⟩) n cap) n (rowCells l)) (hk : k ≤ n) :
    w.ownsRow base 112 4 (.slice (some ⟨g, 0, none⟩) k cap) k (rowCells (l.take k)) := by
  obtain ⟨hl, hr⟩ := h
  rcases hr with ⟨e, _⟩ | ⟨g', cap', cur, e, hb, hg, h1, h2, h3, h4⟩
  · cases e
  · cases e
    refine ⟨?_, .inr ⟨g, cap, cur, rfl, hb, hg, by omega, h2, h3, ?_⟩⟩
    · rw [rowCells_take, List.length_take, hl]; omega
    · rw [rowCells_take, ← h4, List.take_take]
      congr 1; omega
theorem pop_fin {X : List (Nat × Obj)} {base S g cap k : Nat} {vo vf : Value} {st : Dn.Srch} {vled : Value} {w : World} {o : Obj} (h : SMv X base S vo vf st (.slice (some ⟨g, 0, none⟩) st.op.length cap) vled w) (hk : k ≤ st.op.length) :
    SM X base S vo vf { st with op := st.op.take k } ((w.setCell ⟨S, 2, none⟩ (.slice (some ⟨g, 0, none⟩) k cap)).alloc o) ∧ Below base w ((w.setCell ⟨S, 2, none⟩ (.slice (some ⟨g, 0, none⟩) k cap)).alloc o) := by
  have hs := h.size
  have hg2 := grownBy_setCell w S 2 (.slice (some ⟨g, 0, none⟩) k cap)
  have hsz : (w.setCell ⟨S, 2, none⟩ (.slice (some ⟨g, 0, none⟩) k cap)).heap.size = w.heap.size := by simp [World.setCell]
  have h1 := owns_take h.op hk
  have hn1 : (Value.slice (some ⟨g, 0, none⟩) k cap).ownBlock ≠ some S := h.ne1
  refine ⟨⟨.slice (some ⟨g, 0, none⟩) k cap, vled, SMv.mk' h.le ?_ ?_ ((h.led.kept hg2 (.inr h.ne2)).alloc o) ?_⟩, ?_⟩
  · rw [Below.heap_alloc _ _ _ (by rw [hsz]; exact hs.2)]
    exact heap_setCell_same w S 2 _ _ _ _ h.blk
  · have e : (st.op.take k).length = k := by simp; omega
    have := (h1.kept hg2 (.inr hn1)).alloc o
    show World.ownsRow _ _ _ _ _ (st.op.take k).length (rowCells (st.op.take k))
    rw [e]; exact this
  · intro x hx
    obtain ⟨a, b, c, d⟩ := h.fr x hx
    have hlt := (Array.getElem?_eq_some_iff.1 a).1
    refine ⟨?_, b, c, d⟩
    rw [Below.heap_alloc _ _ _ (by rw [hsz]; exact hlt), heap_setCell_other w S x.1 2 _ b]
    exact a
  · exact ((Below.refl base w).setCell (p := ⟨S, 2, none⟩) h.le _).alloc (by rw [hsz]; omega) o
set_option maxHeartbeats 800000 in
theorem popm_sm {X : List (Nat × Obj)} {base S g n cap : Nat} {vo vf : Value} {st : Dn.Srch} {vled : Value} {w : World} (h : SMv X base S vo vf st (.slice (some ⟨g, 0, none⟩) n cap) vled w) (hn : 0 < st.op.length) (hb : st.op.length ≤ 1000000) :
    Calls Tryz.prog 197 #[.pointer (some ⟨S, 2, none⟩)] w fun e w' =>
      e = .returned (.iface 112 (.agg #[.complex .f64 (fl (Dn.gt st.op (st.op.length - 1)).x) (fl (Dn.gt st.op (st.op.length - 1)).y), .int .i64 (Dn.gt st.op (st.op.length - 1)).far, .int .i64 (Dn.gt st.op (st.op.length - 1)).turn, .int .u8 (Dn.gt st.op (st.op.length - 1)).kind])) ∧
      SM X base S vo vf { st with op := st.op.take (st.op.length - 1) } w' ∧ Below base w w' := by
  have hop := h.op
  obtain ⟨g', cap', e, hbg, hgs, hcap, hcap2⟩ := owns_slice hop hn
  cases e
  obtain ⟨k, hk⟩ : ∃ k, st.op.length = k + 1 := ⟨st.op.length - 1, by omega⟩
  obtain ⟨p0, p1, p2, p3⟩ := owns_spot hop (i := k) (by omega)
  have hc := cell_of (k := 2) h.blk rfl
  have hf : w.frozen? ⟨S, 2, none⟩ = false := frozen_of h.blk
  have hS := h.size.2
  have hk1 : st.op.length - 1 = k := by omega
  rw [hk1]
  generalize hsp : Dn.gt st.op k = sp at p0 p1 p2 p3 ⊢
  rw [hk] at hc hcap
  have hcap' : ((k : Nat) : Int) ≤ cap := by omega
  unfold maxLen at hcap2
  go_enter Tryz.func197, Tryz.ntmps197
  go_wp2
  go_ret
  have := pop_fin (k := k) (o := .cells #[.complex .f64 (fl sp.x) (fl sp.y), .int .i64 sp.far, .int .i64 sp.turn, .int .u8 sp.kind] 112) h (by omega)
  exact ⟨rfl, this.1, this.2⟩
end Go.Proofs.YtcclgodahlinbaaGreatDoor
namespace Go.Proofs.YtcclgodahlinbaaGreatDoor
open Go.RowKit Go
set_option maxRecDepth 100000
theorem upM_fuel : ∀ (k k' : Nat) (l : List Dn.Spot) (j : Nat), j < k → j < k' → Dn.upM k l j = Dn.upM k' l j := by
  intro k
  induction k with
  | zero => intro k' l j h; omega
  | succ k ih =>
    intro k' l j h h'
    cases k' with
    | zero => omega
    | succ k' =>
      unfold Dn.upM
      simp only
      split
      · rfl
      · rename_i hh
        have : (j - 1) / 2 ≠ j := fun e => hh (.inl e)
        exact ih k' _ _ (by omega) (by omega)
theorem Below.of_drewN {B k : Nat} {w w' : World} (h : Below B (w.drewN k) w') : Below B w w' := ⟨h.os, h.tape, h.output, h.size, h.block⟩
theorem less_sm {X : List (Nat × Obj)} {base S g n cap i j : Nat} {vo vf : Value} {st : Dn.Srch} {vled : Value} {w : World} (h : SMv X base S vo vf st (.slice (some ⟨g, 0, none⟩) n cap) vled w)
    (hi : i < st.op.length) (hj : j < st.op.length) (hb : st.op.length ≤ 1000000) :
    Calls Tryz.prog 195 #[.slice (some ⟨g, 0, none⟩) n cap, .int .i64 i, .int .i64 j] w fun e w' => e = .returned (.bool (Dn.Spot.less (Dn.gt st.op i) (Dn.gt st.op j))) ∧ ∃ k, w' = w.drewN k := by
  have hop := h.op
  obtain ⟨g', cap', e, hbg, _, _⟩ := owns_slice hop (by omega)
  cases e
  obtain ⟨p0, p1, p2, p3⟩ := owns_spot hop hi
  obtain ⟨q0, q1, q2, q3⟩ := owns_spot hop hj
  refine (less_at g _ cap i j _ _ _ _ w hi hj hb p1 p2 q1 q2).mono ?_
  rintro e w' ⟨rfl, hk⟩
  refine ⟨?_, hk⟩
  congr 2
  unfold Dn.Spot.less
  simp only [Int.natCast_inj, Int.ofNat_lt]
set_option maxHeartbeats 800000 in
theorem up_sm {X : List (Nat × Obj)} {base S : Nat} {vo vf : Value} {st : Dn.Srch} {w : World} (j : Nat) (h : SM X base S vo vf st w) (hj : j < st.op.length) (hb : st.op.length ≤ 1000000) :
    Calls Tryz.prog 96 #[.iface 110 (.pointer (some ⟨S, 2, none⟩)), .int .i64 j] w fun e w' =>
      e = .returned (.tuple #[]) ∧ SM X base S vo vf { st with op := Dn.upM (j + 1) st.op j } w' ∧ Below base w w' := by
  go_enter Tryz.func96, Tryz.ntmps96
  go_wp2
  go_loopw [1] (fun t wr => ∃ (i : Nat) (l : List Dn.Spot), t = .int .i64 i ∧ SM X base S vo vf { st with op := l } wr ∧ Below base w wr ∧ i < l.length ∧ Hid (l.length = st.op.length) ∧ Hid (Dn.upM (i + 1) l i = Dn.upM (j + 1) st.op j)) (fun t _ => (intOf t).toNat)
  case atStart => exact ⟨j, st.op, rfl, h, Below.refl _ _, hj, rfl, rfl⟩
  case round =>
    obtain ⟨i, l, rfl, ⟨vop, vled, hsm⟩, hbel, hil, hll, hup⟩ := hrel
    have hlb : l.length ≤ 1000000 := by have := hll.out; omega
    obtain ⟨g, cap, rfl, _, _, _⟩ := owns_slice hsm.op (show 0 < l.length by omega)
    have hc := cell_of (k := 2) (v := .slice (some ⟨g, 0, none⟩) l.length cap) hsm.blk rfl
    have hml := m_less ⟨S, 2, none⟩ wr _ hc
    by_cases hi0 : i = 0
    · subst hi0
      have hfin : l = Dn.upM (j + 1) st.op j := by
        rw [← hup.out]; unfold Dn.upM; simp
      have hfin' : Hid (l = Dn.upM (j + 1) st.op j) := hfin
      clear hup hfin
      go_wp2
      go_end0
      exact ⟨rfl, hfin'.out ▸ ⟨_, _, hsm⟩, hbel⟩
    · obtain ⟨q, hq⟩ : ∃ q : Nat, (i - 1) / 2 = q := ⟨_, rfl⟩
      have hq2 : ((i : Int) - 1) / 2 = q := by omega
      have hq1 : ((i : Int) - 1).tdiv 2 = q := by rw [Int.tdiv_eq_ediv_of_nonneg (by omega)]; exact hq2
      have hqi : ((q : Nat) : Int) ≠ i := by omega
      have hqi' : ¬ (q = i) := by omega
      have hql : q < l.length := by omega
      have hL := less_sm hsm (i := i) (j := q) hil hql hlb
      have hstep : Hid (Dn.upM (i + 1) l i = if (q = i ∨ Dn.Spot.less (Dn.gt l i) (Dn.gt l q) = false) then l else Dn.upM i (Dn.swapL l q i) q) := by
        unfold Hid; rw [Dn.upM]; simp only [hq]
      clear hq
      by_cases hless : Dn.Spot.less (Dn.gt l i) (Dn.gt l q) = false
      · have hfin : Hid (l = Dn.upM (j + 1) st.op j) := by
          unfold Hid; rw [← hup.out, hstep.out, if_pos (.inr hless)]
        clear hup hstep
        rw [hless] at hL
        go_wp2_with (go_at_call 195; refine hL.mono ?_; rintro e w' ⟨rfl, k, rfl⟩)
        go_end0
        exact ⟨rfl, hfin.out ▸ ⟨_, _, hsm.drewN⟩, Below.drewN' hbel⟩
      · have hless' : Dn.Spot.less (Dn.gt l i) (Dn.gt l q) = true := by simpa using hless
        have hgo : Hid (Dn.upM i (Dn.swapL l q i) q = Dn.upM (j + 1) st.op j) := by
          unfold Hid; rw [← hup.out, hstep.out, if_neg (fun h => h.elim hqi' hless)]
        clear hup hstep
        rw [hless'] at hL
        have hms := fun k => m_swap ⟨S, 2, none⟩ (wr.drewN k) _ hc
        have hW := fun k => swap_sm (hsm.drewN (k := k)) (i := q) (j := i) hql hil hlb
        clear hless hless'
        go_wp2_with (first | (go_at_call 195; refine hL.mono ?_; rintro e w' ⟨rfl, k, rfl⟩) | (go_at_call 196; refine (hW _).mono ?_; rintro e w' ⟨rfl, hsm', hbel'⟩))
        go_roundw
        case rel => exact ⟨q, Dn.swapL l q i, rfl, ⟨_, _, hsm'⟩, hbel.trans (Below.of_drewN hbel'), by rw [Dn.swapL_length]; exact hql, by unfold Hid; rw [Dn.swapL_length]; exact hll.out, by unfold Hid; rw [upM_fuel (q + 1) i _ _ (by omega) (by omega)]; exact hgo.out⟩
        case measure => simp [intOf]; omega
end Go.Proofs.YtcclgodahlinbaaGreatDoor
namespace Go.Proofs.YtcclgodahlinbaaGreatDoor
open Go.RowKit Go
set_option maxRecDepth 100000
theorem downM_fuel (n : Nat) : ∀ (k k' : Nat) (l : List Dn.Spot) (i : Nat), n ≤ k + i → n ≤ k' + i → Dn.downM k l i n = Dn.downM k' l i n := by
  intro k
  induction k with
  | zero =>
    intro k' l i h h'
    cases k' with
    | zero => rfl
    | succ k' => unfold Dn.downM; rw [if_pos (by omega)]
  | succ k ih =>
    intro k' l i h h'
    cases k' with
    | zero => unfold Dn.downM; rw [if_pos (by omega)]
    | succ k' =>
      unfold Dn.downM
      split
      · rfl
      · split
        · rfl
        · have := Dn.downJ_gt l i n
          exact ih k' _ _ (by omega) (by omega)
theorem down_stop {n : Nat} {l : List Dn.Spot} {i c : Nat} (h : 2 * i + 1 < n) (hc : Dn.downJ l i n = c) (hl : Dn.Spot.less (Dn.gt l c) (Dn.gt l i) = false) : Dn.downM n l i n = l := by
  obtain ⟨k, rfl⟩ : ∃ k, n = k + 1 := ⟨n - 1, by omega⟩
  rw [Dn.downM, if_neg (by omega), hc, if_pos hl]
theorem down_go {n : Nat} {l : List Dn.Spot} {i c : Nat} (h : 2 * i + 1 < n) (hc : Dn.downJ l i n = c) (hl : Dn.Spot.less (Dn.gt l c) (Dn.gt l i) = true) : Dn.downM n l i n = Dn.downM n (Dn.swapL l i c) c n := by
  have hgt := Dn.downJ_gt l i n
  obtain ⟨k, rfl⟩ : ∃ k, n = k + 1 := ⟨n - 1, by omega⟩
  rw [Dn.downM, if_neg (by omega), hc, if_neg (by rw [hl]; simp)]
  exact downM_fuel _ _ _ _ _ (by omega) (by omega)
theorem down_end {n : Nat} {l : List Dn.Spot} {i : Nat} (h : n ≤ 2 * i + 1) : Dn.downM n l i n = l := by
  cases n with
  | zero => rfl
  | succ n => rw [Dn.downM, if_pos h]
theorem downJ_two {n : Nat} {l : List Dn.Spot} {i : Nat} (h : 2 * i + 2 < n) (hl : Dn.Spot.less (Dn.gt l (2 * i + 2)) (Dn.gt l (2 * i + 1)) = true) : Dn.downJ l i n = 2 * i + 2 := by
  unfold Dn.downJ; rw [if_pos ⟨h, hl⟩]
theorem downJ_one {n : Nat} {l : List Dn.Spot} {i : Nat} (hl : Dn.Spot.less (Dn.gt l (2 * i + 2)) (Dn.gt l (2 * i + 1)) = false) : Dn.downJ l i n = 2 * i + 1 := by
  unfold Dn.downJ; rw [if_neg (fun h => by have := h.2; simp only [Dn.gt] at hl; rw [hl] at this; cases this)]
theorem downJ_last {n : Nat} {l : List Dn.Spot} {i : Nat} (h : ¬ 2 * i + 2 < n) : Dn.downJ l i n = 2 * i + 1 := by
  unfold Dn.downJ; rw [if_neg (fun h' => h h'.1)]
set_option maxHeartbeats 2000000 in
theorem down_sm {X : List (Nat × Obj)} {base S : Nat} {vo vf : Value} {st : Dn.Srch} {w : World} (n : Nat) (h : SM X base S vo vf st w) (hn : n ≤ st.op.length) (hb : st.op.length ≤ 1000000) :
    Calls Tryz.prog 98 #[.iface 110 (.pointer (some ⟨S, 2, none⟩)), .int .i64 0, .int .i64 n] w fun e w' =>
      (∃ b : Bool, e = .returned (.bool b)) ∧ SM X base S vo vf { st with op := Dn.downM n st.op 0 n } w' ∧ Below base w w' := by
  go_enter Tryz.func98, Tryz.ntmps98
  go_wp2
  go_loopw [7] (fun t wr => ∃ (i : Nat) (l : List Dn.Spot), t = .int .i64 i ∧ SM X base S vo vf { st with op := l } wr ∧ Below base w wr ∧ i ≤ 1000000 ∧ Hid (l.length = st.op.length) ∧ Hid (Dn.downM n l i n = Dn.downM n st.op 0 n)) (fun t _ => n - (intOf t).toNat)
  case atStart => exact ⟨0, st.op, rfl, h, Below.refl _ _, by omega, rfl, rfl⟩
  case round =>
    obtain ⟨i, l, rfl, ⟨vop, vled, hsm⟩, hbel, hil, hll, hup⟩ := hrel
    have hlb : l.length ≤ 1000000 := by have := hll.out; omega
    have hnl : n ≤ l.length := by have := hll.out; omega
    by_cases hend : n ≤ 2 * i + 1
    · have hfin : Hid (l = Dn.downM n st.op 0 n) := by unfold Hid; rw [← hup.out, down_end hend]
      have hend' : (n : Int) ≤ 2 * (i : Int) + 1 := by omega
      clear hup hend
      go_wp2
      go_ret
      exact ⟨⟨_, rfl⟩, hfin.out ▸ ⟨_, _, hsm⟩, hbel⟩
    · obtain ⟨g, cap, rfl, _, _, _⟩ := owns_slice hsm.op (show 0 < l.length by omega)
      have hc := cell_of (k := 2) (v := .slice (some ⟨g, 0, none⟩) l.length cap) hsm.blk rfl
      have hml := fun k => m_less ⟨S, 2, none⟩ (wr.drewN k) _ hc
      have hml0 := m_less ⟨S, 2, none⟩ wr _ hc
      have hms := fun k => m_swap ⟨S, 2, none⟩ (wr.drewN k) _ hc
      have hlt1 : 2 * (i : Int) + 1 < n := by omega
      have hlt : 2 * i + 1 < n := by omega
      have hge : ¬ (2 * (i : Int) + 1 < 0) := by omega
      clear hend
      by_cases h2 : 2 * i + 2 < n
      · have hlt2 : 2 * (i : Int) + 1 + 1 < n := by omega
        by_cases hl1 : Dn.Spot.less (Dn.gt l (2 * i + 2)) (Dn.gt l (2 * i + 1)) = false
        · have hJ : Dn.downJ l i n = 2 * i + 1 := downJ_one hl1
          by_cases hl2 : Dn.Spot.less (Dn.gt l (2 * i + 1)) (Dn.gt l i) = false
          · have hfin : Hid (l = Dn.downM n st.op 0 n) := by unfold Hid; rw [← hup.out, down_stop hlt hJ hl2]
            have hL2 := fun k => less_sm (hsm.drewN (k := k)) (i := 2 * i + 1) (j := i) (by show _ < l.length; omega) (by show _ < l.length; omega) hlb
            have hL1 := less_sm hsm (i := 2 * i + 2) (j := 2 * i + 1) (by show _ < l.length; omega) (by show _ < l.length; omega) hlb
            simp only [hl1] at hL1
            have e2 : ((2 * i + 2 : Nat) : Int) = 2 * (i : Int) + 1 + 1 := by omega
            have e1 : ((2 * i + 1 : Nat) : Int) = 2 * (i : Int) + 1 := by omega
            rw [e1, e2] at hL1
            simp only [e1] at hL2
            simp only [hl2] at hL2
            clear hup hJ e1
            clear e2
            go_wp2_with (first | (go_at_call 195; refine hL1.mono ?_; clear hL1; rintro e w' ⟨rfl, k, rfl⟩) | (go_at_call 195; refine (hL2 _).mono ?_; rintro e w' ⟨rfl, k2, rfl⟩))
            go_ret
            exact ⟨⟨_, rfl⟩, hfin.out ▸ ⟨_, _, hsm.drewN⟩, Below.drewN' hbel⟩
          · replace hl2 : Dn.Spot.less (Dn.gt l (2 * i + 1)) (Dn.gt l i) = true := by simpa using hl2
            have hgo : Hid (Dn.downM n (Dn.swapL l i (2 * i + 1)) (2 * i + 1) n = Dn.downM n st.op 0 n) := by unfold Hid; rw [← hup.out, down_go hlt hJ hl2]
            have hL2 := fun k => less_sm (hsm.drewN (k := k)) (i := 2 * i + 1) (j := i) (by show _ < l.length; omega) (by show _ < l.length; omega) hlb
            have hL1 := less_sm hsm (i := 2 * i + 2) (j := 2 * i + 1) (by show _ < l.length; omega) (by show _ < l.length; omega) hlb
            simp only [hl1] at hL1
            have e2 : ((2 * i + 2 : Nat) : Int) = 2 * (i : Int) + 1 + 1 := by omega
            have e1 : ((2 * i + 1 : Nat) : Int) = 2 * (i : Int) + 1 := by omega
            rw [e1, e2] at hL1
            simp only [e1] at hL2
            simp only [hl2] at hL2
            have hW := fun k => swap_sm (hsm.drewN (k := k)) (i := i) (j := 2 * i + 1) (by show _ < l.length; omega) (by show _ < l.length; omega) hlb
            simp only [e1] at hW
            clear hup hJ
            go_wp2_with (first | (go_at_call 195; refine hL1.mono ?_; clear hL1; rintro e w' ⟨rfl, k, rfl⟩) | (go_at_call 195; refine (hL2 _).mono ?_; rintro e w' ⟨rfl, k2, rfl⟩) | (go_at_call 196; refine (hW _).mono ?_; rintro e w' ⟨rfl, hsm', hbel'⟩))
            go_roundw
            case rel => exact ⟨2 * i + 1, Dn.swapL l i (2 * i + 1), by rw [e1], ⟨_, _, hsm'⟩, hbel.trans (Below.of_drewN hbel'), by omega, by unfold Hid; rw [Dn.swapL_length]; exact hll.out, hgo⟩
            case measure => simp [intOf]; omega
        · replace hl1 : Dn.Spot.less (Dn.gt l (2 * i + 2)) (Dn.gt l (2 * i + 1)) = true := by simpa using hl1
          have hJ : Dn.downJ l i n = 2 * i + 2 := downJ_two h2 hl1
          by_cases hl2 : Dn.Spot.less (Dn.gt l (2 * i + 2)) (Dn.gt l i) = false
          · have hfin : Hid (l = Dn.downM n st.op 0 n) := by unfold Hid; rw [← hup.out, down_stop hlt hJ hl2]
            have hL2 := fun k => less_sm (hsm.drewN (k := k)) (i := 2 * i + 2) (j := i) (by show _ < l.length; omega) (by show _ < l.length; omega) hlb
            have hL1 := less_sm hsm (i := 2 * i + 2) (j := 2 * i + 1) (by show _ < l.length; omega) (by show _ < l.length; omega) hlb
            simp only [hl1] at hL1
            have e2 : ((2 * i + 2 : Nat) : Int) = 2 * (i : Int) + 1 + 1 := by omega
            have e1 : ((2 * i + 1 : Nat) : Int) = 2 * (i : Int) + 1 := by omega
            rw [e1, e2] at hL1
            simp only [e2] at hL2
            simp only [hl2] at hL2
            clear hup hJ e1
            clear e2
            go_wp2_with (first | (go_at_call 195; refine hL1.mono ?_; clear hL1; rintro e w' ⟨rfl, k, rfl⟩) | (go_at_call 195; refine (hL2 _).mono ?_; rintro e w' ⟨rfl, k2, rfl⟩))
            go_ret
            exact ⟨⟨_, rfl⟩, hfin.out ▸ ⟨_, _, hsm.drewN⟩, Below.drewN' hbel⟩
          · replace hl2 : Dn.Spot.less (Dn.gt l (2 * i + 2)) (Dn.gt l i) = true := by simpa using hl2
            have hgo : Hid (Dn.downM n (Dn.swapL l i (2 * i + 2)) (2 * i + 2) n = Dn.downM n st.op 0 n) := by unfold Hid; rw [← hup.out, down_go hlt hJ hl2]
            have hL2 := fun k => less_sm (hsm.drewN (k := k)) (i := 2 * i + 2) (j := i) (by show _ < l.length; omega) (by show _ < l.length; omega) hlb
            have hL1 := less_sm hsm (i := 2 * i + 2) (j := 2 * i + 1) (by show _ < l.length; omega) (by show _ < l.length; omega) hlb
            simp only [hl1] at hL1
            have e2 : ((2 * i + 2 : Nat) : Int) = 2 * (i : Int) + 1 + 1 := by omega
            have e1 : ((2 * i + 1 : Nat) : Int) = 2 * (i : Int) + 1 := by omega
            rw [e1, e2] at hL1
            simp only [e2] at hL2
            simp only [hl2] at hL2
            have hW := fun k => swap_sm (hsm.drewN (k := k)) (i := i) (j := 2 * i + 2) (by show _ < l.length; omega) (by show _ < l.length; omega) hlb
            simp only [e2] at hW
            clear hup hJ
            go_wp2_with (first | (go_at_call 195; refine hL1.mono ?_; clear hL1; rintro e w' ⟨rfl, k, rfl⟩) | (go_at_call 195; refine (hL2 _).mono ?_; rintro e w' ⟨rfl, k2, rfl⟩) | (go_at_call 196; refine (hW _).mono ?_; rintro e w' ⟨rfl, hsm', hbel'⟩))
            go_roundw
            case rel => exact ⟨2 * i + 2, Dn.swapL l i (2 * i + 2), by rw [e2], ⟨_, _, hsm'⟩, hbel.trans (Below.of_drewN hbel'), by omega, by unfold Hid; rw [Dn.swapL_length]; exact hll.out, hgo⟩
            case measure => simp [intOf]; omega
      · have hJ : Dn.downJ l i n = 2 * i + 1 := downJ_last h2
        have hlt2 : ¬ (2 * (i : Int) + 1 + 1 < n) := by omega
        clear h2
        by_cases hl2 : Dn.Spot.less (Dn.gt l (2 * i + 1)) (Dn.gt l i) = false
        · have hfin : Hid (l = Dn.downM n st.op 0 n) := by unfold Hid; rw [← hup.out, down_stop hlt hJ hl2]
          have hL2 := fun k => less_sm (hsm.drewN (k := k)) (i := 2 * i + 1) (j := i) (by show _ < l.length; omega) (by show _ < l.length; omega) hlb
          have hL0 := less_sm hsm (i := 2 * i + 1) (j := i) (by show _ < l.length; omega) (by show _ < l.length; omega) hlb
          have e1 : ((2 * i + 1 : Nat) : Int) = 2 * (i : Int) + 1 := by omega
          simp only [hl2] at hL0
          rw [e1] at hL0
          simp only [e1] at hL2
          simp only [hl2] at hL2
          clear hup hJ e1
          go_wp2_with (first | (go_at_call 195; refine hL0.mono ?_; rintro e w' ⟨rfl, k, rfl⟩))
          go_ret
          exact ⟨⟨_, rfl⟩, hfin.out ▸ ⟨_, _, hsm.drewN⟩, Below.drewN' hbel⟩
        · replace hl2 : Dn.Spot.less (Dn.gt l (2 * i + 1)) (Dn.gt l i) = true := by simpa using hl2
          have hgo : Hid (Dn.downM n (Dn.swapL l i (2 * i + 1)) (2 * i + 1) n = Dn.downM n st.op 0 n) := by unfold Hid; rw [← hup.out, down_go hlt hJ hl2]
          have hL2 := fun k => less_sm (hsm.drewN (k := k)) (i := 2 * i + 1) (j := i) (by show _ < l.length; omega) (by show _ < l.length; omega) hlb
          have hL0 := less_sm hsm (i := 2 * i + 1) (j := i) (by show _ < l.length; omega) (by show _ < l.length; omega) hlb
          have e1 : ((2 * i + 1 : Nat) : Int) = 2 * (i : Int) + 1 := by omega
          simp only [hl2] at hL0
          rw [e1] at hL0
          simp only [e1] at hL2
          simp only [hl2] at hL2
          have hW := fun k => swap_sm (hsm.drewN (k := k)) (i := i) (j := 2 * i + 1) (by show _ < l.length; omega) (by show _ < l.length; omega) hlb
          simp only [e1] at hW
          clear hup hJ
          go_wp2_with (first | (go_at_call 195; refine hL0.mono ?_; rintro e w' ⟨rfl, k, rfl⟩) | (go_at_call 196; refine (hW _).mono ?_; rintro e w' ⟨rfl, hsm', hbel'⟩))
          go_roundw
          case rel => exact ⟨2 * i + 1, Dn.swapL l i (2 * i + 1), by rw [e1], ⟨_, _, hsm'⟩, hbel.trans (Below.of_drewN hbel'), by omega, by unfold Hid; rw [Dn.swapL_length]; exact hll.out, hgo⟩
          case measure => simp [intOf]; omega
end Go.Proofs.YtcclgodahlinbaaGreatDoor
namespace Go.Proofs.YtcclgodahlinbaaGreatDoor
open Go.RowKit Go
set_option maxRecDepth 100000
set_option maxHeartbeats 800000 in
theorem hpush_sm {X : List (Nat × Obj)} {base S : Nat} {vo vf : Value} {st : Dn.Srch} {w : World} (s : Dn.Spot) (h : SM X base S vo vf st w) (hb : st.op.length < 1000000) :
    Calls Tryz.prog 49 #[.iface 110 (.pointer (some ⟨S, 2, none⟩)), .iface 112 (.agg #[.complex .f64 (fl s.x) (fl s.y), .int .i64 s.far, .int .i64 s.turn, .int .u8 s.kind])] w fun e w' =>
      e = .returned (.tuple #[]) ∧ SM X base S vo vf { st with op := Dn.pushM st.op s } w' ∧ Below base w w' := by
  obtain ⟨vop, vled, hsm⟩ := h
  have hp := push_sm s hsm (by omega)
  have hmp := m_push ⟨S, 2, none⟩ w
  go_enter Tryz.func49, Tryz.ntmps49
  go_wp2_with (go_at_call 198; refine hp.mono ?_; rintro e w1 ⟨rfl, ⟨vop1, vled1, hsm1⟩, hb1⟩)
  obtain ⟨g, cap, rfl, _, _, _⟩ := owns_slice hsm1.op (show 0 < (st.op ++ [s]).length by simp)
  have hc := cell_of (k := 2) (v := .slice (some ⟨g, 0, none⟩) (st.op ++ [s]).length cap) hsm1.blk rfl
  have hml := m_len ⟨S, 2, none⟩ w1 _ hc
  have hl1 : (st.op ++ [s]).length = st.op.length + 1 := by simp
  have hu := up_sm (st := { st with op := st.op ++ [s] }) (w := w1) st.op.length ⟨_, _, hsm1⟩ (by show _ < (st.op ++ [s]).length; simp) (by show (st.op ++ [s]).length ≤ _; simp; omega)
  have hln := len_at (some ⟨g, 0, none⟩) (st.op ++ [s]).length cap w1
  rw [hl1] at hml hln
  clear hp hmp
  go_wp2_with (first | (go_at_call 194; refine hln.mono ?_; rintro e w' ⟨rfl, rfl⟩) | (go_at_call 96; refine hu.mono ?_; rintro e w' ⟨rfl, hsm2, hb2⟩))
  go_end0
  exact ⟨rfl, hsm2, hb1.trans hb2⟩
theorem popL_down (l : List Dn.Spot) : Dn.downM (l.length - 1) (Dn.swapL l 0 (l.length - 1)) 0 (l.length - 1) = Dn.popL l := downM_fuel _ _ _ _ _ (by omega) (by omega)
def spotVal (s : Dn.Spot) : Value := .iface 112 (.agg #[.complex .f64 (fl s.x) (fl s.y), .int .i64 s.far, .int .i64 s.turn, .int .u8 s.kind])
set_option maxHeartbeats 800000 in
theorem hpop_sm {X : List (Nat × Obj)} {base S : Nat} {vo vf : Value} {st : Dn.Srch} {w : World} (h : SM X base S vo vf st w) (hne : st.op ≠ []) (hb : st.op.length < 1000000) :
    Calls Tryz.prog 52 #[.iface 110 (.pointer (some ⟨S, 2, none⟩))] w fun e w' =>
      e = .returned (spotVal (Dn.popS st.op)) ∧ SM X base S vo vf { st with op := Dn.popR st.op } w' ∧ Below base w w' := by
  obtain ⟨vop, vled, hsm⟩ := h
  have hpos := List.length_pos_iff.2 hne
  obtain ⟨g, cap, rfl, _, _, _⟩ := owns_slice hsm.op hpos
  have hc := cell_of (k := 2) (v := .slice (some ⟨g, 0, none⟩) st.op.length cap) hsm.blk rfl
  have hml := m_len ⟨S, 2, none⟩ w _ hc
  have hms := m_swap ⟨S, 2, none⟩ w _ hc
  have hln := len_at (some ⟨g, 0, none⟩) st.op.length cap w
  obtain ⟨k, hk⟩ : ∃ k, st.op.length = k + 1 := ⟨st.op.length - 1, by omega⟩
  have hk1 : st.op.length - 1 = k := by omega
  have hsw := swap_sm hsm (i := 0) (j := k) hpos (by omega) (by omega)
  have hP : Hid (Dn.downM k (Dn.swapL st.op 0 k) 0 k = Dn.popL st.op) := by have := popL_down st.op; rw [hk1] at this; exact this
  have hS : Hid (Dn.popS st.op = Dn.gt (Dn.popL st.op) k) := by unfold Hid Dn.popS; rw [hk1]
  have hR : Hid (Dn.popR st.op = (Dn.popL st.op).take k) := by unfold Hid Dn.popR; rw [hk1]
  have hkl : Hid (st.op.length = k + 1) := hk
  rw [hk] at hml hms hln hsw
  have hkb : k < 1000000 := by omega
  clear hk hk1
  go_enter Tryz.func52, Tryz.ntmps52
  go_wp2_with (first | (go_at_call 194; refine hln.mono ?_; rintro e w' ⟨rfl, rfl⟩) | (go_at_call 196; refine hsw.mono ?_; rintro e w1 ⟨rfl, hsm1, hb1⟩) | (go_at_call 98; fail))
  have hl1 : (Dn.swapL st.op 0 k).length = k + 1 := by rw [Dn.swapL_length]; exact hkl.out
  have hd := down_sm (st := { st with op := Dn.swapL st.op 0 k }) (w := w1) k ⟨_, _, hsm1⟩ (by show k ≤ (Dn.swapL st.op 0 k).length; omega) (by show (Dn.swapL st.op 0 k).length ≤ _; omega)
  simp only [hP.out] at hd
  clear hl1 hsw hms hln hml
  go_wp2_with (go_at_call 98; refine hd.mono ?_; rintro e w2 ⟨⟨bb, rfl⟩, ⟨vop2, vled2, hsm2⟩, hb2⟩)
  have hl2 : (Dn.popL st.op).length = k + 1 := by rw [Dn.popL_length _ hne]; exact hkl.out
  obtain ⟨g2, cap2, rfl, _, _, _⟩ := owns_slice hsm2.op (show 0 < (Dn.popL st.op).length by omega)
  have hmp := m_pop ⟨S, 2, none⟩ w2
  have hpp := popm_sm hsm2 (show 0 < (Dn.popL st.op).length by omega) (show (Dn.popL st.op).length ≤ 1000000 by omega)
  have hl3 : (Dn.popL st.op).length - 1 = k := by omega
  simp only [hl3, ← hS.out, ← hR.out] at hpp
  clear hl2 hl3 hd
  go_wp2_with (go_at_call 197; refine hpp.mono ?_; rintro e w3 ⟨rfl, hsm3, hb3⟩)
  go_ret
  exact ⟨rfl, hsm3, (hb1.trans hb2).trans hb3⟩
end Go.Proofs.YtcclgodahlinbaaGreatDoor
namespace Go.Proofs.YtcclgodahlinbaaGreatDoor
open Go.RowKit Go
set_option maxRecDepth 100000
theorem mixed : Tryz.prog.follows .mixedOrders = true := by kernel_rfl
theorem wp_still_tail {P : Program} {id : Nat} {Q : Exit → Act → World → Prop} {a : Act} {w : World} {l : List Oper} (n : Nat) (hm : P.follows .mixedOrders = true) (hB : Region.lexTailB .any l.toArray n = true)
    (h : wpStill P l.toArray w.drew (fun a' => wpList P l.toArray Q (l.drop n) a' w.drew) (l.take n) a) : (Code.region id l.toArray true).wp P Q a w :=
  wp_region_still_tail n hm hB h
theorem idx_cast (m x y : Nat) : ((Dn.idx m x y : Nat) : Int) = (x : Int) * ((m : Int) + 1) + y := by
  unfold Dn.idx; push_cast; rfl
theorem idx_bound {m x : Nat} (hx : x < 210) (hm : m < 210) : 0 ≤ (x : Int) * ((m : Int) + 1) ∧ (x : Int) * ((m : Int) + 1) ≤ 100000 := by
  have h1 : x * (m + 1) ≤ 209 * 210 := Nat.mul_le_mul (by omega) (by omega)
  have h2 : ((x * (m + 1) : Nat) : Int) = (x : Int) * ((m : Int) + 1) := by push_cast; rfl
  omega
theorem ret_int {k : IntKind} {a b : Int} (h : a = b) : Ending.returned (.int k a) = .returned (.int k b) := by rw [h]
set_option maxHeartbeats 400000 in
theorem index_at (S m capf x y : Nat) (af : Option Addr) (w : World) (hc : w.cell? ⟨S, 1, none⟩ = some (.slice af m capf)) (hm : m < 210) (hx : x < 210) (hy : y < 210) :
    Calls Tryz.prog 50 #[.pointer (some ⟨S, 0, none⟩), .complex .f64 (fl x) (fl y)] w fun e w' => e = .returned (.int .i64 (Dn.idx m x y : Nat)) ∧ w = w' := by
  have h1 := fun w => conv_fl hx w
  have h2 := fun w => conv_fl hy w
  obtain ⟨hb1, hb2⟩ := idx_bound (x := x) (m := m) hx hm
  go_enter Tryz.func50, Tryz.ntmps50
  go_wp2
  go_ret
  exact ⟨ret_int (idx_cast m x y).symm, rfl⟩
theorem SMv.alloc {X : List (Nat × Obj)} {base S : Nat} {vo vf : Value} {st : Dn.Srch} {vop vled : Value} {w : World} (h : SMv X base S vo vf st vop vled w) (o : Obj) : SMv X base S vo vf st vop vled (w.alloc o) :=
  ⟨h.le, (Below.heap_alloc w o S h.size.2).trans h.blk, h.op.alloc o, h.led.alloc o, h.ne1, h.ne2, h.ne3, fun x hx => let ⟨a, b⟩ := h.fr x hx; ⟨(Below.heap_alloc w o x.1 (Array.getElem?_eq_some_iff.1 a).1).trans a, b⟩⟩
theorem SMv.setTurn {X : List (Nat × Obj)} {base S : Nat} {vo vf : Value} {st : Dn.Srch} {vop vled : Value} {w : World} (h : SMv X base S vo vf st vop vled w) (t : Nat) :
    SMv X base S vo vf { st with turns := t } vop vled (w.setCell ⟨S, 3, none⟩ (.int .i64 t)) := by
  have hg := grownBy_setCell w S 3 (.int .i64 (t : Int))
  exact ⟨h.le, heap_setCell_same w S 3 _ _ _ _ h.blk, h.op.kept hg (.inr h.ne1), h.led.kept hg (.inr h.ne2), h.ne1, h.ne2, h.ne3, fun x hx => let ⟨a, b, c⟩ := h.fr x hx; ⟨(heap_setCell_other w S x.1 3 _ b).trans a, b, c⟩⟩
theorem owns_led {w : World} {base n cap g : Nat} {l : List Nat} (h : w.ownsRow base 5 1 (.slice (some ⟨g, 0, none⟩) n cap) n (ledCells l)) {i : Nat} (hi : i < l.length) :
    w.cell? ⟨g, i, none⟩ = some (.int .u8 ((l.getD i 0 : Nat) : Int)) := by
  obtain ⟨hl, hr⟩ := h
  rcases hr with ⟨e, _⟩ | ⟨g', cap', cur, e, hb, hg, h1, h2, h3, h4⟩
  · cases e
  · cases e
    have a : (ledCells l)[i]? = some (.int .u8 ((l.getD i 0 : Nat) : Int)) := by simp [ledCells, List.getD, hi]
    rw [← h4, List.getElem?_take] at a
    split at a
    · exact cell_of hg (by simpa using a)
    · cases a
theorem owns_setLed {w : World} {base n cap g : Nat} {l : List Nat} (h : w.ownsRow base 5 1 (.slice (some ⟨g, 0, none⟩) n cap) n (ledCells l)) (i k : Nat) :
    (w.setCell ⟨g, i, none⟩ (.int .u8 (k : Int))).ownsRow base 5 1 (.slice (some ⟨g, 0, none⟩) n cap) n (ledCells (l.set i k)) := by
  obtain ⟨hl, hr⟩ := h
  rcases hr with ⟨e, _⟩ | ⟨g', cap', cur, e, hb, hg, h1, h2, h3, h4⟩
  · cases e
  · cases e
    refine ⟨by simpa [ledCells] using hl, .inr ⟨g, cap, _, rfl, hb, heap_setCell_same _ _ _ _ _ _ _ hg, h1, h2, by simpa using h3, ?_⟩⟩
    have : ledCells (l.set i k) = (ledCells l).set i (.int .u8 (k : Int)) := by simp [ledCells, List.map_set]
    rw [this, ← h4]
    simp [List.take_set]
theorem SMv.setLed {X : List (Nat × Obj)} {base S g n cap : Nat} {vo vf : Value} {st : Dn.Srch} {vop : Value} {w : World} (h : SMv X base S vo vf st vop (.slice (some ⟨g, 0, none⟩) n cap) w) (hn : n = st.led.length) (i k : Nat) :
    SMv X base S vo vf { st with led := st.led.set i k } vop (.slice (some ⟨g, 0, none⟩) n cap) (w.setCell ⟨g, i, none⟩ (.int .u8 (k : Int))) := by
  subst hn
  have hg := grownBy_setCell w g i (.int .u8 (k : Int))
  have hSg : S ≠ g := fun e => h.ne2 (by rw [e]; rfl)
  refine ⟨h.le, (heap_setCell_other w g S i _ hSg).trans h.blk, h.op.kept hg ?_, ?_, h.ne1, h.ne2, h.ne3, fun x hx => let ⟨a, b, c, d⟩ := h.fr x hx; ⟨(heap_setCell_other w g x.1 i _ (fun e => d (by rw [e]; rfl))).trans a, b, c, d⟩⟩
  · rcases h.ne3 with e | e
    · exact .inl e
    · exact .inr e
  · have := owns_setLed h.led i k
    show World.ownsRow _ _ _ _ _ (st.led.set i k).length _
    rw [List.length_set]; exact this
end Go.Proofs.YtcclgodahlinbaaGreatDoor
namespace Go.Proofs.YtcclgodahlinbaaGreatDoor
open Go.RowKit Go
set_option maxRecDepth 100000
attribute [local go_sem] run_store_complex
theorem SMv.drew {X : List (Nat × Obj)} {base S : Nat} {vo vf vop vled : Value} {st : Dn.Srch} {w : World} (h : SMv X base S vo vf st vop vled w) : SMv X base S vo vf st vop vled w.drew :=
  ⟨h.le, h.blk, h.op, h.led, h.ne1, h.ne2, h.ne3, h.fr⟩
theorem idx_quiet {S m capf x y n : Nat} {af : Option Addr} {w : World} (hc : w.cell? ⟨S, 1, none⟩ = some (.slice af m capf)) (hm : m < 210) (hx : x < 210) (hy : y < 210) :
    Calls Tryz.prog 50 #[.pointer (some ⟨S, 0, none⟩), .complex .f64 (fl x) (fl y)] (w.drewN n) fun e w'' => e = .returned (.int .i64 (Dn.idx m x y : Nat)) ∧ ∃ k, w'' = w.drewN k :=
  (index_at S m capf x y af (w.drewN n) hc hm hx hy).mono fun _ _ ⟨he, hm⟩ => ⟨he, n, hm.symm⟩
set_option maxHeartbeats 1000000 in
theorem change_sm {X : List (Nat × Obj)} {base S m capf : Nat} {af : Option Addr} {vo : Value} {st : Dn.Srch} {w : World} (p : Dn.Spot) (dx dy kind sr si : Nat) (h : SM X base S vo (.slice af m capf) st w)
    (hadd : ∀ w, (binOp .add 107 (.complex .f64 (fl p.x) (fl p.y)) (.complex .f64 sr si)).run Tryz.prog w = .ok (.complex .f64 (fl (p.x + dx)) (fl (p.y + dy))) w)
    (hm : m < 210) (hx : p.x + dx < 210) (hy : p.y + dy < 210) (hl : Dn.idx m (p.x + dx) (p.y + dy) < st.led.length) (hll : st.led.length ≤ 100000) (hf : p.far < 1000000) (ht : st.turns < 1000000) (hb : st.op.length < 1000000) :
    Calls Tryz.prog 97 #[.pointer (some ⟨S, 0, none⟩), .agg #[.complex .f64 (fl p.x) (fl p.y), .int .i64 p.far, .int .i64 p.turn, .int .u8 p.kind], .complex .f64 sr si, .int .u8 kind] w fun e w' =>
      e = .returned (.tuple #[]) ∧ SM X base S vo (.slice af m capf) (Dn.changeM m st p dx dy kind) w' ∧ Below base w w' := by
  obtain ⟨vop, vled, hsm⟩ := h
  obtain ⟨g, cap, rfl, hbg, hgw, _⟩ := owns_slice hsm.led (show 0 < st.led.length by omega)
  have hS := hsm.size
  have c1 := cell_of (k := 1) (v := .slice af m capf) hsm.blk rfl
  have c3 := cell_of (k := 3) (v := .int .i64 (st.turns : Int)) hsm.blk rfl
  have c4 := cell_of (k := 4) (v := .slice (some ⟨g, 0, none⟩) st.led.length cap) hsm.blk rfl
  have hSw : S < w.heap.size := hS.2
  have cl := owns_led hsm.led hl
  have hf3 : w.frozen? ⟨S, 3, none⟩ = false := frozen_of hsm.blk
  have hlI : ((Dn.idx m (p.x + dx) (p.y + dy) : Nat) : Int) < st.led.length := by omega
  have hq : Hid (∀ o n, Calls Tryz.prog 50 #[.pointer (some ⟨S, 0, none⟩), .complex .f64 (fl (p.x + dx)) (fl (p.y + dy))] ((w.alloc o).drewN n) fun e w'' => e = .returned (.int .i64 (Dn.idx m (p.x + dx) (p.y + dy) : Nat)) ∧ ∃ k, w'' = (w.alloc o).drewN k) :=
    fun o n => idx_quiet (w := w.alloc o) (cell_of (k := 1) (v := .slice af m capf) (hsm.alloc o).blk rfl) hm hx hy
  generalize hI : Dn.idx m (p.x + dx) (p.y + dy) = I at *
  have hat : st.at m (p.x + dx) (p.y + dy) = st.led.getD I 0 := by unfold Dn.Srch.at; rw [hI]
  by_cases h0 : st.led.getD I 0 = 0
  · have hch : Dn.changeM m st p dx dy kind = { op := Dn.pushM st.op ⟨p.x + dx, p.y + dy, p.far + 1, st.turns + 1, kind⟩, turns := st.turns + 1, led := st.led } := by unfold Dn.changeM; rw [if_pos (by rw [hat]; exact h0)]
    rw [hch]
    clear hch hat hI
    rw [h0] at cl
    clear h0
    have cl' : w.cell? ⟨g, I, none⟩ = some (.int .u8 0) := cl
    clear cl
    go_enter Tryz.func97, Tryz.ntmps97
    go_wp2_with fail
    go_quiet ((go_at_call 50; exact hq.out _ _))
    go_wp2_with fail
    have h1 := (((hsm.alloc (.cells #[.complex .f64 (fl p.x) (fl p.y), .int .i64 p.far, .int .i64 p.turn, .int .u8 p.kind] 112)).drewN (k := nq)).setTurn (st.turns + 1)).drew
    have e : ((st.turns + 1 : Nat) : Int) = (st.turns : Int) + 1 := by omega
    have e2 : ((p.far + 1 : Nat) : Int) = (p.far : Int) + 1 := by omega
    rw [e] at h1
    have hP := hpush_sm (st := { st with turns := st.turns + 1 }) ⟨p.x + dx, p.y + dy, p.far + 1, st.turns + 1, kind⟩ ⟨_, _, h1⟩ hb
    simp only [e, e2] at hP
    clear h1 hq
    have hbel : Below base w (((w.alloc (.cells #[.complex .f64 (fl p.x) (fl p.y), .int .i64 p.far, .int .i64 p.turn, .int .u8 p.kind] 112)).drewN nq).setCell ⟨S, 3, none⟩ (.int .i64 ((st.turns : Int) + 1))).drew :=
      ((Below.drewN' ((Below.refl base w).alloc (by omega) _)).setCell (p := ⟨S, 3, none⟩) hsm.le _).drew
    have hwr : IntKind.i64.wrap ((p.far : Int) + 1) = (p.far : Int) + 1 := by rw [IntKind.wrap_i64]; omega
    refine wp_still_tail 18 mixed (by kernel_rfl) ?_
    simp only [List.take_succ_cons, List.take_zero, List.drop_succ_cons, List.drop_zero]
    repeat still_step
    refine wpStill_nil ?_
    go_wp2_with (go_at_call 49; refine hP.mono ?_; rintro e w' ⟨rfl, hs2, hb2⟩)
    go_end0
    exact ⟨rfl, hs2, hbel.trans hb2⟩
  · have hch : Dn.changeM m st p dx dy kind = st := by unfold Dn.changeM; rw [if_neg (by rw [hat]; exact h0)]
    rw [hch]
    clear hch hat hI
    generalize st.led.getD I 0 = K at *
    have hb1 : (((K : Nat) : Int) == 0) = false := by simpa using h0
    have hb2 : (((K : Nat) : Int) != 0) = true := by simpa using h0
    clear h0
    go_enter Tryz.func97, Tryz.ntmps97
    go_wp2_with fail
    go_quiet ((go_at_call 50; exact hq.out _ _))
    go_wp2_with fail
    exact bodyPost_ret (results_none rfl _ _ _) rfl ⟨rfl, ⟨_, _, (hsm.alloc _).drewN⟩, Below.drewN' ((Below.refl _ _).alloc (by omega) _)⟩
end Go.Proofs.YtcclgodahlinbaaGreatDoor
