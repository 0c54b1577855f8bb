import Derived.Test.YtcclgodahlinbaaDoorWPick
import Derived.Lib.SplitLaws
import Derived.Test.YtcclgodahlinbaaDoorMSearch3
import Derived.Test.YtcclgodahlinbaaDoorMHeap
import Derived.Test.YtcclgodahlinbaaDoorWAwake2
import Derived.Laws.AppendOwnNone
import Derived.Laws.IdiomStrings
import Derived.BigQuiet
import Derived.Deep.QuietTactic
import Derived.Deep.Cut
import Derived.Deep.RegionLaw
import Derived.Test.YtcclgodahlinbaaDoorWLaid
import Derived.Test.YtcclgodahlinbaaDoorCards
import Derived.Test.YtcclgodahlinbaaDoorTie
import Derived.SevenTiedAt
import Derived.JoinedCond
import Derived.ChangeSame
import Derived.ChangeSlices
namespace Go.Proofs.YtcclgodahlinbaaDoor
open Go.RowKit Go
set_option maxRecDepth 100000

theorem index_nl : ∀ (a r : List UInt8), (10 : UInt8) ∉ a → Lib.index (a ++ 10 :: r) [10] = (a.length : Int)
  | [], r, _ => by rw [List.nil_append, Lib.index]; simp [List.isPrefixOf]
  | b :: a, r, h => by
    have hb : b ≠ 10 := by intro e; exact h (by simp [e])
    have ih := index_nl a r (fun e => h (List.mem_cons_of_mem _ e))
    have hp : ([10] : List UInt8).isPrefixOf (b :: (a ++ 10 :: r)) = false := by simp [List.isPrefixOf, Ne.symm hb]
    rw [List.cons_append, Lib.index, hp, ih]
    simp
theorem index_none : ∀ (a : List UInt8), (10 : UInt8) ∉ a → Lib.index a [10] = -1
  | [], _ => by simp [Lib.index]
  | b :: a, h => by
    have hb : b ≠ 10 := by intro e; exact h (by simp [e])
    have ih := index_none a (fun e => h (List.mem_cons_of_mem _ e))
    have hp : ([10] : List UInt8).isPrefixOf (b :: a) = false := by simp [List.isPrefixOf, Ne.symm hb]
    rw [Lib.index, hp, ih]
    simp

/-- lines with signs between them alone -/
def joinL : List (List UInt8) → List UInt8
  | [] => []
  | [a] => a
  | a :: b :: l => a ++ 10 :: joinL (b :: l)
theorem joinL_count : ∀ (L : List (List UInt8)), (∀ a ∈ L, (10 : UInt8) ∉ a) → L ≠ [] → (joinL L).count 10 + 1 = L.length
  | [], _, h => absurd rfl h
  | [a], h, _ => by simp [joinL, List.count_eq_zero.2 (h a (by simp))]
  | a :: b :: l, h, _ => by
    have ih := joinL_count (b :: l) (fun x hx => h x (List.mem_cons_of_mem _ hx)) (by simp)
    rw [joinL, List.count_append, List.count_cons_self, List.count_eq_zero.2 (h a (by simp))]
    simp only [List.length_cons] at ih ⊢
    omega
theorem splitK_join : ∀ (L : List (List UInt8)), (∀ a ∈ L, (10 : UInt8) ∉ a) → L ≠ [] → ∀ k, k + 1 = L.length → Lib.splitK [10] 0 k (joinL L) = L
  | [], _, h, _, _ => absurd rfl h
  | [a], _, _, k, hk => by
    obtain rfl : k = 0 := by simpa using hk
    rfl
  | a :: b :: l, h, _, k, hk => by
    cases k with
    | zero => simp at hk
    | succ k =>
      have ih := splitK_join (b :: l) (fun x hx => h x (List.mem_cons_of_mem _ hx)) (by simp) k (by simpa using hk)
      have hi := index_nl a (joinL (b :: l)) (h a (by simp))
      rw [joinL, Lib.splitK, hi, if_neg (by simp)]
      have e1 : (a ++ 10 :: joinL (b :: l)).take (((a.length : Int)).toNat + 0) = a := by simp
      have e2 : (a ++ 10 :: joinL (b :: l)).drop (((a.length : Int)).toNat + [(10 : UInt8)].length) = joinL (b :: l) := by
        rw [Int.toNat_natCast, List.drop_append, List.drop_eq_nil_of_le (by simp)]
        simp
      rw [e1, e2, ih]
theorem textL_join : ∀ (L : List ByteArray), L ≠ [] → textL L = joinL (L.map (·.data.toList)) ++ [10]
  | [], h => absurd rfl h
  | [a], _ => by simp [textL, joinL]
  | a :: b :: l, _ => by
    have ih := textL_join (b :: l) (by simp)
    have e : textL (a :: b :: l) = (a.data.toList ++ [10]) ++ textL (b :: l) := rfl
    rw [e, ih]
    simp [joinL]
theorem bytes_inj {a b : List ByteArray} (h : a.map (·.data.toList) = b.map (·.data.toList)) : a = b := by
  refine List.map_inj_right (f := fun s : ByteArray => s.data.toList) ?_ |>.1 h
  intro x y e
  apply ByteArray.ext
  exact Array.toList_inj.1 e
/-- no sign of a line's end -/
def Plain (L : List ByteArray) : Prop := ∀ s ∈ L, (10 : UInt8) ∉ s.data.toList
theorem linesB_text {L : List ByteArray} (h : Plain L) : linesB (textB L) = L := by
  by_cases h0 : L = []
  · subst h0; simp [linesB, textB, textL]
  · have hj := textL_join L h0
    have hne : (textB L).toList.isEmpty = false := by
      unfold textB
      rw [hj]
      simp
    have ht : trimB (textB L) = ⟨(joinL (L.map (·.data.toList))).toArray⟩ := by
      unfold trimB textB Lib.trimSuffix Lib.hasSuffix
      simp only [hj]
      rw [if_pos (by simp)]
      simp
    unfold linesB
    rw [hne, if_neg (by simp), ht]
    apply bytes_inj
    have hP : ∀ a ∈ L.map (·.data.toList), (10 : UInt8) ∉ a := by
      intro a ha
      obtain ⟨s, hs, rfl⟩ := List.mem_map.1 ha
      exact h s hs
    have hc := joinL_count _ hP (by simp [h0])
    rw [Lib.splitB_data]
    have e3 : Lib.countB ⟨(joinL (L.map (·.data.toList))).toArray⟩ nl = (joinL (L.map (·.data.toList))).count 10 := by
      show Lib.count _ _ = _
      exact Lib.count_one 10 _
    rw [e3]
    exact splitK_join _ hP (by simp [h0]) _ hc
theorem textL_count {L : List ByteArray} (h : Plain L) : (textL L).count 10 = L.length := by
  by_cases h0 : L = []
  · subst h0; rfl
  · have hP : ∀ a ∈ L.map (·.data.toList), (10 : UInt8) ∉ a := by
      intro a ha
      obtain ⟨s, hs, rfl⟩ := List.mem_map.1 ha
      exact h s hs
    have hc := joinL_count _ hP (by simp [h0])
    rw [textL_join L h0, List.count_append]
    simp at hc ⊢
    omega
theorem isTextB_text (L : List ByteArray) : isTextB (textB L) = true := by
  by_cases h0 : L = []
  · subst h0; simp [isTextB, textB, textL]
  · unfold isTextB textB Lib.hasSuffix
    simp only [textL_join L h0]
    simp
theorem largeB_text {L : List ByteArray} (h : Plain L) (h1 : L.length ≤ 200) (h2 : (textL L).length ≤ 8000) : largeB (textB L) = false := by
  have e1 : (textB L).size = (textL L).length := rfl
  have e2 : Lib.countByte (textB L).data.toList 10 = L.length := textL_count h
  unfold largeB
  rw [e1, e2]
  simp
  omega
theorem checkB_text {L R : List ByteArray} {c : Nat} (h : Plain L) (h1 : L.length ≤ 200) (h2 : (textL L).length ≤ 8000) (g : Plain R) (g1 : R.length ≤ 200) (g2 : (textL R).length ≤ 8000) (hc : c ≤ 10) : checkB (textB L) (textB R) c = 0 := by
  unfold checkB
  rw [isTextB_text, isTextB_text, largeB_text h h1 h2, largeB_text g g1 g2]
  simp
  omega
end Go.Proofs.YtcclgodahlinbaaDoor

namespace Dn
section
set_option linter.unusedSectionVars false
variable {α : Type} [DecidableEq α]

/-- a way from a row to another with so many drops and adds: whatever holds of the empty rows and is handed on by a keep, a drop and an add, holds of them -/
def Ed (l r : List α) (k : Nat) : Prop :=
  ∀ P : List α → List α → Nat → Prop, P [] [] 0 → (∀ a l r k, P l r k → P (a :: l) (a :: r) k) → (∀ a l r k, P l r k → P (a :: l) r (k + 1)) → (∀ a l r k, P l r k → P l (a :: r) (k + 1)) → P l r k
theorem Ed.nil : Ed ([] : List α) [] 0 := fun _ h _ _ _ => h
theorem Ed.keep (a : α) (l r : List α) (k : Nat) (h : Ed l r k) : Ed (a :: l) (a :: r) k := fun P p1 p2 p3 p4 => p2 a l r k (h P p1 p2 p3 p4)
theorem Ed.drop (a : α) (l r : List α) (k : Nat) (h : Ed l r k) : Ed (a :: l) r (k + 1) := fun P p1 p2 p3 p4 => p3 a l r k (h P p1 p2 p3 p4)
theorem Ed.add (a : α) (l r : List α) (k : Nat) (h : Ed l r k) : Ed l (a :: r) (k + 1) := fun P p1 p2 p3 p4 => p4 a l r k (h P p1 p2 p3 p4)
theorem Ed.ind {motive : (l r : List α) → (k : Nat) → Ed l r k → Prop} (nil : motive [] [] 0 Ed.nil)
    (keep : ∀ (a : α) (l r : List α) (k : Nat) (h : Ed l r k), motive l r k h → motive (a :: l) (a :: r) k (Ed.keep a l r k h))
    (drop : ∀ (a : α) (l r : List α) (k : Nat) (h : Ed l r k), motive l r k h → motive (a :: l) r (k + 1) (Ed.drop a l r k h))
    (add : ∀ (a : α) (l r : List α) (k : Nat) (h : Ed l r k), motive l r k h → motive l (a :: r) (k + 1) (Ed.add a l r k h)) {l r : List α} {k : Nat} (h : Ed l r k) : motive l r k h :=
  (h (fun l r k => ∃ h : Ed l r k, motive l r k h) ⟨Ed.nil, nil⟩ (fun a l r k ⟨h, p⟩ => ⟨Ed.keep a l r k h, keep a l r k h p⟩) (fun a l r k ⟨h, p⟩ => ⟨Ed.drop a l r k h, drop a l r k h p⟩) (fun a l r k ⟨h, p⟩ => ⟨Ed.add a l r k h, add a l r k h p⟩)).elim fun _ p => p

def distRow (a : α) (prev : List α → Nat) : List α → Nat
  | [] => prev [] + 1
  | b :: r => if a = b then prev r else 1 + min (prev (b :: r)) (distRow a prev r)
def dist : List α → List α → Nat
  | [] => List.length
  | a :: l => distRow a (dist l)

theorem dist_nil_l (r : List α) : dist [] r = r.length := rfl
theorem dist_nil_r (l : List α) : dist l [] = l.length := by
  induction l with
  | nil => rfl
  | cons a l ih => show dist l [] + 1 = _; rw [ih]; rfl
theorem dist_cc (a b : α) (l r : List α) : dist (a :: l) (b :: r) = if a = b then dist l r else 1 + min (dist l (b :: r)) (dist (a :: l) r) := rfl
theorem dist_same (a : α) (l r : List α) : dist (a :: l) (a :: r) = dist l r := by rw [dist_cc, if_pos rfl]
theorem dist_ne {a b : α} (h : a ≠ b) (l r : List α) : dist (a :: l) (b :: r) = 1 + min (dist l (b :: r)) (dist (a :: l) r) := by rw [dist_cc, if_neg h]

theorem dist_comm : ∀ (n : Nat) (l r : List α), l.length + r.length ≤ n → dist l r = dist r l := by
  intro n
  induction n with
  | zero =>
    intro l r h
    have h1 : l = [] := List.eq_nil_of_length_eq_zero (by omega)
    have h2 : r = [] := List.eq_nil_of_length_eq_zero (by omega)
    rw [h1, h2]
  | succ n ih =>
    intro l r h
    cases l with
    | nil => rw [dist_nil_l, dist_nil_r]
    | cons a l =>
      cases r with
      | nil => rw [dist_nil_l, dist_nil_r]
      | cons b r =>
        simp only [List.length_cons] at h
        by_cases e : a = b
        · subst e; rw [dist_same, dist_same]; exact ih _ _ (by omega)
        · rw [dist_ne e, dist_ne (Ne.symm e), ih l (b :: r) (by simp; omega), ih (a :: l) r (by simp; omega)]
          omega

theorem dist_near : ∀ (n : Nat) (l r : List α), l.length + r.length ≤ n → (∀ a, dist (a :: l) r ≤ dist l r + 1) ∧ (∀ b, dist l r ≤ dist l (b :: r) + 1) := by
  intro n
  induction n with
  | zero =>
    intro l r h
    have h1 : l = [] := List.eq_nil_of_length_eq_zero (by omega)
    have h2 : r = [] := List.eq_nil_of_length_eq_zero (by omega)
    subst h1 h2
    simp [dist_nil_l, dist_nil_r]
  | succ n ih =>
    intro l r h
    refine ⟨fun a => ?_, fun b => ?_⟩
    · cases r with
      | nil => rw [dist_nil_r, dist_nil_r]; simp
      | cons b r =>
        simp only [List.length_cons] at h
        by_cases e : a = b
        · subst e
          rw [dist_same]
          exact (ih l r (by omega)).2 a
        · rw [dist_ne e]; omega
    · cases l with
      | nil => rw [dist_nil_l, dist_nil_l]; simp; omega
      | cons c l =>
        simp only [List.length_cons] at h
        by_cases e : c = b
        · subst e
          rw [dist_same]
          exact (ih l r (by omega)).1 c
        · rw [dist_ne e]
          have h1 := (ih l r (by omega)).1 c
          have h2 := (ih l r (by omega)).2 b
          omega
theorem dist_l1 (a : α) (l r : List α) : dist (a :: l) r ≤ dist l r + 1 := (dist_near _ l r (Nat.le_refl _)).1 a
theorem dist_r1 (b : α) (l r : List α) : dist l (b :: r) ≤ dist l r + 1 := by
  rw [dist_comm _ l (b :: r) (Nat.le_refl _), dist_comm _ l r (Nat.le_refl _)]; exact dist_l1 b r l
theorem Ed.dist_le {l r : List α} {k : Nat} (h : Ed l r k) : dist l r ≤ k := by
  induction h using Ed.ind with
  | nil => exact Nat.le_refl _
  | keep a l r k _ ih => rw [dist_same]; exact ih
  | drop a l r k _ ih => have := dist_l1 a l r; omega
  | add a l r k _ ih => have := dist_r1 a l r; omega
theorem Ed.refl (l : List α) : Ed l l 0 := by
  induction l with
  | nil => exact .nil
  | cons a l ih => exact .keep a l l 0 ih
/-- a line more -/
theorem Ed.put {l r : List α} {k : Nat} (h : Ed l r k) (a : α) : ∀ i, i ≤ r.length → Ed l (r.take i ++ a :: r.drop i) (k + 1) := by
  induction h using Ed.ind with
  | nil => intro i hi; simp at hi; subst hi; exact .add a _ _ _ .nil
  | keep b l r k h ih =>
    intro i hi
    cases i with
    | zero => exact .add a _ _ _ (.keep b l r k h)
    | succ i => exact .keep b _ _ _ (ih i (by simpa using hi))
  | drop b l r k h ih => intro i hi; exact .drop b _ _ _ (ih i hi)
  | add b l r k h ih =>
    intro i hi
    cases i with
    | zero => exact .add a _ _ _ (.add b l r k h)
    | succ i => exact .add b _ _ _ (ih i (by simpa using hi))
/-- a line less -/
theorem Ed.cut {l r : List α} {k : Nat} (h : Ed l r k) : ∀ i, i < r.length → ∃ k', k' ≤ k + 1 ∧ Ed l (r.take i ++ r.drop (i + 1)) k' := by
  induction h using Ed.ind with
  | nil => intro i hi; simp at hi
  | keep b l r k h ih =>
    intro i hi
    cases i with
    | zero => exact ⟨k + 1, Nat.le_refl _, .drop b _ _ _ h⟩
    | succ i => obtain ⟨k', hk, he⟩ := ih i (by simpa using hi); exact ⟨k', hk, .keep b _ _ _ he⟩
  | drop b l r k h ih => intro i hi; obtain ⟨k', hk, he⟩ := ih i hi; exact ⟨k' + 1, by omega, .drop b _ _ _ he⟩
  | add b l r k h ih =>
    intro i hi
    cases i with
    | zero => exact ⟨k, by omega, h⟩
    | succ i => obtain ⟨k', hk, he⟩ := ih i (by simpa using hi); exact ⟨k' + 1, by omega, .add b _ _ _ he⟩

variable (o f : List α)
def rd (x y : Nat) : Nat := dist (o.drop x) (f.drop y)
theorem rd_same {x y : Nat} (h : same o f x y = true) : rd o f x y = rd o f (x + 1) (y + 1) := by
  obtain ⟨hx, hy⟩ := same_lt o f h
  unfold same at h
  simp only [decide_eq_true_eq] at h
  have e := h.2.2
  unfold rd
  rw [List.drop_eq_getElem_cons hx, List.drop_eq_getElem_cons hy]
  rw [List.getElem?_eq_getElem hx, List.getElem?_eq_getElem hy] at e
  rw [Option.some.inj e, dist_same]
theorem rd_ne {x y : Nat} (h : same o f x y = false) (hx : x < o.length) (hy : y < f.length) : rd o f x y = 1 + min (rd o f (x + 1) y) (rd o f x (y + 1)) := by
  unfold same at h
  simp only [decide_eq_false_iff_not, not_and] at h
  have e := h hx hy
  unfold rd
  rw [List.drop_eq_getElem_cons hx, List.drop_eq_getElem_cons hy]
  rw [List.getElem?_eq_getElem hx, List.getElem?_eq_getElem hy] at e
  rw [dist_ne (fun e' => e (by rw [e']))]
theorem rd_endx {y : Nat} (hy : y < f.length) : rd o f o.length y = 1 + rd o f o.length (y + 1) := by
  unfold rd; rw [List.drop_length, dist_nil_l, dist_nil_l]; simp; omega
theorem rd_endy {x : Nat} (hx : x < o.length) : rd o f x f.length = 1 + rd o f (x + 1) f.length := by
  unfold rd; rw [List.drop_length, dist_nil_r, dist_nil_r]; simp; omega

/-- what it takes to be led to a place -/
def Cost (st : Srch) (G : Nat → Nat → Nat) (x y kind c : Nat) : Prop :=
  (kind = 46 ∧ x = 0 ∧ y = 0 ∧ c = 0) ∨
  (kind = 32 ∧ 0 < x ∧ 0 < y ∧ st.at f.length (x - 1) (y - 1) ≠ 0 ∧ c = G (x - 1) (y - 1)) ∨
  (kind = 45 ∧ 0 < x ∧ st.at f.length (x - 1) y ≠ 0 ∧ c = G (x - 1) y + 1) ∨
  (kind = 43 ∧ 0 < y ∧ st.at f.length x (y - 1) ≠ 0 ∧ c = G x (y - 1) + 1)
def Near (st : Srch) (G : Nat → Nat → Nat) (x y c : Nat) : Prop := (st.at f.length x y ≠ 0 ∧ G x y ≤ c) ∨ ∃ s ∈ st.op, s.x = x ∧ s.y = y ∧ s.far ≤ c
def NextG (st : Srch) (G : Nat → Nat → Nat) (x y : Nat) : Prop :=
  if same o f x y = true then Near f st G (x + 1) (y + 1) (G x y)
  else (x < o.length → Near f st G (x + 1) y (G x y + 1)) ∧ (y < f.length → Near f st G x (y + 1) (G x y + 1))
structure InvG (D : Nat) (hole : Option (Nat × Nat)) (st : Srch) (G : Nat → Nat → Nat) : Prop where
  heap : heapL st.op
  mono : ∀ x y, x ≤ o.length → y ≤ f.length → st.at f.length x y ≠ 0 → ∀ s ∈ st.op, G x y ≤ s.far
  spots : ∀ s ∈ st.op, Cost f st G s.x s.y s.kind s.far
  known : ∀ x y, x ≤ o.length → y ≤ f.length → st.at f.length x y ≠ 0 → Cost f st G x y (st.at f.length x y) (G x y)
  start : Near f st G 0 0 0
  next : ∀ x y, x ≤ o.length → y ≤ f.length → st.at f.length x y ≠ 0 → hole ≠ some (x, y) → NextG o f st G x y
  top : ∀ x y, x ≤ o.length → y ≤ f.length → st.at f.length x y ≠ 0 → G x y ≤ D

theorem good_from {D : Nat} {st : Srch} {G : Nat → Nat → Nat} (h : InvG o f D none st G) (he : st.at f.length o.length f.length = 0) :
    ∀ k x y, x ≤ o.length → y ≤ f.length → (o.length - x) + (f.length - y) = k → st.at f.length x y ≠ 0 → G x y + rd o f x y ≤ D → ∃ s ∈ st.op, s.far ≤ D := by
  intro k
  induction k using Nat.strongRecOn with
  | ind k ih =>
    intro x y hx hy hk hr hD
    have hn := h.next x y hx hy hr (by simp)
    have go : ∀ x' y' c, x' ≤ o.length → y' ≤ f.length → (o.length - x') + (f.length - y') < k → c + rd o f x' y' ≤ D → Near f st G x' y' c → ∃ s ∈ st.op, s.far ≤ D := by
      intro x' y' c hx' hy' hlt hc hnear
      rcases hnear with ⟨h1, h2⟩ | ⟨s, hs, _, _, h2⟩
      · exact ih _ hlt x' y' hx' hy' rfl h1 (by omega)
      · exact ⟨s, hs, by omega⟩
    unfold NextG at hn
    split at hn
    · rename_i hs
      have hlt := same_lt o f hs
      exact go _ _ _ (by omega) (by omega) (by omega) (by rw [← rd_same o f hs]; exact hD) hn
    · rename_i hs
      have hs' : same o f x y = false := by simpa using hs
      by_cases ex : x < o.length
      · by_cases ey : y < f.length
        · have e := rd_ne o f hs' ex ey
          by_cases hm : rd o f (x + 1) y ≤ rd o f x (y + 1)
          · exact go _ _ _ (by omega) (by omega) (by omega) (by omega) (hn.1 ex)
          · exact go _ _ _ (by omega) (by omega) (by omega) (by omega) (hn.2 ey)
        · obtain rfl : y = f.length := by omega
          have e := rd_endy o f ex
          exact go _ _ _ (by omega) (by omega) (by omega) (by omega) (hn.1 ex)
      · obtain rfl : x = o.length := by omega
        by_cases ey : y < f.length
        · have e := rd_endx o f ey
          exact go _ _ _ (by omega) (by omega) (by omega) (by omega) (hn.2 ey)
        · obtain rfl : y = f.length := by omega
          exact absurd he hr
theorem good {st : Srch} {G : Nat → Nat → Nat} (h : InvG o f (dist o f) none st G) (he : st.at f.length o.length f.length = 0) : ∃ s ∈ st.op, s.far ≤ dist o f := by
  rcases h.start with ⟨h1, h2⟩ | ⟨s, hs, _, _, h2⟩
  · exact good_from o f h he _ 0 0 (by omega) (by omega) rfl h1 (by unfold rd; simp; omega)
  · exact ⟨s, hs, by omega⟩

theorem Near.push {st : Srch} {G : Nat → Nat → Nat} {x y c : Nat} (h : Near f st G x y c) (s : Spot) (t : Nat) : Near f { op := pushM st.op s, turns := t, led := st.led } G x y c := by
  rcases h with h | ⟨q, hq, e⟩
  · exact .inl h
  · exact .inr ⟨q, (pushM_perm st.op s).mem_iff.2 (by simp [hq]), e⟩
theorem InvG.push {D : Nat} {hole : Option (Nat × Nat)} {st : Srch} {G : Nat → Nat → Nat} (h : InvG o f D hole st G) (s : Spot) (t : Nat) (hc : Cost f st G s.x s.y s.kind s.far)
    (hm : ∀ x y, x ≤ o.length → y ≤ f.length → st.at f.length x y ≠ 0 → G x y ≤ s.far) : InvG o f D hole { op := pushM st.op s, turns := t, led := st.led } G := by
  have hmem : ∀ q, q ∈ pushM st.op s ↔ q ∈ st.op ∨ q = s := by intro q; rw [(pushM_perm st.op s).mem_iff]; simp
  refine ⟨push_heap h.heap s, ?_, ?_, h.known, h.start.push f s t, ?_, h.top⟩
  · intro x y hx hy hr q hq
    rcases (hmem q).1 hq with hq | rfl
    · exact h.mono x y hx hy hr q hq
    · exact hm x y hx hy hr
  · intro q hq
    rcases (hmem q).1 hq with hq | rfl
    · exact h.spots q hq
    · exact hc
  · intro x y hx hy hr hh
    have := h.next x y hx hy hr hh
    unfold NextG at *
    split at this
    · rename_i hs; rw [if_pos hs]; exact this.push f s t
    · rename_i hs; rw [if_neg hs]; exact ⟨fun a => (this.1 a).push f s t, fun a => (this.2 a).push f s t⟩
theorem InvG.change {D : Nat} {hole : Option (Nat × Nat)} {st : Srch} {G : Nat → Nat → Nat} (h : InvG o f D hole st G) (p : Spot) (dx dy kind : Nat) (hc : Cost f st G (p.x + dx) (p.y + dy) kind (p.far + 1))
    (hx : p.x + dx ≤ o.length) (hy : p.y + dy ≤ f.length) (hm : ∀ x y, x ≤ o.length → y ≤ f.length → st.at f.length x y ≠ 0 → G x y ≤ p.far) :
    InvG o f D hole (changeM f.length st p dx dy kind) G ∧ Near f (changeM f.length st p dx dy kind) G (p.x + dx) (p.y + dy) (p.far + 1) ∧ (changeM f.length st p dx dy kind).led = st.led ∧
      ∀ x y c, Near f st G x y c → Near f (changeM f.length st p dx dy kind) G x y c := by
  unfold changeM
  split
  · refine ⟨h.push o f _ _ hc (fun x y a b c => Nat.le_succ_of_le (hm x y a b c)), .inr ⟨⟨p.x + dx, p.y + dy, p.far + 1, st.turns + 1, kind⟩, (pushM_perm st.op _).mem_iff.2 (by simp), rfl, rfl, Nat.le_refl _⟩, rfl, fun x y c hn => hn.push f _ _⟩
  · rename_i h0
    exact ⟨h, .inl ⟨h0, Nat.le_succ_of_le (hm _ _ hx hy h0)⟩, rfl, fun _ _ _ hn => hn⟩

theorem InvG.round {st : Srch} {G : Nat → Nat → Nat} (hi : Inv o f st) (h : InvG o f (dist o f) none st G) (he : st.at f.length o.length f.length = 0) : ∃ G', InvG o f (dist o f) none (roundM o f st) G' := by
  have hne := hi.open_ne he
  have hperm := pop_perm st.op hne
  have hmem : ∀ q, q ∈ st.op ↔ q ∈ popR st.op ∨ q = popS st.op := by intro q; rw [← hperm.mem_iff]; simp
  obtain ⟨hh, _, hmin⟩ := pop_heap h.heap hne
  have hmin' : ∀ s ∈ st.op, (popS st.op).far ≤ s.far := by
    intro s hs
    have := hmin s hs
    unfold Spot.lt at this
    omega
  obtain ⟨px, py, _, _, pl⟩ := hi.spots _ ((hmem _).2 (.inr rfl))
  have pc := h.spots _ ((hmem _).2 (.inr rfl))
  have pD : (popS st.op).far ≤ dist o f := by
    obtain ⟨s, hs, h1⟩ := good o f h he
    have := hmin' s hs
    omega
  have pm : ∀ x y, x ≤ o.length → y ≤ f.length → st.at f.length x y ≠ 0 → G x y ≤ (popS st.op).far := fun x y a b c => h.mono x y a b c _ ((hmem _).2 (.inr rfl))
  unfold roundM settleM
  simp only
  generalize hs : popS st.op = s at *
  have hat : ∀ x y, Srch.at { op := popR st.op, turns := st.turns, led := st.led } f.length x y = st.at f.length x y := fun _ _ => rfl
  rw [hat]
  split
  · rename_i h0
    have hset := fun x y (hy : y ≤ f.length) => at_set (st := st) (n := o.length) (m := f.length) (x0 := s.x) (y0 := s.y) (x := x) (y := y) (k := s.kind) hi.len px py hy (popR st.op) st.turns
    refine ⟨fun x y => if x = s.x ∧ y = s.y then s.far else G x y, ?_⟩
    generalize hG : (fun x y => if x = s.x ∧ y = s.y then s.far else G x y) = G'
    have hG1 : G' s.x s.y = s.far := by rw [← hG]; simp
    have hG2 : ∀ x y, ¬ (x = s.x ∧ y = s.y) → G' x y = G x y := by intro x y hn; rw [← hG]; simp only; rw [if_neg hn]
    have hG3 : ∀ x y, st.at f.length x y ≠ 0 → G' x y = G x y := by
      intro x y hr
      refine hG2 x y ?_
      rintro ⟨rfl, rfl⟩
      exact hr h0
    have hmono : ∀ x y, y ≤ f.length → st.at f.length x y ≠ 0 → Srch.at { op := popR st.op, turns := st.turns, led := st.led.set (idx f.length s.x s.y) s.kind } f.length x y ≠ 0 := by
      intro x y hy hr
      rw [hset x y hy]
      split
      · exact pl.pos
      · exact hr
    have hcost : ∀ x y k c, y ≤ f.length → Cost f st G x y k c → Cost f { op := popR st.op, turns := st.turns, led := st.led.set (idx f.length s.x s.y) s.kind } G' x y k c := by
      intro x y k c hy hc
      rcases hc with hc | ⟨h1, h2, h3, h4, h5⟩ | ⟨h1, h2, h3, h4⟩ | ⟨h1, h2, h3, h4⟩
      · exact .inl hc
      · exact .inr (.inl ⟨h1, h2, h3, hmono _ _ (by omega) h4, by rw [hG3 _ _ h4]; exact h5⟩)
      · exact .inr (.inr (.inl ⟨h1, h2, hmono _ _ hy h3, by rw [hG3 _ _ h3]; exact h4⟩))
      · exact .inr (.inr (.inr ⟨h1, h2, hmono _ _ (by omega) h3, by rw [hG3 _ _ h3]; exact h4⟩))
    have hnear : ∀ x y c, y ≤ f.length → Near f st G x y c → Near f { op := popR st.op, turns := st.turns, led := st.led.set (idx f.length s.x s.y) s.kind } G' x y c := by
      intro x y c hy hn
      rcases hn with ⟨h1, h2⟩ | ⟨q, hq, e1, e2, e3⟩
      · exact .inl ⟨hmono x y hy h1, by rw [hG3 _ _ h1]; exact h2⟩
      · by_cases e : x = s.x ∧ y = s.y
        · left
          obtain ⟨rfl, rfl⟩ := e
          refine ⟨by rw [hset _ _ hy, if_pos ⟨rfl, rfl⟩]; exact pl.pos, ?_⟩
          rw [hG1]
          have := hmin' q hq
          omega
        · rcases (hmem q).1 hq with hq | rfl
          · exact .inr ⟨q, hq, e1, e2, e3⟩
          · exact absurd ⟨e1.symm, e2.symm⟩ e
    have hGle : ∀ x y, x ≤ o.length → y ≤ f.length → Srch.at { op := popR st.op, turns := st.turns, led := st.led.set (idx f.length s.x s.y) s.kind } f.length x y ≠ 0 → G' x y ≤ s.far := by
      intro x y hx hy hr
      by_cases e : x = s.x ∧ y = s.y
      · rw [e.1, e.2, hG1]; exact Nat.le_refl _
      · rw [hset x y hy, if_neg e] at hr
        rw [hG2 x y e]
        exact pm x y hx hy hr
    have hhere : Srch.at { op := popR st.op, turns := st.turns, led := st.led.set (idx f.length s.x s.y) s.kind } f.length s.x s.y ≠ 0 := by rw [hset _ _ py, if_pos ⟨rfl, rfl⟩]; exact pl.pos
    have i0 : InvG o f (dist o f) (some (s.x, s.y)) { op := popR st.op, turns := st.turns, led := st.led.set (idx f.length s.x s.y) s.kind } G' := by
      refine ⟨hh, ?_, ?_, ?_, hnear 0 0 0 (by omega) h.start, ?_, ?_⟩
      · intro x y hx hy hr q hq
        have h1 := hGle x y hx hy hr
        have h2 := hmin' q ((hmem q).2 (.inl hq))
        omega
      · intro q hq
        have hq' := (hmem q).2 (.inl hq)
        exact hcost _ _ _ _ (hi.spots q hq').2.1 (h.spots q hq')
      · intro x y hx hy hr
        by_cases e : x = s.x ∧ y = s.y
        · rw [hset x y hy, if_pos e, e.1, e.2, hG1]
          exact hcost _ _ _ _ py pc
        · rw [hset x y hy, if_neg e] at hr ⊢
          rw [hG2 x y e]
          exact hcost _ _ _ _ hy (h.known x y hx hy hr)
      · intro x y hx hy hr hne'
        have e : ¬ (x = s.x ∧ y = s.y) := by rintro ⟨rfl, rfl⟩; exact hne' rfl
        rw [hset x y hy, if_neg e] at hr
        have := h.next x y hx hy hr (by simp)
        unfold NextG at this ⊢
        rw [hG2 x y e]
        split at this
        · rename_i hs'
          have hlt := same_lt o f hs'
          rw [if_pos hs']
          exact hnear _ _ _ (by omega) this
        · rename_i hs'
          rw [if_neg hs']
          exact ⟨fun a => hnear _ _ _ hy (this.1 a), fun a => hnear _ _ _ (by omega) (this.2 a)⟩
      · intro x y hx hy hr
        have := hGle x y hx hy hr
        omega
    have close : ∀ (S : Srch) (G1 : Nat → Nat → Nat), InvG o f (dist o f) (some (s.x, s.y)) S G1 → NextG o f S G1 s.x s.y → InvG o f (dist o f) none S G1 := by
      intro S G1 hS hN
      refine ⟨hS.heap, hS.mono, hS.spots, hS.known, hS.start, ?_, hS.top⟩
      intro x y hx hy hr _
      by_cases e : x = s.x ∧ y = s.y
      · rw [e.1, e.2]; exact hN
      · exact hS.next x y hx hy hr (by simp only [ne_eq, Option.some.injEq, Prod.mk.injEq]; intro hh; exact e ⟨hh.1.symm, hh.2.symm⟩)
    split
    · rename_i hsame
      refine close _ _ (i0.push o f ⟨s.x + 1, s.y + 1, s.far, s.turn, 32⟩ st.turns (.inr (.inl ⟨rfl, by simp, by simp, by simpa using hhere, by simp [hG1]⟩)) hGle) ?_
      unfold NextG
      rw [if_pos hsame]
      exact .inr ⟨⟨s.x + 1, s.y + 1, s.far, s.turn, 32⟩, (pushM_perm _ _).mem_iff.2 (by simp), rfl, rfl, by rw [hG1]; exact Nat.le_refl _⟩
    · rename_i hsame
      have key : ∃ st2 : Srch, st2 = (if s.x < o.length then changeM f.length { op := popR st.op, turns := st.turns, led := st.led.set (idx f.length s.x s.y) s.kind } s 1 0 45 else { op := popR st.op, turns := st.turns, led := st.led.set (idx f.length s.x s.y) s.kind }) ∧
          InvG o f (dist o f) (some (s.x, s.y)) st2 G' ∧ (s.x < o.length → Near f st2 G' (s.x + 1) s.y (s.far + 1)) ∧ st2.led = st.led.set (idx f.length s.x s.y) s.kind := by
        refine ⟨_, rfl, ?_⟩
        split
        · rename_i hxl
          obtain ⟨a, b, c, _⟩ := i0.change o f s 1 0 45 (.inr (.inr (.inl ⟨rfl, by omega, by simpa using hhere, by simp [hG1]⟩))) (by omega) (by omega) hGle
          exact ⟨a, fun _ => by simpa using b, c⟩
        · exact ⟨i0, fun hh => absurd hh (by assumption), rfl⟩
      obtain ⟨st2, hst2, j1, j2, j3⟩ := key
      rw [← hst2]
      have hat2 : ∀ x y, st2.at f.length x y = Srch.at { op := popR st.op, turns := st.turns, led := st.led.set (idx f.length s.x s.y) s.kind } f.length x y := by intro x y; unfold Srch.at; rw [j3]
      split
      · rename_i hyl
        obtain ⟨a, b, c, d⟩ := j1.change o f s 0 1 43 (.inr (.inr (.inr ⟨rfl, by omega, by rw [hat2]; simpa using hhere, by simp [hG1]⟩))) (by omega) (by omega) (fun x y hx hy hr => hGle x y hx hy (by rw [← hat2]; exact hr))
        refine close _ _ a ?_
        unfold NextG
        rw [if_neg hsame, hG1]
        exact ⟨fun hx => d _ _ _ (j2 hx), fun _ => by simpa using b⟩
      · rename_i hyl
        refine close _ _ j1 ?_
        unfold NextG
        rw [if_neg hsame, hG1]
        exact ⟨j2, fun hy => absurd hy hyl⟩
  · rename_i h0
    refine ⟨G, ?_⟩
    have hnear : ∀ x y c, x ≤ o.length → y ≤ f.length → Near f st G x y c → Near f { op := popR st.op, turns := st.turns, led := st.led } G x y c := by
      intro x y c hx hy hn
      rcases hn with h1 | ⟨q, hq, e1, e2, e3⟩
      · exact .inl h1
      · rcases (hmem q).1 hq with hq' | rfl
        · exact .inr ⟨q, hq', e1, e2, e3⟩
        · left
          subst e1 e2
          exact ⟨h0, by have := pm _ _ hx hy h0; omega⟩
    refine ⟨hh, fun x y hx hy hr q hq => h.mono x y hx hy hr q ((hmem q).2 (.inl hq)), fun q hq => h.spots q ((hmem q).2 (.inl hq)), h.known, hnear 0 0 0 (by omega) (by omega) h.start, ?_, h.top⟩
    intro x y hx hy hr _
    have := h.next x y hx hy hr (by simp)
    unfold NextG at this ⊢
    split at this
    · rename_i hs'
      have hlt := same_lt o f hs'
      rw [if_pos hs']
      exact hnear _ _ _ (by omega) (by omega) this
    · rename_i hs'
      rw [if_neg hs']
      exact ⟨fun a => hnear _ _ _ (by omega) hy (this.1 a), fun a => hnear _ _ _ hx (by omega) (this.2 a)⟩

theorem startG : InvG o f (dist o f) none (startM o f) (fun _ _ => 0) := by
  have h0 : ∀ x y, (startM o f).at f.length x y = 0 := by
    intro x y
    simp [startM, Srch.at, List.getD, List.getElem?_replicate]
    split <;> rfl
  refine ⟨?_, fun x y _ _ hr => absurd (h0 x y) hr, ?_, fun x y _ _ hr => absurd (h0 x y) hr, .inr ⟨⟨0, 0, 0, 0, 46⟩, by simp [startM], rfl, rfl, Nat.le_refl _⟩, fun x y _ _ hr => absurd (h0 x y) hr, fun x y _ _ hr => absurd (h0 x y) hr⟩
  · intro i hi hl; simp [startM] at hl; omega
  · intro s hs
    simp [startM] at hs
    subst hs
    exact .inl ⟨rfl, rfl, rfl, rfl⟩
theorem searchM_G : ∀ (k : Nat) (st : Srch) (G : Nat → Nat → Nat), Inv o f st → InvG o f (dist o f) none st G → ∃ G', InvG o f (dist o f) none (searchM o f k st) G' := by
  intro k
  induction k with
  | zero => intro st G _ hG; exact ⟨G, hG⟩
  | succ k ih =>
    intro st G hi hG
    by_cases he : st.at f.length o.length f.length = 0
    · simp only [searchM, he, if_true]
      obtain ⟨G1, hG1⟩ := hG.round o f hi he
      exact ih _ G1 (hi.round (hi.open_ne he)).1 hG1
    · rw [searchM_done he]; exact ⟨G, hG⟩
/-- drops and adds of a way -/
def costW (l : List (StepM α)) : Nat := (l.filter (fun s => s.kind != 32)).length
theorem backM_cost [Inhabited α] {st : Srch} {G : Nat → Nat → Nat} (h : InvG o f (dist o f) none st G) : ∀ (k x y : Nat), x + y ≤ k → x ≤ o.length → y ≤ f.length → st.at f.length x y ≠ 0 →
    costW (backM o f st k x y) ≤ G x y := by
  intro k
  induction k with
  | zero => intro x y _ _ _ _; simp [backM, costW]
  | succ k ih =>
    intro x y hk hx hy hr
    unfold backM
    split
    · simp [costW]
    · rename_i hne
      have hc := h.known x y hx hy hr
      rcases hc with ⟨_, h1, h2, _⟩ | ⟨h1, h2, h3, h4, h5⟩ | ⟨h1, h2, h3, h4⟩ | ⟨h1, h2, h3, h4⟩
      · exact absurd ⟨h1, h2⟩ hne
      · rw [if_pos h1]
        have := ih (x - 1) (y - 1) (by omega) (by omega) (by omega) h4
        rw [h5]
        simpa [costW] using this
      · rw [if_neg (by omega), if_pos h1]
        have := ih (x - 1) y (by omega) (by omega) (by omega) h3
        rw [h4]
        unfold costW at this ⊢
        rw [List.filter_cons_of_pos (by simp), List.length_cons]; omega
      · rw [if_neg (by omega), if_neg (by omega)]
        have := ih x (y - 1) (by omega) (by omega) (by omega) h3
        rw [h4]
        unfold costW at this ⊢
        rw [List.filter_cons_of_pos (by simp [h1]), List.length_cons]; omega
/-- no way is shorter -/
theorem wayM_dist [Inhabited α] : costW (wayM o f) ≤ dist o f := by
  obtain ⟨hi, he⟩ := foundM_inv o f
  obtain ⟨G, hG⟩ := searchM_G o f (mu (startM o f)) (startM o f) _ (startM_inv o f) (startG o f)
  have hG' : InvG o f (dist o f) none (foundM o f) G := hG
  have h1 := backM_cost o f hG' (o.length + f.length) o.length f.length (Nat.le_refl _) (Nat.le_refl _) (Nat.le_refl _) he
  have h2 := hG'.top o.length f.length (Nat.le_refl _) (Nat.le_refl _) he
  have h3 : costW (wayM o f) = costW (backM o f (foundM o f) (o.length + f.length) o.length f.length) := by unfold wayM costW; rw [List.filter_reverse, List.length_reverse]
  omega
theorem wayM_shortest [Inhabited α] {k : Nat} (h : Ed o f k) : costW (wayM o f) ≤ k := Nat.le_trans (wayM_dist o f) h.dist_le
end
end Dn

namespace Dn
section
variable {α : Type} [DecidableEq α]

/-- the shortest way that keeps where it can, else drops where a shortest way does -/
def specRow (a : α) (l : List α) (prev : List α → List (StepM α)) : List α → List (StepM α)
  | [] => ⟨45, a⟩ :: prev []
  | b :: r => if a = b then ⟨32, a⟩ :: prev r else if dist l (b :: r) ≤ dist (a :: l) r then ⟨45, a⟩ :: prev (b :: r) else ⟨43, b⟩ :: specRow a l prev r
def spec : List α → List α → List (StepM α)
  | [] => List.map fun b => ⟨43, b⟩
  | a :: l => specRow a l (spec l)
theorem spec_nn : spec ([] : List α) [] = [] := rfl
theorem spec_nc (b : α) (r : List α) : spec [] (b :: r) = ⟨43, b⟩ :: spec [] r := rfl
theorem spec_cn (a : α) (l : List α) : spec (a :: l) [] = ⟨45, a⟩ :: spec l [] := rfl
theorem spec_cc (a b : α) (l r : List α) : spec (a :: l) (b :: r) = if a = b then ⟨32, a⟩ :: spec l r else if dist l (b :: r) ≤ dist (a :: l) r then ⟨45, a⟩ :: spec l (b :: r) else ⟨43, b⟩ :: spec (a :: l) r := rfl
/-- its drops (0) and adds (1), as a binary number -/
def keyAdd : List α → Nat
  | [] => 0
  | _ :: r => 2 ^ r.length + keyAdd r
def keyRow (a : α) (l : List α) (prev : List α → Nat) : List α → Nat
  | [] => prev []
  | b :: r => if a = b then prev r else if dist l (b :: r) ≤ dist (a :: l) r then prev (b :: r) else 2 ^ dist (a :: l) r + keyRow a l prev r
def key : List α → List α → Nat
  | [] => keyAdd
  | a :: l => keyRow a l (key l)
theorem key_nn : key ([] : List α) [] = 0 := rfl
theorem key_nc (b : α) (r : List α) : key [] (b :: r) = 2 ^ r.length + key [] r := rfl
theorem key_cn (a : α) (l : List α) : key (a :: l) [] = key l [] := rfl
theorem key_cc (a b : α) (l r : List α) : key (a :: l) (b :: r) = if a = b then key l r else if dist l (b :: r) ≤ dist (a :: l) r then key l (b :: r) else 2 ^ dist (a :: l) r + key (a :: l) r := rfl

theorem pw1 (k r : Nat) : k * 2 ^ (r + 1) = 2 * (k * 2 ^ r) := by rw [Nat.pow_succ, ← Nat.mul_assoc, Nat.mul_comm]
theorem pw2 (k p : Nat) : 2 * k * p = 2 * (k * p) := Nat.mul_assoc _ _ _
theorem pw3 (k p : Nat) : (2 * k + 1) * p = 2 * (k * p) + p := by rw [Nat.add_mul, Nat.mul_assoc, Nat.one_mul]

theorem key_lt : ∀ (n : Nat) (l r : List α), l.length + r.length ≤ n → key l r < 2 ^ dist l r := by
  intro n
  induction n with
  | zero =>
    intro l r h
    have h1 : l = [] := List.eq_nil_of_length_eq_zero (by omega)
    have h2 : r = [] := List.eq_nil_of_length_eq_zero (by omega)
    subst h1 h2
    rw [key_nn]
    exact Nat.two_pow_pos _
  | succ n ih =>
    intro l r h
    cases l with
    | nil =>
      cases r with
      | nil => rw [key_nn]; exact Nat.two_pow_pos _
      | cons b r =>
        simp only [List.length_cons] at h
        have := ih [] r (by simp at h ⊢; omega)
        rw [dist_nil_l] at this
        rw [key_nc, dist_nil_l, List.length_cons, Nat.pow_succ]
        omega
    | cons a l =>
      simp only [List.length_cons] at h
      cases r with
      | nil =>
        have := ih l [] (by simp at h ⊢; omega)
        rw [dist_nil_r] at this
        rw [key_cn, dist_nil_r, List.length_cons, Nat.pow_succ]
        omega
      | cons b r =>
        simp only [List.length_cons] at h
        by_cases e : a = b
        · subst e
          rw [key_cc, if_pos rfl, dist_same]
          exact ih l r (by omega)
        · rw [key_cc, if_neg e, dist_ne e]
          split
          · rename_i hle
            have := ih l (b :: r) (by simp; omega)
            rw [Nat.min_eq_left hle, Nat.add_comm, Nat.pow_succ]
            omega
          · rename_i hle
            have := ih (a :: l) r (by simp; omega)
            rw [Nat.min_eq_right (by omega), Nat.add_comm 1, Nat.pow_succ]
            omega

variable (o f : List α)
def kb (x y : Nat) : Nat := key (o.drop x) (f.drop y)
def sp (x y : Nat) : List (StepM α) := spec (o.drop x) (f.drop y)
def Drops (x y : Nat) : Prop := x < o.length ∧ (f.length ≤ y ∨ rd o f (x + 1) y ≤ rd o f x (y + 1))
theorem kb_lt (x y : Nat) : kb o f x y < 2 ^ rd o f x y := key_lt _ _ _ (Nat.le_refl _)
theorem at_same [Inhabited α] {x y : Nat} (h : same o f x y = true) : kb o f x y = kb o f (x + 1) (y + 1) ∧ sp o f x y = ⟨32, o.getD x default⟩ :: sp o f (x + 1) (y + 1) := by
  obtain ⟨hx, hy⟩ := same_lt o f h
  unfold same at h
  simp only [decide_eq_true_eq] at h
  have e := h.2.2
  unfold kb sp
  rw [List.drop_eq_getElem_cons hx, List.drop_eq_getElem_cons hy]
  rw [List.getElem?_eq_getElem hx, List.getElem?_eq_getElem hy] at e
  rw [← Option.some.inj e, key_cc, if_pos rfl, spec_cc, if_pos rfl]
  simp [List.getD, hx]
theorem at_drop [Inhabited α] {x y : Nat} (h : same o f x y = false) (hy : y ≤ f.length) (hd : Drops o f x y) : rd o f x y = rd o f (x + 1) y + 1 ∧ kb o f x y = kb o f (x + 1) y ∧ sp o f x y = ⟨45, o.getD x default⟩ :: sp o f (x + 1) y := by
  obtain ⟨hx, hd⟩ := hd
  by_cases ey : y < f.length
  · have hd' : rd o f (x + 1) y ≤ rd o f x (y + 1) := by omega
    refine ⟨by rw [rd_ne o f h hx ey]; omega, ?_⟩
    unfold same at h
    simp only [decide_eq_false_iff_not, not_and] at h
    have e := h hx ey
    unfold rd at hd'
    unfold kb sp
    rw [List.drop_eq_getElem_cons hx, List.drop_eq_getElem_cons ey] at *
    rw [List.getElem?_eq_getElem hx, List.getElem?_eq_getElem ey] at e
    have e' : o[x] ≠ f[y] := fun e' => e (by rw [e'])
    rw [key_cc, if_neg e', if_pos hd', spec_cc, if_neg e', if_pos hd']
    simp [List.getD, hx]
  · obtain rfl : y = f.length := by omega
    refine ⟨by rw [rd_endy o f hx]; omega, ?_⟩
    unfold kb sp
    rw [List.drop_length, List.drop_eq_getElem_cons hx, key_cn, spec_cn]
    simp [List.getD, hx]
theorem at_add [Inhabited α] {x y : Nat} (h : same o f x y = false) (hx : x ≤ o.length) (hy : y < f.length) (hd : ¬ Drops o f x y) :
    rd o f x y = rd o f x (y + 1) + 1 ∧ kb o f x y = 2 ^ rd o f x (y + 1) + kb o f x (y + 1) ∧ sp o f x y = ⟨43, f.getD y default⟩ :: sp o f x (y + 1) ∧ (x < o.length → rd o f x y < rd o f (x + 1) y + 1) := by
  by_cases ex : x < o.length
  · have hd' : ¬ rd o f (x + 1) y ≤ rd o f x (y + 1) := fun e => hd ⟨ex, .inr e⟩
    have hr := rd_ne o f h ex hy
    refine ⟨by rw [hr]; omega, ?_⟩
    rw [← and_assoc]
    refine ⟨?_, fun _ => by rw [hr]; omega⟩
    unfold same at h
    simp only [decide_eq_false_iff_not, not_and] at h
    have e := h ex hy
    clear hr
    unfold rd at hd'
    unfold kb sp rd
    rw [List.drop_eq_getElem_cons ex, List.drop_eq_getElem_cons hy] at *
    rw [List.getElem?_eq_getElem ex, List.getElem?_eq_getElem hy] at e
    have e' : o[x] ≠ f[y] := fun e' => e (by rw [e'])
    rw [key_cc, if_neg e', if_neg hd', spec_cc, if_neg e', if_neg hd']
    simp [List.getD, hy]
  · obtain rfl : x = o.length := by omega
    refine ⟨by rw [rd_endx o f hy]; omega, ?_⟩
    rw [← and_assoc]
    refine ⟨?_, fun h => absurd h (by omega)⟩
    unfold kb sp rd
    rw [List.drop_length, List.drop_eq_getElem_cons hy, key_nc, spec_nc, dist_nil_l]
    simp [List.getD, hy]
theorem rd_x {x : Nat} (y : Nat) (h : x < o.length) : rd o f x y ≤ rd o f (x + 1) y + 1 := by
  unfold rd; rw [List.drop_eq_getElem_cons h]; exact dist_l1 _ _ _
theorem rd_y {y : Nat} (x : Nat) (h : y < f.length) : rd o f x y ≤ rd o f x (y + 1) + 1 := by
  unfold rd; rw [List.drop_eq_getElem_cons h]; exact dist_r1 _ _ _

/-- no way through here is better than the best -/
def Low (x y c k : Nat) : Prop := dist o f ≤ c + rd o f x y ∧ (c + rd o f x y = dist o f → key o f ≤ k * 2 ^ rd o f x y + kb o f x y)
variable [Inhabited α]
theorem Low.keep {x y c k : Nat} (h : Low o f x y c k) (hs : same o f x y = true) : Low o f (x + 1) (y + 1) c k := by
  unfold Low at *
  rw [← (at_same o f hs).1, ← rd_same o f hs]
  exact h
theorem Low.drop {x y c k : Nat} (h : Low o f x y c k) (hs : same o f x y = false) (hx : x < o.length) (hy : y ≤ f.length) : Low o f (x + 1) y (c + 1) (2 * k) := by
  obtain ⟨h1, h2⟩ := h
  have hr := rd_x o f y hx
  refine ⟨by omega, fun e => ?_⟩
  have h3 := h2 (by omega)
  have hd : Drops o f x y := by
    by_cases hd : Drops o f x y
    · exact hd
    · have hy' : y < f.length := by
        by_cases ey : y < f.length
        · exact ey
        · exact absurd ⟨hx, .inl (by omega)⟩ hd
      have := (at_add o f hs (by omega) hy' hd).2.2.2 hx
      omega
  obtain ⟨e1, e2, _⟩ := at_drop o f hs hy hd
  rw [e1, e2, pw1] at h3
  rw [pw2]
  exact h3
theorem Low.add {x y c k : Nat} (h : Low o f x y c k) (hs : same o f x y = false) (hx : x ≤ o.length) (hy : y < f.length) : Low o f x (y + 1) (c + 1) (2 * k + 1) := by
  obtain ⟨h1, h2⟩ := h
  have hr := rd_y o f x hy
  refine ⟨by omega, fun e => ?_⟩
  have h3 := h2 (by omega)
  have e0 : rd o f x y = rd o f x (y + 1) + 1 := by omega
  rw [pw3]
  rw [e0, pw1] at h3
  by_cases hd : Drops o f x y
  · obtain ⟨e1, e2, _⟩ := at_drop o f hs (by omega) hd
    have h4 := kb_lt o f (x + 1) y
    rw [show rd o f (x + 1) y = rd o f x (y + 1) by omega] at h4
    omega
  · obtain ⟨_, e2, _⟩ := at_add o f hs hx hy hd
    omega

def le2 (a b c d : Nat) : Prop := a < c ∨ (a = c ∧ b ≤ d)
def CostK (st : Srch) (G Q : Nat → Nat → Nat) (x y kind c k : Nat) : Prop :=
  (kind = 46 ∧ x = 0 ∧ y = 0 ∧ c = 0 ∧ k = 0) ∨
  (kind = 32 ∧ 0 < x ∧ 0 < y ∧ st.at f.length (x - 1) (y - 1) ≠ 0 ∧ same o f (x - 1) (y - 1) = true ∧ c = G (x - 1) (y - 1) ∧ k = Q (x - 1) (y - 1)) ∨
  (kind = 45 ∧ 0 < x ∧ st.at f.length (x - 1) y ≠ 0 ∧ same o f (x - 1) y = false ∧ c = G (x - 1) y + 1 ∧ k = 2 * Q (x - 1) y) ∨
  (kind = 43 ∧ 0 < y ∧ st.at f.length x (y - 1) ≠ 0 ∧ same o f x (y - 1) = false ∧ c = G x (y - 1) + 1 ∧ k = 2 * Q x (y - 1) + 1)
def NearK (st : Srch) (G Q : Nat → Nat → Nat) (κ : Nat → Nat) (x y c k : Nat) : Prop :=
  (st.at f.length x y ≠ 0 ∧ le2 (G x y) (Q x y) c k) ∨ ∃ s ∈ st.op, s.x = x ∧ s.y = y ∧ le2 s.far (κ s.turn) c k
def NextK (st : Srch) (G Q : Nat → Nat → Nat) (κ : Nat → Nat) (x y : Nat) : Prop :=
  if same o f x y = true then NearK f st G Q κ (x + 1) (y + 1) (G x y) (Q x y)
  else (x < o.length → NearK f st G Q κ (x + 1) y (G x y + 1) (2 * Q x y)) ∧ (y < f.length → NearK f st G Q κ x (y + 1) (G x y + 1) (2 * Q x y + 1))
structure InvK (hole : Option (Nat × Nat)) (st : Srch) (G Q : Nat → Nat → Nat) (κ : Nat → Nat) : Prop where
  heap : heapL st.op
  uniq : (st.op.map (·.turn)).Nodup
  tle : ∀ s ∈ st.op, s.turn ≤ st.turns
  far : ∀ s1 ∈ st.op, ∀ s2 ∈ st.op, s1.far ≤ s2.far + 1
  ord : ∀ s1 ∈ st.op, ∀ s2 ∈ st.op, s1.far = s2.far → s1.turn < s2.turn → κ s1.turn < κ s2.turn
  ord2 : ∀ s1 ∈ st.op, ∀ s2 ∈ st.op, s1.far = s2.far + 1 → κ s1.turn < 2 * κ s2.turn
  mono : ∀ x y, x ≤ o.length → y ≤ f.length → st.at f.length x y ≠ 0 → ∀ s ∈ st.op, le2 (G x y) (Q x y) s.far (κ s.turn)
  spots : ∀ s ∈ st.op, CostK o f st G Q s.x s.y s.kind s.far (κ s.turn)
  known : ∀ x y, x ≤ o.length → y ≤ f.length → st.at f.length x y ≠ 0 → CostK o f st G Q x y (st.at f.length x y) (G x y) (Q x y)
  start : NearK f st G Q κ 0 0 0 0
  next : ∀ x y, x ≤ o.length → y ≤ f.length → st.at f.length x y ≠ 0 → hole ≠ some (x, y) → NextK o f st G Q κ x y
  low : ∀ x y, x ≤ o.length → y ≤ f.length → st.at f.length x y ≠ 0 → Low o f x y (G x y) (Q x y)
  lowS : ∀ s ∈ st.op, Low o f s.x s.y s.far (κ s.turn)
  top : st.at f.length o.length f.length ≠ 0 → G o.length f.length = dist o f ∧ Q o.length f.length ≤ key o f

def GoodS (x y c k : Nat) : Prop := c + rd o f x y = dist o f ∧ k * 2 ^ rd o f x y + kb o f x y ≤ key o f
theorem goodK_from {st : Srch} {G Q : Nat → Nat → Nat} {κ : Nat → Nat} (h : InvK o f none st G Q κ) (he : st.at f.length o.length f.length = 0) :
    ∀ n x y, x ≤ o.length → y ≤ f.length → (o.length - x) + (f.length - y) = n → st.at f.length x y ≠ 0 → GoodS o f x y (G x y) (Q x y) → ∃ s ∈ st.op, GoodS o f s.x s.y s.far (κ s.turn) := by
  intro n
  induction n using Nat.strongRecOn with
  | ind n ih =>
    intro x y hx hy hk hr hD
    have hn := h.next x y hx hy hr (by simp)
    have go : ∀ x' y' c k, x' ≤ o.length → y' ≤ f.length → (o.length - x') + (f.length - y') < n → GoodS o f x' y' c k → NearK f st G Q κ x' y' c k → ∃ s ∈ st.op, GoodS o f s.x s.y s.far (κ s.turn) := by
      intro x' y' c k hx' hy' hlt hc hnear
      rcases hnear with ⟨h1, h2⟩ | ⟨s, hs, e1, e2, h2⟩
      · have hl := (h.low x' y' hx' hy' h1).1
        have hc1 := hc.1
        refine ih _ hlt x' y' hx' hy' rfl h1 ?_
        rcases h2 with h2 | ⟨h2, h3⟩
        · omega
        · refine ⟨by omega, ?_⟩
          have := Nat.mul_le_mul_right (2 ^ rd o f x' y') h3
          have := hc.2
          omega
      · have hl := (h.lowS s hs).1
        have hc1 := hc.1
        rw [← e1, ← e2] at hc1
        refine ⟨s, hs, ?_⟩
        rcases h2 with h2 | ⟨h2, h3⟩
        · omega
        · rw [e1, e2]
          rw [e1, e2] at hc1
          refine ⟨by omega, ?_⟩
          have := Nat.mul_le_mul_right (2 ^ rd o f x' y') h3
          have := hc.2
          omega
    obtain ⟨hD1, hD2⟩ := hD
    unfold NextK at hn
    split at hn
    · rename_i hs
      have hlt := same_lt o f hs
      refine go _ _ _ _ (by omega) (by omega) (by omega) ⟨?_, ?_⟩ hn
      · rw [← rd_same o f hs]; exact hD1
      · rw [← rd_same o f hs, ← (at_same o f hs).1]; exact hD2
    · rename_i hs
      have hs' : same o f x y = false := by simpa using hs
      by_cases hd : Drops o f x y
      · obtain ⟨e1, e2, _⟩ := at_drop o f hs' hy hd
        refine go _ _ _ _ (by have := hd.1; omega) (by omega) (by have := hd.1; omega) ⟨by omega, ?_⟩ (hn.1 hd.1)
        rw [e1, e2, pw1] at hD2
        rw [pw2]
        exact hD2
      · have ey : y < f.length := by
          by_cases ey : y < f.length
          · exact ey
          · obtain rfl : y = f.length := by omega
            by_cases ex : x < o.length
            · exact absurd ⟨ex, .inl (Nat.le_refl _)⟩ hd
            · obtain rfl : x = o.length := by omega
              exact absurd he hr
        obtain ⟨e1, e2, _⟩ := at_add o f hs' hx ey hd
        refine go _ _ _ _ (by omega) (by omega) (by omega) ⟨by omega, ?_⟩ (hn.2 ey)
        rw [e1, e2, pw1] at hD2
        rw [pw3]
        omega
theorem goodK {st : Srch} {G Q : Nat → Nat → Nat} {κ : Nat → Nat} (h : InvK o f none st G Q κ) (he : st.at f.length o.length f.length = 0) : ∃ s ∈ st.op, GoodS o f s.x s.y s.far (κ s.turn) := by
  have e1 : rd o f 0 0 = dist o f := by simp [rd]
  have e2 : kb o f 0 0 = key o f := by simp [kb]
  rcases h.start with ⟨h1, h2⟩ | ⟨s, hs, x0, y0, h2⟩
  · have h2' : G 0 0 = 0 ∧ Q 0 0 = 0 := by unfold le2 at h2; omega
    exact goodK_from o f h he _ 0 0 (by omega) (by omega) rfl h1 ⟨by rw [h2'.1, e1]; omega, by rw [h2'.2, e2]; omega⟩
  · have h2' : s.far = 0 ∧ κ s.turn = 0 := by unfold le2 at h2; omega
    exact ⟨s, hs, by rw [x0, y0]; exact ⟨by rw [h2'.1, e1]; omega, by rw [h2'.2, e2]; omega⟩⟩
end
end Dn

namespace Dn
section
set_option linter.unusedSectionVars false
variable {α : Type} [DecidableEq α] (o f : List α) [Inhabited α]

theorem NearK.kap {st : Srch} {G Q : Nat → Nat → Nat} {κ κ' : Nat → Nat} {x y c k : Nat} (h : NearK f st G Q κ x y c k) (ht : ∀ s ∈ st.op, s.turn ≤ st.turns) (hk : ∀ t, t ≤ st.turns → κ' t = κ t) : NearK f st G Q κ' x y c k := by
  rcases h with h | ⟨s, hs, e1, e2, e3⟩
  · exact .inl h
  · exact .inr ⟨s, hs, e1, e2, by rw [hk _ (ht s hs)]; exact e3⟩
theorem InvK.kap {hole : Option (Nat × Nat)} {st : Srch} {G Q : Nat → Nat → Nat} {κ κ' : Nat → Nat} (h : InvK o f hole st G Q κ) (hk : ∀ t, t ≤ st.turns → κ' t = κ t) : InvK o f hole st G Q κ' := by
  have e : ∀ s ∈ st.op, κ' s.turn = κ s.turn := fun s hs => hk _ (h.tle s hs)
  refine ⟨h.heap, h.uniq, h.tle, h.far, ?_, ?_, ?_, ?_, h.known, h.start.kap f h.tle hk, ?_, h.low, ?_, h.top⟩
  · intro s1 h1 s2 h2 a b; rw [e s1 h1, e s2 h2]; exact h.ord s1 h1 s2 h2 a b
  · intro s1 h1 s2 h2 a; rw [e s1 h1, e s2 h2]; exact h.ord2 s1 h1 s2 h2 a
  · intro x y hx hy hr s hs; rw [e s hs]; exact h.mono x y hx hy hr s hs
  · intro s hs; rw [e s hs]; exact h.spots s hs
  · intro x y hx hy hr hh
    have := h.next x y hx hy hr hh
    unfold NextK at this ⊢
    split at this
    · rename_i hs; rw [if_pos hs]; exact this.kap f h.tle hk
    · rename_i hs; rw [if_neg hs]; exact ⟨fun a => (this.1 a).kap f h.tle hk, fun a => (this.2 a).kap f h.tle hk⟩
  · intro s hs; rw [e s hs]; exact h.lowS s hs
theorem NearK.push {st : Srch} {G Q : Nat → Nat → Nat} {κ : Nat → Nat} {x y c k : Nat} (h : NearK f st G Q κ x y c k) (s : Spot) (t : Nat) : NearK f { op := pushM st.op s, turns := t, led := st.led } G Q κ x y c k := by
  rcases h with h | ⟨q, hq, e⟩
  · exact .inl h
  · exact .inr ⟨q, (pushM_perm st.op s).mem_iff.2 (by simp [hq]), e⟩
theorem InvK.push {hole : Option (Nat × Nat)} {st : Srch} {G Q : Nat → Nat → Nat} {κ : Nat → Nat} (h : InvK o f hole st G Q κ) (s : Spot) (t : Nat) (hn : ∀ q ∈ st.op, q.turn ≠ s.turn) (ht1 : s.turn ≤ t) (ht2 : st.turns ≤ t)
    (hq : ∀ q ∈ st.op, s.far ≤ q.far + 1 ∧ q.far ≤ s.far + 1 ∧ (q.far = s.far → (q.turn < s.turn → κ q.turn < κ s.turn) ∧ (s.turn < q.turn → κ s.turn < κ q.turn)) ∧ (q.far = s.far + 1 → κ q.turn < 2 * κ s.turn) ∧ (s.far = q.far + 1 → κ s.turn < 2 * κ q.turn))
    (hm : ∀ x y, x ≤ o.length → y ≤ f.length → st.at f.length x y ≠ 0 → le2 (G x y) (Q x y) s.far (κ s.turn)) (hc : CostK o f st G Q s.x s.y s.kind s.far (κ s.turn)) (hl : Low o f s.x s.y s.far (κ s.turn)) :
    InvK o f hole { op := pushM st.op s, turns := t, led := st.led } G Q κ := by
  have hmem : ∀ q, q ∈ pushM st.op s ↔ q ∈ st.op ∨ q = s := by intro q; rw [(pushM_perm st.op s).mem_iff]; simp
  refine ⟨push_heap h.heap s, ?_, ?_, ?_, ?_, ?_, ?_, ?_, h.known, h.start.push f s t, ?_, h.low, ?_, h.top⟩
  · have hp := (pushM_perm st.op s).map (·.turn)
    rw [hp.nodup_iff, List.map_append, List.nodup_append]
    refine ⟨h.uniq, by simp, ?_⟩
    intro a ha b hb e
    obtain ⟨q, hq', rfl⟩ := List.mem_map.1 ha
    simp at hb
    exact hn q hq' (e.trans hb)
  · intro q hq'
    rcases (hmem q).1 hq' with h1 | rfl
    · exact Nat.le_trans (h.tle q h1) ht2
    · exact ht1
  · intro s1 h1 s2 h2
    rcases (hmem s1).1 h1 with g1 | g1 <;> rcases (hmem s2).1 h2 with g2 | g2
    · exact h.far s1 g1 s2 g2
    · rw [g2]; exact (hq s1 g1).2.1
    · rw [g1]; exact (hq s2 g2).1
    · rw [g1, g2]; omega
  · intro s1 h1 s2 h2 e1 e2
    rcases (hmem s1).1 h1 with g1 | g1 <;> rcases (hmem s2).1 h2 with g2 | g2
    · exact h.ord s1 g1 s2 g2 e1 e2
    · rw [g2] at e1 e2 ⊢; exact ((hq s1 g1).2.2.1 e1).1 e2
    · rw [g1] at e1 e2 ⊢; exact ((hq s2 g2).2.2.1 e1.symm).2 e2
    · rw [g1, g2] at e2; omega
  · intro s1 h1 s2 h2 e1
    rcases (hmem s1).1 h1 with g1 | g1 <;> rcases (hmem s2).1 h2 with g2 | g2
    · exact h.ord2 s1 g1 s2 g2 e1
    · rw [g2] at e1 ⊢; exact (hq s1 g1).2.2.2.1 e1
    · rw [g1] at e1 ⊢; exact (hq s2 g2).2.2.2.2 e1
    · rw [g1, g2] at e1; omega
  · intro x y hx hy hr q hq'
    rcases (hmem q).1 hq' with h1 | rfl
    · exact h.mono x y hx hy hr q h1
    · exact hm x y hx hy hr
  · intro q hq'
    rcases (hmem q).1 hq' with h1 | rfl
    · exact h.spots q h1
    · exact hc
  · intro x y hx hy hr hh
    have := h.next x y hx hy hr hh
    unfold NextK at this ⊢
    split at this
    · rename_i hs; rw [if_pos hs]; exact this.push f s t
    · rename_i hs; rw [if_neg hs]; exact ⟨fun a => (this.1 a).push f s t, fun a => (this.2 a).push f s t⟩
  · intro q hq'
    rcases (hmem q).1 hq' with h1 | rfl
    · exact h.lowS q h1
    · exact hl
theorem InvK.change {hole : Option (Nat × Nat)} {st : Srch} {G Q : Nat → Nat → Nat} {κ : Nat → Nat} (h : InvK o f hole st G Q κ) (p : Spot) (dx dy kind nk : Nat) (hpt : p.turn ≤ st.turns)
    (hx : p.x + dx ≤ o.length) (hy : p.y + dy ≤ f.length) (hnk : nk ≤ 2 * κ p.turn + 1)
    (hq : ∀ q ∈ st.op, p.far ≤ q.far ∧ q.far ≤ p.far + 1 ∧ (q.far = p.far → κ p.turn < κ q.turn) ∧ (q.far = p.far + 1 → κ q.turn < nk))
    (hm : ∀ x y, x ≤ o.length → y ≤ f.length → st.at f.length x y ≠ 0 → le2 (G x y) (Q x y) p.far (κ p.turn))
    (hc : CostK o f st G Q (p.x + dx) (p.y + dy) kind (p.far + 1) nk) (hl : Low o f (p.x + dx) (p.y + dy) (p.far + 1) nk) :
    ∃ κ', (∀ t, t ≤ st.turns → κ' t = κ t) ∧ InvK o f hole (changeM f.length st p dx dy kind) G Q κ' ∧ NearK f (changeM f.length st p dx dy kind) G Q κ' (p.x + dx) (p.y + dy) (p.far + 1) nk ∧
      (changeM f.length st p dx dy kind).led = st.led ∧ st.turns ≤ (changeM f.length st p dx dy kind).turns ∧ (∀ x y c k, NearK f st G Q κ x y c k → NearK f (changeM f.length st p dx dy kind) G Q κ' x y c k) ∧
      (∀ q ∈ (changeM f.length st p dx dy kind).op, p.far ≤ q.far ∧ q.far ≤ p.far + 1 ∧ (q.far = p.far → κ' p.turn < κ' q.turn) ∧ (q.far = p.far + 1 → κ' q.turn < nk + 1)) := by
  unfold changeM
  split
  · have hk : ∀ t, t ≤ st.turns → (fun t => if t = st.turns + 1 then nk else κ t) t = κ t := by intro t ht; simp only; rw [if_neg (by omega)]
    have hnew : (fun t => if t = st.turns + 1 then nk else κ t) (st.turns + 1) = nk := by simp
    generalize (fun t => if t = st.turns + 1 then nk else κ t) = κ' at hk hnew
    have h' := h.kap o f hk
    have hpush := h'.push o f ⟨p.x + dx, p.y + dy, p.far + 1, st.turns + 1, kind⟩ (st.turns + 1) (fun q hq' => by have := h.tle q hq'; show q.turn ≠ st.turns + 1; omega) (Nat.le_refl _) (by omega) (by
        intro q hq'
        obtain ⟨a, b, c, d⟩ := hq q hq'
        have ht := h.tle q hq'
        simp only [hnew, hk _ ht]
        refine ⟨by omega, by omega, fun e => ⟨fun _ => d e, fun hlt => by omega⟩, fun e => by omega, fun e => ?_⟩
        have := c (by omega)
        omega) (by
        intro x y hx' hy' hr
        have := hm x y hx' hy' hr
        unfold le2 at *
        simp only [hnew]
        omega) (by simp only [hnew]; exact hc) (by simp only [hnew]; exact hl)
    refine ⟨κ', hk, hpush, .inr ⟨⟨p.x + dx, p.y + dy, p.far + 1, st.turns + 1, kind⟩, (pushM_perm st.op _).mem_iff.2 (by simp), rfl, rfl, by simp only [hnew]; exact .inr ⟨rfl, Nat.le_refl _⟩⟩, rfl, by simp, fun x y c k hn => (hn.kap f h.tle hk).push f _ _, ?_⟩
    intro q hq'
    rw [(pushM_perm st.op _).mem_iff, List.mem_append] at hq'
    rcases hq' with hq' | hq'
    · obtain ⟨a, b, c, d⟩ := hq q hq'
      rw [hk _ hpt, hk _ (h.tle q hq')]
      exact ⟨a, b, c, fun e => Nat.lt_succ_of_lt (d e)⟩
    · simp at hq'
      subst hq'
      simp only [hnew]
      exact ⟨by omega, by omega, fun e => by omega, fun _ => by omega⟩
  · rename_i h0
    refine ⟨κ, fun _ _ => rfl, h, .inl ⟨h0, ?_⟩, rfl, Nat.le_refl _, fun _ _ _ _ hn => hn, fun q hq' => ?_⟩
    · have := hm _ _ hx hy h0
      unfold le2 at *
      omega
    · obtain ⟨a, b, c, d⟩ := hq q hq'
      exact ⟨a, b, c, fun e => Nat.lt_succ_of_lt (d e)⟩

theorem InvK.round {st : Srch} {G Q : Nat → Nat → Nat} {κ : Nat → Nat} (hi : Inv o f st) (h : InvK o f none st G Q κ) (he : st.at f.length o.length f.length = 0) : ∃ G' Q' κ', InvK o f none (roundM o f st) G' Q' κ' := by
  have hne := hi.open_ne he
  have hperm := pop_perm st.op hne
  have hmem : ∀ q, q ∈ st.op ↔ q ∈ popR st.op ∨ q = popS st.op := by intro q; rw [← hperm.mem_iff]; simp
  have hu := h.uniq
  rw [← (hperm.map (·.turn)).nodup_iff, List.map_append, List.nodup_append] at hu
  obtain ⟨hu1, _, hu2⟩ := hu
  have hut : ∀ q ∈ popR st.op, q.turn ≠ (popS st.op).turn := fun q hq => hu2 _ (List.mem_map.2 ⟨q, hq, rfl⟩) _ (by simp)
  obtain ⟨hh, _, hmin⟩ := pop_heap h.heap hne
  have pmem : popS st.op ∈ st.op := (hmem _).2 (.inr rfl)
  have hmin1 : ∀ s ∈ st.op, (popS st.op).far ≤ s.far ∧ ((popS st.op).far = s.far → (popS st.op).turn ≤ s.turn) := by
    intro s hs
    have := hmin s hs
    unfold Spot.lt at this
    omega
  have hmin2 : ∀ s ∈ st.op, le2 (popS st.op).far (κ (popS st.op).turn) s.far (κ s.turn) := by
    intro s hs
    obtain ⟨a, b⟩ := hmin1 s hs
    by_cases e : (popS st.op).far = s.far
    · refine .inr ⟨e, ?_⟩
      by_cases e2 : (popS st.op).turn = s.turn
      · rw [e2]; exact Nat.le_refl _
      · have := h.ord _ pmem s hs e (by have := b e; omega)
        omega
    · exact .inl (by omega)
  obtain ⟨px, py, _, ptn, pl⟩ := hi.spots _ pmem
  have pc := h.spots _ pmem
  have plow := h.lowS _ pmem
  have pm : ∀ x y, x ≤ o.length → y ≤ f.length → st.at f.length x y ≠ 0 → le2 (G x y) (Q x y) (popS st.op).far (κ (popS st.op).turn) := fun x y a b c => h.mono x y a b c _ pmem
  have hrel : ∀ q ∈ popR st.op, (popS st.op).far ≤ q.far ∧ q.far ≤ (popS st.op).far + 1 ∧ (q.far = (popS st.op).far → κ (popS st.op).turn < κ q.turn) ∧ (q.far = (popS st.op).far + 1 → κ q.turn < 2 * κ (popS st.op).turn) := by
    intro q hq
    have hq' := (hmem q).2 (.inl hq)
    refine ⟨(hmin1 q hq').1, h.far q hq' _ pmem, fun e => ?_, fun e => h.ord2 q hq' _ pmem e⟩
    have := (hmin1 q hq').2 e.symm
    have := hut q hq
    exact h.ord _ pmem q hq' e.symm (by omega)
  have ptop : (popS st.op).x = o.length → (popS st.op).y = f.length → (popS st.op).far = dist o f ∧ κ (popS st.op).turn ≤ key o f := by
    intro e1 e2
    obtain ⟨s, hs, g1, g2⟩ := goodK o f h he
    have h1 := hmin2 s hs
    have h2 := plow.1
    have e3 : rd o f o.length f.length = 0 := by unfold rd; simp [dist_nil_l]
    rw [e1, e2, e3] at h2
    unfold le2 at h1
    have e4 : rd o f s.x s.y = 0 := by omega
    rw [e4] at g2
    simp at g2
    omega
  unfold roundM settleM
  simp only
  generalize hs : popS st.op = s at *
  have hat : ∀ x y, Srch.at { op := popR st.op, turns := st.turns, led := st.led } f.length x y = st.at f.length x y := fun _ _ => rfl
  rw [hat]
  split
  · rename_i h0
    have hset := fun x y (hy : y ≤ f.length) => at_set (st := st) (n := o.length) (m := f.length) (x0 := s.x) (y0 := s.y) (x := x) (y := y) (k := s.kind) hi.len px py hy (popR st.op) st.turns
    generalize hG : (fun x y => if x = s.x ∧ y = s.y then s.far else G x y) = G'
    generalize hQ : (fun x y => if x = s.x ∧ y = s.y then κ s.turn else Q x y) = Q'
    have hG1 : G' s.x s.y = s.far := by rw [← hG]; simp
    have hQ1 : Q' s.x s.y = κ s.turn := by rw [← hQ]; simp
    have hG2 : ∀ x y, ¬ (x = s.x ∧ y = s.y) → G' x y = G x y ∧ Q' x y = Q x y := by intro x y hn; rw [← hG, ← hQ]; simp only; rw [if_neg hn, if_neg hn]; exact ⟨rfl, rfl⟩
    have hG3 : ∀ x y, st.at f.length x y ≠ 0 → G' x y = G x y ∧ Q' x y = Q x y := by
      intro x y hr
      refine hG2 x y ?_
      rintro ⟨rfl, rfl⟩
      exact hr h0
    have hmono : ∀ x y, y ≤ f.length → st.at f.length x y ≠ 0 → Srch.at { op := popR st.op, turns := st.turns, led := st.led.set (idx f.length s.x s.y) s.kind } f.length x y ≠ 0 := by
      intro x y hy hr
      rw [hset x y hy]
      split
      · exact pl.pos
      · exact hr
    have hcost : ∀ x y k c d, y ≤ f.length → CostK o f st G Q x y k c d → CostK o f { op := popR st.op, turns := st.turns, led := st.led.set (idx f.length s.x s.y) s.kind } G' Q' x y k c d := by
      intro x y k c d hy hc
      rcases hc with hc | ⟨h1, h2, h3, h4, h5, h6, h7⟩ | ⟨h1, h2, h3, h4, h5, h6⟩ | ⟨h1, h2, h3, h4, h5, h6⟩
      · exact .inl hc
      · exact .inr (.inl ⟨h1, h2, h3, hmono _ _ (by omega) h4, h5, by rw [(hG3 _ _ h4).1]; exact h6, by rw [(hG3 _ _ h4).2]; exact h7⟩)
      · exact .inr (.inr (.inl ⟨h1, h2, hmono _ _ hy h3, h4, by rw [(hG3 _ _ h3).1]; exact h5, by rw [(hG3 _ _ h3).2]; exact h6⟩))
      · exact .inr (.inr (.inr ⟨h1, h2, hmono _ _ (by omega) h3, h4, by rw [(hG3 _ _ h3).1]; exact h5, by rw [(hG3 _ _ h3).2]; exact h6⟩))
    have hnear : ∀ x y c k, y ≤ f.length → NearK f st G Q κ x y c k → NearK f { op := popR st.op, turns := st.turns, led := st.led.set (idx f.length s.x s.y) s.kind } G' Q' κ x y c k := by
      intro x y c k hy hn
      rcases hn with ⟨h1, h2⟩ | ⟨q, hq, e1, e2, e3⟩
      · exact .inl ⟨hmono x y hy h1, by rw [(hG3 _ _ h1).1, (hG3 _ _ h1).2]; exact h2⟩
      · by_cases e : x = s.x ∧ y = s.y
        · left
          obtain ⟨rfl, rfl⟩ := e
          refine ⟨by rw [hset _ _ hy, if_pos ⟨rfl, rfl⟩]; exact pl.pos, ?_⟩
          rw [hG1, hQ1]
          have := hmin2 q hq
          unfold le2 at *
          omega
        · rcases (hmem q).1 hq with hq | rfl
          · exact .inr ⟨q, hq, e1, e2, e3⟩
          · exact absurd ⟨e1.symm, e2.symm⟩ e
    have hGle : ∀ x y, x ≤ o.length → y ≤ f.length → Srch.at { op := popR st.op, turns := st.turns, led := st.led.set (idx f.length s.x s.y) s.kind } f.length x y ≠ 0 → le2 (G' x y) (Q' x y) s.far (κ s.turn) := by
      intro x y hx hy hr
      by_cases e : x = s.x ∧ y = s.y
      · rw [e.1, e.2, hG1, hQ1]; exact .inr ⟨rfl, Nat.le_refl _⟩
      · rw [hset x y hy, if_neg e] at hr
        rw [(hG2 x y e).1, (hG2 x y e).2]
        exact pm x y hx hy hr
    have hhere : Srch.at { op := popR st.op, turns := st.turns, led := st.led.set (idx f.length s.x s.y) s.kind } f.length s.x s.y ≠ 0 := by rw [hset _ _ py, if_pos ⟨rfl, rfl⟩]; exact pl.pos
    have i0 : InvK o f (some (s.x, s.y)) { op := popR st.op, turns := st.turns, led := st.led.set (idx f.length s.x s.y) s.kind } G' Q' κ := by
      refine ⟨hh, hu1, fun q hq => h.tle q ((hmem q).2 (.inl hq)), fun q1 h1 q2 h2 => h.far q1 ((hmem q1).2 (.inl h1)) q2 ((hmem q2).2 (.inl h2)), fun q1 h1 q2 h2 => h.ord q1 ((hmem q1).2 (.inl h1)) q2 ((hmem q2).2 (.inl h2)), fun q1 h1 q2 h2 => h.ord2 q1 ((hmem q1).2 (.inl h1)) q2 ((hmem q2).2 (.inl h2)), ?_, ?_, ?_, hnear 0 0 0 0 (by omega) h.start, ?_, ?_, fun q hq => h.lowS q ((hmem q).2 (.inl hq)), ?_⟩
      · intro x y hx hy hr q hq
        have h1 := hGle x y hx hy hr
        have h2 := hmin2 q ((hmem q).2 (.inl hq))
        unfold le2 at *
        omega
      · intro q hq
        have hq' := (hmem q).2 (.inl hq)
        exact hcost _ _ _ _ _ (hi.spots q hq').2.1 (h.spots q hq')
      · intro x y hx hy hr
        by_cases e : x = s.x ∧ y = s.y
        · rw [hset x y hy, if_pos e, e.1, e.2, hG1, hQ1]
          exact hcost _ _ _ _ _ py pc
        · rw [hset x y hy, if_neg e] at hr ⊢
          rw [(hG2 x y e).1, (hG2 x y e).2]
          exact hcost _ _ _ _ _ hy (h.known x y hx hy hr)
      · intro x y hx hy hr hne'
        have e : ¬ (x = s.x ∧ y = s.y) := by rintro ⟨rfl, rfl⟩; exact hne' rfl
        rw [hset x y hy, if_neg e] at hr
        have := h.next x y hx hy hr (by simp)
        unfold NextK at this ⊢
        rw [(hG2 x y e).1, (hG2 x y e).2]
        split at this
        · rename_i hs'
          have hlt := same_lt o f hs'
          rw [if_pos hs']
          exact hnear _ _ _ _ (by omega) this
        · rename_i hs'
          rw [if_neg hs']
          exact ⟨fun a => hnear _ _ _ _ hy (this.1 a), fun a => hnear _ _ _ _ (by omega) (this.2 a)⟩
      · intro x y hx hy hr
        by_cases e : x = s.x ∧ y = s.y
        · rw [e.1, e.2, hG1, hQ1]; exact plow
        · rw [hset x y hy, if_neg e] at hr
          rw [(hG2 x y e).1, (hG2 x y e).2]
          exact h.low x y hx hy hr
      · intro hr
        by_cases e : o.length = s.x ∧ f.length = s.y
        · have h1 : G' o.length f.length = s.far := by rw [e.1, e.2]; exact hG1
          have h2 : Q' o.length f.length = κ s.turn := by rw [e.1, e.2]; exact hQ1
          rw [h1, h2]
          exact ptop e.1.symm e.2.symm
        · rw [hset _ _ (Nat.le_refl _), if_neg e] at hr
          exact absurd he hr
    have close : ∀ (S : Srch) (K : Nat → Nat), InvK o f (some (s.x, s.y)) S G' Q' K → NextK o f S G' Q' K s.x s.y → InvK o f none S G' Q' K := by
      intro S K hS hN
      refine ⟨hS.heap, hS.uniq, hS.tle, hS.far, hS.ord, hS.ord2, hS.mono, hS.spots, hS.known, hS.start, ?_, hS.low, hS.lowS, hS.top⟩
      intro x y hx hy hr _
      by_cases e : x = s.x ∧ y = s.y
      · rw [e.1, e.2]; exact hN
      · exact hS.next x y hx hy hr (by simp only [ne_eq, Option.some.injEq, Prod.mk.injEq]; intro hh; exact e ⟨hh.1.symm, hh.2.symm⟩)
    split
    · rename_i hsame
      have hlt := same_lt o f hsame
      refine ⟨G', Q', κ, close _ _ (i0.push o f ⟨s.x + 1, s.y + 1, s.far, s.turn, 32⟩ st.turns hut ptn (Nat.le_refl _) ?_ hGle (.inr (.inl ⟨rfl, by simp, by simp, by simpa using hhere, by simpa using hsame, by simp [hG1], by simp [hQ1]⟩)) (plow.keep o f hsame)) ?_⟩
      · intro q hq
        obtain ⟨a, b, c, d⟩ := hrel q hq
        have hq' := (hmem q).2 (.inl hq)
        refine ⟨by simp only; omega, by simp only; omega, fun e => ⟨fun e2 => ?_, fun e2 => ?_⟩, fun e => d e, fun e => by simp only at e; omega⟩
        · have := (hmin1 q hq').2 e.symm
          simp only at e2
          omega
        · exact c e
      · unfold NextK
        rw [if_pos hsame]
        exact .inr ⟨⟨s.x + 1, s.y + 1, s.far, s.turn, 32⟩, (pushM_perm _ _).mem_iff.2 (by simp), rfl, rfl, by rw [hG1, hQ1]; exact .inr ⟨rfl, Nat.le_refl _⟩⟩
    · rename_i hsame
      have hsf : same o f s.x s.y = false := by simpa using hsame
      have key1 : ∃ (st2 : Srch) (κ2 : Nat → Nat), st2 = (if s.x < o.length then changeM f.length { op := popR st.op, turns := st.turns, led := st.led.set (idx f.length s.x s.y) s.kind } s 1 0 45 else { op := popR st.op, turns := st.turns, led := st.led.set (idx f.length s.x s.y) s.kind }) ∧
          κ2 s.turn = κ s.turn ∧ st.turns ≤ st2.turns ∧ InvK o f (some (s.x, s.y)) st2 G' Q' κ2 ∧ (s.x < o.length → NearK f st2 G' Q' κ2 (s.x + 1) s.y (s.far + 1) (2 * κ s.turn)) ∧ st2.led = st.led.set (idx f.length s.x s.y) s.kind ∧
          (∀ q ∈ st2.op, s.far ≤ q.far ∧ q.far ≤ s.far + 1 ∧ (q.far = s.far → κ2 s.turn < κ2 q.turn) ∧ (q.far = s.far + 1 → κ2 q.turn < 2 * κ s.turn + 1)) := by
        split
        · rename_i hxl
          obtain ⟨κ2, c1, c2, c3, c4, c5, c6, c7⟩ := i0.change o f s 1 0 45 (2 * κ s.turn) ptn (by omega) (by omega) (by omega) hrel hGle (.inr (.inr (.inl ⟨rfl, by omega, by simpa using hhere, by simpa using hsf, by simp [hG1], by simp [hQ1]⟩))) (by simpa using plow.drop o f hsf hxl py)
          exact ⟨_, κ2, rfl, c1 _ ptn, c5, c2, fun _ => by simpa using c3, c4, c7⟩
        · exact ⟨_, κ, rfl, rfl, Nat.le_refl _, i0, fun hh => absurd hh (by assumption), rfl, fun q hq => by
            obtain ⟨a, b, c, d⟩ := hrel q hq
            exact ⟨a, b, c, fun e => Nat.lt_succ_of_lt (d e)⟩⟩
      obtain ⟨st2, κ2, hst2, k1, k2, j1, j2, j3, j4⟩ := key1
      rw [← hst2]
      have hat2 : ∀ x y, st2.at f.length x y = Srch.at { op := popR st.op, turns := st.turns, led := st.led.set (idx f.length s.x s.y) s.kind } f.length x y := by intro x y; unfold Srch.at; rw [j3]
      split
      · rename_i hyl
        obtain ⟨κ3, c1, c2, c3, c4, c5, c6, c7⟩ := j1.change o f s 0 1 43 (2 * κ s.turn + 1) (by omega) (by omega) (by omega) (by omega) j4 (fun x y hx hy hr => by rw [k1]; exact hGle x y hx hy (by rw [← hat2]; exact hr)) (.inr (.inr (.inr ⟨rfl, by omega, by rw [hat2]; simpa using hhere, by simpa using hsf, by simp [hG1], by simp [hQ1]⟩))) (by simpa using plow.add o f hsf px hyl)
        refine ⟨G', Q', κ3, close _ _ c2 ?_⟩
        unfold NextK
        rw [if_neg hsame, hG1, hQ1]
        exact ⟨fun hx => c6 _ _ _ _ (j2 hx), fun _ => by simpa using c3⟩
      · rename_i hyl
        refine ⟨G', Q', κ2, close _ _ j1 ?_⟩
        unfold NextK
        rw [if_neg hsame, hG1, hQ1]
        exact ⟨j2, fun hy => absurd hy hyl⟩
  · rename_i h0
    refine ⟨G, Q, κ, ?_⟩
    have hnear : ∀ x y c k, x ≤ o.length → y ≤ f.length → NearK f st G Q κ x y c k → NearK f { op := popR st.op, turns := st.turns, led := st.led } G Q κ x y c k := by
      intro x y c k hx hy hn
      rcases hn with h1 | ⟨q, hq, e1, e2, e3⟩
      · exact .inl h1
      · rcases (hmem q).1 hq with hq' | rfl
        · exact .inr ⟨q, hq', e1, e2, e3⟩
        · left
          subst e1 e2
          refine ⟨h0, ?_⟩
          have := pm _ _ hx hy h0
          unfold le2 at *
          omega
    refine ⟨hh, hu1, fun q hq => h.tle q ((hmem q).2 (.inl hq)), fun q1 h1 q2 h2 => h.far q1 ((hmem q1).2 (.inl h1)) q2 ((hmem q2).2 (.inl h2)), fun q1 h1 q2 h2 => h.ord q1 ((hmem q1).2 (.inl h1)) q2 ((hmem q2).2 (.inl h2)), fun q1 h1 q2 h2 => h.ord2 q1 ((hmem q1).2 (.inl h1)) q2 ((hmem q2).2 (.inl h2)),
      fun x y hx hy hr q hq => h.mono x y hx hy hr q ((hmem q).2 (.inl hq)), fun q hq => h.spots q ((hmem q).2 (.inl hq)), h.known, hnear 0 0 0 0 (by omega) (by omega) h.start, ?_, h.low, fun q hq => h.lowS q ((hmem q).2 (.inl hq)), h.top⟩
    intro x y hx hy hr _
    have := h.next x y hx hy hr (by simp)
    unfold NextK at this ⊢
    split at this
    · rename_i hs'
      have hlt := same_lt o f hs'
      rw [if_pos hs']
      exact hnear _ _ _ _ (by omega) (by omega) this
    · rename_i hs'
      rw [if_neg hs']
      exact ⟨fun a => hnear _ _ _ _ (by omega) hy (this.1 a), fun a => hnear _ _ _ _ hx (by omega) (this.2 a)⟩

theorem startK : InvK o f none (startM o f) (fun _ _ => 0) (fun _ _ => 0) (fun _ => 0) := by
  have h0 : ∀ x y, (startM o f).at f.length x y = 0 := by
    intro x y
    simp [startM, Srch.at, List.getD, List.getElem?_replicate]
    split <;> rfl
  have hop : ∀ s ∈ (startM o f).op, s = ⟨0, 0, 0, 0, 46⟩ := by intro s hs; simpa [startM] using hs
  refine ⟨?_, by simp [startM], ?_, ?_, ?_, ?_, fun x y _ _ hr => absurd (h0 x y) hr, ?_, fun x y _ _ hr => absurd (h0 x y) hr, .inr ⟨⟨0, 0, 0, 0, 46⟩, by simp [startM], rfl, rfl, .inr ⟨rfl, Nat.le_refl _⟩⟩, fun x y _ _ hr => absurd (h0 x y) hr, fun x y _ _ hr => absurd (h0 x y) hr, ?_, fun hr => absurd (h0 _ _) hr⟩
  · intro i hi hl; simp [startM] at hl; omega
  · intro s hs; rw [hop s hs]; exact Nat.zero_le _
  · intro s hs q hq; rw [hop s hs, hop q hq]; simp
  · intro s hs q hq _ hlt; rw [hop s hs, hop q hq] at hlt; simp at hlt
  · intro s hs q hq e; rw [hop s hs, hop q hq] at e; simp at e
  · intro s hs; rw [hop s hs]; exact .inl ⟨rfl, rfl, rfl, rfl, rfl⟩
  · intro s hs; rw [hop s hs]; exact ⟨by simp [rd], fun _ => by simp [kb]⟩
theorem searchM_K : ∀ (k : Nat) (st : Srch) (G Q : Nat → Nat → Nat) (κ : Nat → Nat), Inv o f st → InvK o f none st G Q κ → ∃ G' Q' κ', InvK o f none (searchM o f k st) G' Q' κ' := by
  intro k
  induction k with
  | zero => intro st G Q κ _ hG; exact ⟨G, Q, κ, hG⟩
  | succ k ih =>
    intro st G Q κ hi hG
    by_cases he : st.at f.length o.length f.length = 0
    · simp only [searchM, he, if_true]
      obtain ⟨G1, Q1, κ1, hG1⟩ := hG.round o f hi he
      exact ih _ G1 Q1 κ1 (hi.round (hi.open_ne he)).1 hG1
    · rw [searchM_done he]; exact ⟨G, Q, κ, hG⟩
theorem backM_spec {st : Srch} {G Q : Nat → Nat → Nat} {κ : Nat → Nat} (h : InvK o f none st G Q κ) : ∀ (k x y : Nat), x + y ≤ k → x ≤ o.length → y ≤ f.length → st.at f.length x y ≠ 0 →
    G x y + rd o f x y = dist o f → Q x y * 2 ^ rd o f x y + kb o f x y = key o f → (backM o f st k x y).reverse ++ sp o f x y = spec o f := by
  intro k
  induction k with
  | zero =>
    intro x y hk _ _ _ _ _
    obtain rfl : x = 0 := by omega
    obtain rfl : y = 0 := by omega
    simp [backM, sp]
  | succ k ih =>
    intro x y hk hx hy hr hD hK
    unfold backM
    split
    · rename_i e
      rw [e.1, e.2]
      simp [sp]
    · rename_i hne
      have hc := h.known x y hx hy hr
      rcases hc with ⟨_, h1, h2, _⟩ | ⟨h1, h2, h3, h4, h5, h6, h7⟩ | ⟨h1, h2, h3, h4, h5, h6⟩ | ⟨h1, h2, h3, h4, h5, h6⟩
      · exact absurd ⟨h1, h2⟩ hne
      · rw [if_pos h1]
        obtain ⟨x, rfl⟩ : ∃ x', x = x' + 1 := ⟨x - 1, by omega⟩
        obtain ⟨y, rfl⟩ : ∃ y', y = y' + 1 := ⟨y - 1, by omega⟩
        simp only [Nat.add_sub_cancel] at *
        have hs := at_same o f h5
        have := ih x y (by omega) (by omega) (by omega) h4 (by rw [rd_same o f h5, ← h6]; exact hD) (by rw [rd_same o f h5, hs.1, ← h7]; exact hK)
        rw [hs.2] at this
        simpa using this
      · rw [if_neg (by omega), if_pos h1]
        obtain ⟨x, rfl⟩ : ∃ x', x = x' + 1 := ⟨x - 1, by omega⟩
        simp only [Nat.add_sub_cancel] at *
        have hl := (h.low x y (by omega) hy h3).1
        have hr1 := rd_x o f y (show x < o.length by omega)
        have hd : Drops o f x y := by
          by_cases hd : Drops o f x y
          · exact hd
          · have hy' : y < f.length := by
              by_cases ey : y < f.length
              · exact ey
              · exact absurd ⟨by omega, .inl (by omega)⟩ hd
            have := (at_add o f h4 (by omega) hy' hd).2.2.2 (by omega)
            omega
        obtain ⟨e1, e2, e3⟩ := at_drop o f h4 hy hd
        have := ih x y (by omega) (by omega) (by omega) h3 (by omega) (by rw [e1, e2, pw1, ← pw2, ← h6]; exact hK)
        rw [e3] at this
        simpa using this
      · rw [if_neg (by omega), if_neg (by omega), h1]
        obtain ⟨y, rfl⟩ : ∃ y', y = y' + 1 := ⟨y - 1, by omega⟩
        simp only [Nat.add_sub_cancel] at *
        have hl := h.low x y hx (by omega) h3
        have hl1 := hl.1
        have hr1 := rd_y o f x (show y < f.length by omega)
        have e0 : rd o f x y = rd o f x (y + 1) + 1 := by omega
        have hl2 := hl.2 (by omega)
        rw [e0, pw1] at hl2
        rw [h6, pw3] at hK
        have hd : ¬ Drops o f x y := by
          intro hd
          obtain ⟨e1, e2, _⟩ := at_drop o f h4 (by omega) hd
          have h8 := kb_lt o f (x + 1) y
          rw [show rd o f (x + 1) y = rd o f x (y + 1) by omega] at h8
          omega
        obtain ⟨e1, e2, e3, _⟩ := at_add o f h4 hx (by omega) hd
        have := ih x y (by omega) (by omega) (by omega) h3 (by omega) (by rw [e1, e2, pw1]; omega)
        rw [e3] at this
        simpa using this
/-- the way that is found is the one that the document asks for -/
theorem wayM_spec : wayM o f = spec o f := by
  obtain ⟨_, he⟩ := foundM_inv o f
  obtain ⟨G, Q, κ, hG⟩ := searchM_K o f (mu (startM o f)) (startM o f) _ _ _ (startM_inv o f) (startK o f)
  have hK : InvK o f none (foundM o f) G Q κ := hG
  have e3 : rd o f o.length f.length = 0 := by unfold rd; simp [dist_nil_l]
  have e4 : kb o f o.length f.length = 0 := by unfold kb; rw [List.drop_length, List.drop_length]; rfl
  have e5 : sp o f o.length f.length = [] := by unfold sp; rw [List.drop_length, List.drop_length]; rfl
  obtain ⟨t1, t2⟩ := hK.top he
  have hl := hK.low o.length f.length (Nat.le_refl _) (Nat.le_refl _) he
  have hl2 := hl.2 (by rw [e3, t1]; omega)
  rw [e3, e4] at hl2
  have := backM_spec o f hK (o.length + f.length) o.length f.length (Nat.le_refl _) (Nat.le_refl _) (Nat.le_refl _) he (by rw [e3, t1]; omega) (by rw [e3, e4]; simp at hl2 ⊢; omega)
  rw [e5] at this
  unfold wayM
  simpa using this
end
end Dn

namespace Go.Proofs.YtcclgodahlinbaaDoor
open Go.RowKit Go
set_option maxRecDepth 100000

/-! ### ways between texts whose lines are all different -/
section
variable {α : Type} [DecidableEq α]
theorem dist_new_r : ∀ (l r : List α) (b : α), b ∉ l → Dn.dist l (b :: r) = Dn.dist l r + 1
  | [], r, b, _ => by rw [Dn.dist_nil_l, Dn.dist_nil_l]; simp
  | c :: l, r, b, h => by
    have hne : c ≠ b := fun e => h (by simp [e])
    have ih := dist_new_r l r b (fun e => h (List.mem_cons_of_mem _ e))
    have h1 := Dn.dist_l1 c l r
    rw [Dn.dist_ne hne, ih]
    omega
theorem dist_new_l (l r : List α) (a : α) (h : a ∉ r) : Dn.dist (a :: l) r = Dn.dist l r + 1 := by
  rw [Dn.dist_comm _ _ _ (Nat.le_refl _), dist_new_r r l a h, Dn.dist_comm _ _ _ (Nat.le_refl _)]
theorem dist_self (l : List α) : Dn.dist l l = 0 := by
  induction l with
  | nil => rw [Dn.dist_nil_l]; rfl
  | cons a l ih => rw [Dn.dist_same, ih]
theorem spec_keep (a : α) (l r : List α) : Dn.spec (a :: l) (a :: r) = ⟨32, a⟩ :: Dn.spec l r := by rw [Dn.spec_cc, if_pos rfl]
theorem spec_keeps (A l r : List α) : Dn.spec (A ++ l) (A ++ r) = A.map (fun a => ⟨32, a⟩) ++ Dn.spec l r := by
  induction A with
  | nil => rfl
  | cons a A ih => rw [List.cons_append, List.cons_append, spec_keep, ih]; rfl
theorem spec_self (l : List α) : Dn.spec l l = l.map (fun a => ⟨32, a⟩) := by
  have := spec_keeps l [] []
  rw [List.append_nil] at this
  rw [this, Dn.spec_nn, List.append_nil]
theorem spec_drop {a b : α} {l r : List α} (h : a ≠ b) (hd : Dn.dist l (b :: r) ≤ Dn.dist (a :: l) r) : Dn.spec (a :: l) (b :: r) = ⟨45, a⟩ :: Dn.spec l (b :: r) := by rw [Dn.spec_cc, if_neg h, if_pos hd]
theorem spec_add {a b : α} {l r : List α} (h : a ≠ b) (hd : ¬ Dn.dist l (b :: r) ≤ Dn.dist (a :: l) r) : Dn.spec (a :: l) (b :: r) = ⟨43, b⟩ :: Dn.spec (a :: l) r := by rw [Dn.spec_cc, if_neg h, if_neg hd]
/-- a line in another's place -/
theorem spec_change {a b m : α} {l r : List α} (h1 : a ≠ b) (h2 : a ∉ m :: r) (h3 : b ∉ m :: l) (h4 : m ∉ l) : Dn.spec (a :: m :: l) (b :: m :: r) = ⟨45, a⟩ :: ⟨43, b⟩ :: Dn.spec (m :: l) (m :: r) := by
  rw [spec_drop h1 (by rw [dist_new_r _ _ _ h3, dist_new_l _ _ _ h2]; exact Nat.le_refl _)]
  rw [spec_add (fun e => h3 (by simp [e])) (by rw [dist_new_r _ _ _ (fun e => h3 (List.mem_cons_of_mem _ e)), dist_new_r _ _ _ h4, Dn.dist_same]; omega)]
theorem spec_last {a b : α} (h : a ≠ b) : Dn.spec [a] [b] = [⟨45, a⟩, ⟨43, b⟩] := by
  rw [spec_drop h (by rw [Dn.dist_nil_l, Dn.dist_nil_r]; exact Nat.le_refl _), Dn.spec_nc, Dn.spec_nn]
/-- a line more -/
theorem spec_more {m : α} {B : List α} (h : m ∉ B) (hn : B.Nodup) : Dn.spec B (m :: B) = ⟨43, m⟩ :: B.map (fun a => ⟨32, a⟩) := by
  cases B with
  | nil => rfl
  | cons b B =>
    rw [List.nodup_cons] at hn
    rw [spec_add (fun e => h (by simp [e])) (by rw [dist_new_r _ _ _ (fun e => h (List.mem_cons_of_mem _ e)), dist_new_r _ _ _ hn.1, dist_self, dist_self]; omega), spec_self]
/-- a line less -/
theorem spec_less {c : α} {B : List α} (h : c ∉ B) : Dn.spec (c :: B) B = ⟨45, c⟩ :: B.map (fun a => ⟨32, a⟩) := by
  cases B with
  | nil => rfl
  | cons b B =>
    rw [spec_drop (fun e => h (by simp [e])) (by rw [dist_self]; omega), spec_self]
end

/-! ### Diff and Apply of lines -/
theorem diff_text {L R : List ByteArray} {c : Nat} {m : Int} {w : World} (h : Plain L) (h1 : L.length ≤ 200) (h2 : (textL L).length ≤ 8000) (g : Plain R) (g1 : R.length ≤ 200) (g2 : (textL R).length ≤ 8000) (hc : c ≤ 10)
    (hm : w.cell? ⟨0, 0, none⟩ = some (.int .i64 m)) :
    Calls Tryd.prog 14 #[.string (textB L), .string (textB R), .int .i64 c] w fun e w' =>
      ∃ a cap, e = .returned (.tuple #[.agg #[.slice a (hunksM (Dn.wayM L R) c).length cap], .int .i64 0]) ∧ HunksAt w'.heap.size w' (.slice a (hunksM (Dn.wayM L R) c).length cap) (hunksM (Dn.wayM L R) c) ∧ Below w.heap.size w w' := by
  have e1 : (textB L).size = (textL L).length := rfl
  have e2 : (textB R).size = (textL R).length := rfl
  have := diff_at (checkB_text h h1 h2 g g1 g2 hc) (by omega) (by omega) hm
  unfold diffM at this
  rw [linesB_text h, linesB_text g] at this
  exact this
theorem apply_text {T : List ByteArray} {hs : List HunkM} {fz : Nat} {a : Option Addr} {cap : Nat} {m : Int} {w : World} (h : Plain T) (h1 : T.length ≤ 200) (h2 : (textL T).length ≤ 8000) (hf : fz ≤ 10)
    (hH : HunksAt w.heap.size w (.slice a hs.length cap) hs) (hr : rightM 0 0 hs = true) (hl : hs.length ≤ 1000) (hh : hs.all hunkOkB = true) (hm : w.cell? ⟨0, 0, none⟩ = some (.int .i64 m)) (hm0 : 0 < w.heap.size) :
    Calls Tryd.prog 17 #[.string (textB T), .agg #[.slice a hs.length cap], .int .i64 fz] w fun e w' =>
      ∃ a' c', e = .returned (.tuple #[.string (applyT T fz hs), .slice a' hs.length c', .int .i64 0]) ∧ SeamsAt w' (.slice a' hs.length c') (applyS T fz hs) ∧ Below w.heap.size w w' := by
  have e1 : (textB T).size = (textL T).length := rfl
  rw [List.all_eq_true] at hh
  have := apply_at (isTextB_text T) (largeB_text h h1 h2) hf hH hr hl (by omega) hm hm0 (fun x hx => hunkOk_of (hh x hx)) (by rw [linesB_text h]; omega) (by rw [linesB_text h]; omega)
  rw [linesB_text h] at this
  exact this

/-! ### fuzz beyond the keeps at the ends changes nothing -/
theorem sewM_rounds {T : List ByteArray} {s : SewS} {h : HunkM} {f g : Nat} (e : sewRounds h f = sewRounds h g) : sewM T s h f = sewM T s h g := by
  unfold sewM sewFind
  rw [e]
theorem applyFrom_rounds {T : List ByteArray} {f g : Nat} : ∀ (hs : List HunkM) (s : SewS), (∀ h ∈ hs, sewRounds h f = sewRounds h g) → applyFrom T f s hs = applyFrom T g s hs
  | [], _, _ => rfl
  | h :: hs, s, e => by
    unfold applyFrom
    simp only
    rw [sewM_rounds (e h (by simp)), applyFrom_rounds hs _ (fun x hx => e x (List.mem_cons_of_mem _ hx))]
theorem apply_rounds {T : List ByteArray} {f g : Nat} {hs : List HunkM} (e : ∀ h ∈ hs, sewRounds h f = sewRounds h g) : applyT T f hs = applyT T g hs ∧ applyS T f hs = applyS T g hs := by
  unfold applyT applyS applyK
  rw [List.take_length, applyFrom_rounds hs _ e]
  exact ⟨rfl, rfl⟩

/-! ### the lines of Left and Apart -/
def lineB (i : Nat) : ByteArray := ⟨#[108, 105, 110, 101, 32, UInt8.ofNat (97 + i / 10), UInt8.ofNat (48 + i % 10)]⟩
def lineOk (i : Nat) : Bool := !(lineB i).data.toList.contains 10
def lineNe (i : Nat) : Bool := (List.range 60).all fun j => decide (i = j) || decide (lineB i ≠ lineB j)
theorem lines_ok : (List.range 60).all lineOk = true := by kernel_rfl
theorem lines_ne : (List.range 60).all lineNe = true := by kernel_rfl
theorem lineB_ok {i : Nat} (h : i < 60) : (10 : UInt8) ∉ (lineB i).data.toList := by
  have h1 := (List.all_eq_true.1 lines_ok) i (List.mem_range.2 h)
  unfold lineOk at h1
  simpa using h1
theorem lineB_inj {i j : Nat} (hi : i < 60) (hj : j < 60) (e : lineB i = lineB j) : i = j := by
  have h1 := (List.all_eq_true.1 lines_ne) i (List.mem_range.2 hi)
  unfold lineNe at h1
  have h2 := (List.all_eq_true.1 h1) j (List.mem_range.2 hj)
  simp only [Bool.or_eq_true, decide_eq_true_eq] at h2
  rcases h2 with h2 | h2
  · exact h2
  · exact absurd e h2
def xL (n : Nat) : List ByteArray := (List.range n).map lineB
theorem xL_length (n : Nat) : (xL n).length = n := by simp [xL]
theorem xL_succ (n : Nat) : xL (n + 1) = xL n ++ [lineB n] := by unfold xL; rw [List.range_succ, List.map_append]; rfl
theorem xL_plain {n : Nat} (h : n ≤ 60) : Plain (xL n) := by
  intro s hs
  obtain ⟨i, hi, rfl⟩ := List.mem_map.1 hs
  exact lineB_ok (by have := List.mem_range.1 hi; omega)
theorem textL_bound (L : List ByteArray) (k : Nat) (h : ∀ s ∈ L, s.size ≤ k) : (textL L).length ≤ L.length * (k + 1) := by
  induction L with
  | nil => simp [textL]
  | cons x l ih =>
    have e : textL (x :: l) = (x.data.toList ++ [10]) ++ textL l := rfl
    have h1 := ih (fun s hs => h s (List.mem_cons_of_mem _ hs))
    have h2 : x.data.toList.length = x.size := rfl
    have h3 := h x (by simp)
    rw [e]
    simp only [List.length_append, List.length_cons, List.length_nil, Nat.add_mul]
    omega
end Go.Proofs.YtcclgodahlinbaaDoor

namespace Go.Proofs.YtcclgodahlinbaaDoor
open Go.RowKit Go
set_option maxRecDepth 100000

def firstB : ByteArray := ⟨#[102, 105, 114, 115, 116]⟩
def lastB : ByteArray := ⟨#[108, 97, 115, 116]⟩
def goneB : ByteArray := ⟨#[103, 111, 110, 101]⟩
def yL (n : Nat) : List ByteArray := ((xL n).set 0 firstB).set (n - 1) lastB
def leftZ (g n : Nat) : List ByteArray := if g = 0 then (xL n).set 0 goneB else (xL n).set (n - 1) goneB
def leftT (g n : Nat) : List ByteArray := if g = 0 then (yL n).set 0 goneB else (yL n).set (n - 1) goneB
def leftM (n : Nat) : List ByteArray := (List.range (n - 3)).map fun i => lineB (i + 2)
def leftW (n : Nat) : List StepB := ⟨45, lineB 0⟩ :: ⟨43, firstB⟩ :: ((lineB 1 :: leftM n).map (fun a => ⟨32, a⟩) ++ [⟨45, lineB (n - 1)⟩, ⟨43, lastB⟩])
def leftH (n : Nat) : List HunkM := [⟨1, 2, 1, 2, [⟨45, lineB 0⟩, ⟨43, firstB⟩, ⟨32, lineB 1⟩]⟩, ⟨n - 1, 2, n - 1, 2, [⟨32, lineB (n - 2)⟩, ⟨45, lineB (n - 1)⟩, ⟨43, lastB⟩]⟩]
def leftS (g : Nat) : List SeamM := if g = 0 then [⟨false, 0, 0⟩, ⟨true, 0, 0⟩] else [⟨true, 0, 0⟩, ⟨false, 0, 0⟩]

def eqS (a b : StepB) : Bool := decide (a.kind = b.kind) && decide (a.text = b.text)
def eqLs : List StepB → List StepB → Bool
  | [], [] => true
  | a :: l, b :: r => eqS a b && eqLs l r
  | _, _ => false
def eqH (a b : HunkM) : Bool := decide (a.fr = b.fr) && decide (a.fc = b.fc) && decide (a.tr = b.tr) && decide (a.tc = b.tc) && eqLs a.lines b.lines
def eqHs : List HunkM → List HunkM → Bool
  | [], [] => true
  | a :: l, b :: r => eqH a b && eqHs l r
  | _, _ => false
theorem eqS_of {a b : StepB} (h : eqS a b = true) : a = b := by
  obtain ⟨k, t⟩ := a
  obtain ⟨k', t'⟩ := b
  unfold eqS at h
  simp only [Bool.and_eq_true, decide_eq_true_eq] at h
  rw [h.1, h.2]
theorem eqLs_of : ∀ {l r : List StepB}, eqLs l r = true → l = r
  | [], [], _ => rfl
  | [], _ :: _, h => by simp [eqLs] at h
  | _ :: _, [], h => by simp [eqLs] at h
  | a :: l, b :: r, h => by
    simp only [eqLs, Bool.and_eq_true] at h
    rw [eqS_of h.1, eqLs_of h.2]
theorem eqH_of {a b : HunkM} (h : eqH a b = true) : a = b := by
  obtain ⟨a1, a2, a3, a4, a5⟩ := a
  obtain ⟨b1, b2, b3, b4, b5⟩ := b
  unfold eqH at h
  simp only [Bool.and_eq_true, decide_eq_true_eq] at h
  obtain ⟨⟨⟨⟨h1, h2⟩, h3⟩, h4⟩, h5⟩ := h
  rw [h1, h2, h3, h4, eqLs_of h5]
theorem eqHs_of : ∀ {l r : List HunkM}, eqHs l r = true → l = r
  | [], [], _ => rfl
  | [], _ :: _, h => by simp [eqHs] at h
  | _ :: _, [], h => by simp [eqHs] at h
  | a :: l, b :: r, h => by
    simp only [eqHs, Bool.and_eq_true] at h
    rw [eqH_of h.1, eqHs_of h.2]

def outB (a : ByteArray) (L : List ByteArray) : Bool := L.all fun x => decide (x ≠ a)
theorem out_of {a : ByteArray} {L : List ByteArray} (h : outB a L = true) : a ∉ L := by
  intro ha
  have := (List.all_eq_true.1 h) a ha
  simp at this
def plainB (L : List ByteArray) : Bool := L.all fun s => !s.data.toList.contains 10
theorem plain_of {L : List ByteArray} (h : plainB L = true) : Plain L := by
  intro s hs
  have := (List.all_eq_true.1 h) s hs
  simpa using this
def fitB (L : List ByteArray) : Bool := plainB L && decide (L.length ≤ 200) && decide ((textL L).length ≤ 8000)
/-- the text that Apply makes, as bytes -/
def applyL (T : List ByteArray) (fz : Nat) (hs : List HunkM) : List UInt8 := (applyK T fz hs hs.length).1.t ++ textL (T.drop (applyK T fz hs hs.length).1.en)
theorem applyT_of {T : List ByteArray} {fz : Nat} {hs : List HunkM} {L : List ByteArray} (h : applyL T fz hs = textL L) : applyT T fz hs = textB L := by
  unfold applyT textB
  rw [← h]
  rfl
def eqU : List UInt8 → List UInt8 → Bool
  | [], [] => true
  | a :: l, b :: r => decide (a = b) && eqU l r
  | _, _ => false
theorem eqU_of : ∀ {l r : List UInt8}, eqU l r = true → l = r
  | [], [], _ => rfl
  | [], _ :: _, h => by simp [eqU] at h
  | _ :: _, [], h => by simp [eqU] at h
  | a :: l, b :: r, h => by
    simp only [eqU, Bool.and_eq_true, decide_eq_true_eq] at h
    rw [h.1, eqU_of h.2]
/-- one case of Left, but for the fuzz -/
def leftOne (n : Nat) : Bool :=
  decide (xL n = lineB 0 :: lineB 1 :: (leftM n ++ [lineB (n - 1)])) && decide (yL n = firstB :: lineB 1 :: (leftM n ++ [lastB])) &&
  outB (lineB 0) (lineB 1 :: (leftM n ++ [lastB])) && outB firstB (lineB 1 :: (leftM n ++ [lineB (n - 1)])) && outB (lineB 1) (leftM n ++ [lineB (n - 1)]) && decide (lineB (n - 1) ≠ lastB) && decide (lineB 0 ≠ firstB) &&
  eqHs (hunksM (leftW n) 1) (leftH n) && fitB (xL n) && fitB (yL n) && rightM 0 0 (leftH n) && (leftH n).all hunkOkB && (leftH n).all (fun h => decide (max (keepsK h.lines h.lines.length).1 (keepsK h.lines h.lines.length).2.1 ≤ 1)) &&
  (List.range 2).all fun g => fitB (leftZ g n) && decide ((textL (leftT g n)).length ≤ 8000) && (List.range 2).all fun f => eqU (applyL (leftZ g n) f (leftH n)) (textL (leftT g n)) && (letI := seamDec; decide (applyS (leftZ g n) f (leftH n) = leftS g))
theorem left_all : ((List.range 30).all fun i => leftOne (i + 8)) = true := by kernel_rfl
theorem fit_of {L : List ByteArray} (h : fitB L = true) : Plain L ∧ L.length ≤ 200 ∧ (textL L).length ≤ 8000 := by
  unfold fitB at h
  simp only [Bool.and_eq_true, decide_eq_true_eq] at h
  exact ⟨plain_of h.1.1, h.1.2, h.2⟩
structure LeftFacts (n g f : Nat) : Prop where
  way : hunksM (Dn.wayM (xL n) (yL n)) 1 = leftH n
  fx : Plain (xL n) ∧ (xL n).length ≤ 200 ∧ (textL (xL n)).length ≤ 8000
  fy : Plain (yL n) ∧ (yL n).length ≤ 200 ∧ (textL (yL n)).length ≤ 8000
  fz : Plain (leftZ g n) ∧ (leftZ g n).length ≤ 200 ∧ (textL (leftZ g n)).length ≤ 8000
  ft : (textL (leftT g n)).length ≤ 8000
  right : rightM 0 0 (leftH n) = true
  ok : (leftH n).all hunkOkB = true
  text : applyT (leftZ g n) f (leftH n) = textB (leftT g n)
  seams : applyS (leftZ g n) f (leftH n) = leftS g
theorem left_facts {i g f : Nat} (hi : i < 30) (hg : g < 2) : LeftFacts (8 + i) g f := by
  have h := (List.all_eq_true.1 left_all) i (List.mem_range.2 hi)
  rw [Nat.add_comm i 8] at h
  generalize 8 + i = n at h ⊢
  unfold leftOne at h
  simp only [Bool.and_eq_true, decide_eq_true_eq] at h
  obtain ⟨⟨⟨⟨⟨⟨⟨⟨⟨⟨⟨⟨⟨h1, h2⟩, h3⟩, h4⟩, h5⟩, h6⟩, h7⟩, h8⟩, h9⟩, h10⟩, h11⟩, h12⟩, h13⟩, h14⟩ := h
  have h15 := (List.all_eq_true.1 h14) g (List.mem_range.2 hg)
  simp only [Bool.and_eq_true, decide_eq_true_eq] at h15
  obtain ⟨⟨k1, k2⟩, k3⟩ := h15
  have k4 := (List.all_eq_true.1 k3) (min f 1) (List.mem_range.2 (by omega))
  simp only [Bool.and_eq_true, decide_eq_true_eq] at k4
  have hr : ∀ h ∈ leftH n, sewRounds h f = sewRounds h (min f 1) := by
    intro h hh
    have := (List.all_eq_true.1 h13) h hh
    simp only [decide_eq_true_eq] at this
    unfold sewRounds
    omega
  obtain ⟨r1, r2⟩ := apply_rounds (T := leftZ g n) hr
  refine ⟨?_, fit_of h9, fit_of h10, fit_of k1, k2, h11, h12, by rw [r1]; exact applyT_of (eqU_of k4.1), by rw [r2]; exact k4.2⟩
  have hw : Dn.wayM (xL n) (yL n) = leftW n := by
    rw [Dn.wayM_spec, h1, h2, spec_change h7 (out_of h3) (out_of h4) (out_of h5)]
    have := spec_keeps (lineB 1 :: leftM n) [lineB (n - 1)] [lastB]
    rw [spec_last h6] at this
    unfold leftW
    rw [← this]
    rfl
  rw [hw]
  exact eqHs_of h8
end Go.Proofs.YtcclgodahlinbaaDoor

namespace Go.Proofs.YtcclgodahlinbaaDoor
open Go.RowKit Go
set_option maxRecDepth 100000

/-! ### hunks as windows of a way -/
def cO (l : List StepB) : Nat := (Dn.oldOf l).length
def cN (l : List StepB) : Nat := (Dn.newOf l).length
theorem cO_append (a b : List StepB) : cO (a ++ b) = cO a + cO b := by unfold cO; rw [Dn.oldOf_append, List.length_append]
theorem cN_append (a b : List StepB) : cN (a ++ b) = cN a + cN b := by unfold cN; rw [Dn.newOf_append, List.length_append]
theorem cO_one (s : StepB) : cO [s] = if s.kind = 43 then 0 else 1 := by
  unfold cO Dn.oldOf
  by_cases h : s.kind = 43
  · simp [h]
  · simp [h]
theorem cN_one (s : StepB) : cN [s] = if s.kind = 45 then 0 else 1 := by
  unfold cN Dn.newOf
  by_cases h : s.kind = 45
  · simp [h]
  · simp [h]
def mkH (og fg : Nat) (M : List StepB) : HunkM := ⟨og, cO M, fg, cN M, M⟩
theorem addL_mk (og fg : Nat) (M : List StepB) (s : StepB) : addL (mkH og fg M) s = mkH og fg (M ++ [s]) := by
  unfold addL mkH
  simp only [cO_append, cN_append, cO_one, cN_one]
theorem foldH_gone (L : List StepB) (nb : List Bool) : ∀ k, k ≤ L.length → (foldH L nb k).og = cO (L.take k) ∧ (foldH L nb k).fg = cN (L.take k) := by
  intro k
  induction k with
  | zero => intro _; exact ⟨rfl, rfl⟩
  | succ k ih =>
    intro hk
    obtain ⟨i1, i2⟩ := ih (by omega)
    rw [foldH_succ (by omega), List.take_succ_eq_append_getElem (by omega), cO_append, cN_append, cO_one, cN_one, ← i1, ← i2]
    exact ⟨rfl, rfl⟩
theorem foldH_quiet {L : List StepB} {nb : List Bool} {i : Nat} : ∀ k, i ≤ k → k ≤ L.length → (∀ j, i ≤ j → j < k → nb.getD j false = false) → (foldH L nb k).hs = (foldH L nb i).hs := by
  intro k
  induction k with
  | zero => intro h _ _; obtain rfl : i = 0 := by omega
            rfl
  | succ k ih =>
    intro h1 h2 h3
    by_cases e : i = k + 1
    · rw [e]
    · rw [← ih (by omega) (by omega) (fun j a b => h3 j a (by omega)), foldH_succ (by omega)]
      show stepHs _ _ _ _ = _
      unfold stepHs
      rw [h3 k (by omega) (by omega), if_neg (by simp)]
theorem foldH_run {L : List StepB} {nb : List Bool} {i : Nat} (h0 : i = 0 ∨ nb.getD (i - 1) false = false) : ∀ k, i < k → k ≤ L.length → (∀ j, i ≤ j → j < k → nb.getD j false = true) →
    (foldH L nb k).hs = (foldH L nb i).hs ++ [mkH (cO (L.take i)) (cN (L.take i)) ((L.take k).drop i)] := by
  intro k
  induction k with
  | zero => intro h _ _; omega
  | succ k ih =>
    intro h1 h2 h3
    have hk : k < L.length := by omega
    obtain ⟨g1, g2⟩ := foldH_gone L nb k (by omega)
    rw [foldH_succ hk]
    show stepHs _ _ _ _ = _
    unfold stepHs
    rw [h3 k (by omega) (by omega), if_pos rfl]
    have e1 : (L.take (k + 1)).drop i = (L.take k).drop i ++ [L[k]] := by
      rw [List.take_succ_eq_append_getElem hk, List.drop_append_of_le_length (by rw [List.length_take]; omega)]
    by_cases e : i = k
    · subst e
      have hpb : (decide (0 < i) && nb.getD (i - 1) false) = false := by
        rcases h0 with h0 | h0
        · subst h0; rfl
        · rw [h0, Bool.and_false]
      rw [hpb, if_neg (by simp), lastAdd_append, g1, g2, e1, List.drop_eq_nil_of_le (by rw [List.length_take]; omega)]
      have : newHunk (cO (L.take i)) (cN (L.take i)) = mkH (cO (L.take i)) (cN (L.take i)) [] := rfl
      rw [this, addL_mk]
    · have hpb : (decide (0 < k) && nb.getD (k - 1) false) = true := by rw [h3 (k - 1) (by omega) (by omega)]; simp; omega
      rw [hpb, if_pos rfl, ih (by omega) (by omega) (fun j a b => h3 j a (by omega)), lastAdd_append, addL_mk, e1]

def keeps (l : List ByteArray) : List StepB := l.map fun a => ⟨32, a⟩
theorem keeps_append (a b : List ByteArray) : keeps (a ++ b) = keeps a ++ keeps b := List.map_append
theorem keeps_length (a : List ByteArray) : (keeps a).length = a.length := List.length_map _
theorem keeps_kind {l : List ByteArray} {s : StepB} (h : s ∈ keeps l) : s.kind = 32 := by
  obtain ⟨a, _, rfl⟩ := List.mem_map.1 h
  rfl
theorem oldOf_keeps (a : List ByteArray) : Dn.oldOf (keeps a) = a := by
  induction a with
  | nil => rfl
  | cons x a ih => have e : keeps (x :: a) = [⟨32, x⟩] ++ keeps a := rfl
                   rw [e, Dn.oldOf_append, ih]; rfl
theorem newOf_keeps (a : List ByteArray) : Dn.newOf (keeps a) = a := by
  induction a with
  | nil => rfl
  | cons x a ih => have e : keeps (x :: a) = [⟨32, x⟩] ++ keeps a := rfl
                   rw [e, Dn.newOf_append, ih]; rfl
theorem cO_keeps (a : List ByteArray) : cO (keeps a) = a.length := by unfold cO; rw [oldOf_keeps]
theorem cN_keeps (a : List ByteArray) : cN (keeps a) = a.length := by unfold cN; rw [newOf_keeps]

theorem nearU_one {L : List StepB} {c t j : Nat} (hc : c < L.length) (h1 : L[c].kind ≠ 32) (h2 : ∀ i (h : i < L.length), L[i].kind ≠ 32 → i = c) : nearU L t L.length j = decide (c ≤ j + t ∧ j ≤ c + t) := by
  unfold nearU
  rw [List.take_length]
  by_cases hd : c ≤ j + t ∧ j ≤ c + t
  · rw [decide_eq_true hd, List.any_eq_true]
    refine ⟨(L[c], c), ?_, by simp [h1, hd.1, hd.2]⟩
    rw [List.mem_zipIdx_iff_getElem?]
    simp [hc]
  · rw [decide_eq_false hd, List.any_eq_false]
    rintro ⟨s, i⟩ hs
    rw [List.mem_zipIdx_iff_getElem?] at hs
    obtain ⟨hi, e⟩ := List.getElem?_eq_some_iff.1 hs
    simp only at e hi
    by_cases hk : s.kind = 32
    · simp [hk]
    · have := h2 i hi (by rw [e]; exact hk)
      subst this
      simp only [Bool.and_eq_true, decide_eq_true_eq, not_and]
      rintro ⟨_, h3⟩ h4
      exact hd ⟨h3, h4⟩
/-- a way with one change has one hunk: the change and two keeps at each side, where there are two -/
theorem hunks_one {P K1 K2 S : List ByteArray} {ch : StepB} (hch : ch.kind ≠ 32) (h1 : K1.length = 2 ∨ (K1.length ≤ 2 ∧ P = [])) (h2 : K2.length = 2 ∨ (K2.length ≤ 2 ∧ S = [])) :
    hunksM (keeps (P ++ K1) ++ ch :: keeps (K2 ++ S)) 2 = [numL (mkH P.length P.length (keeps K1 ++ ch :: keeps K2))] := by
  generalize hL : keeps (P ++ K1) ++ ch :: keeps (K2 ++ S) = L
  have hlen : L.length = P.length + K1.length + 1 + K2.length + S.length := by rw [← hL]; simp [keeps]; omega
  have hcl : P.length + K1.length < L.length := by omega
  have hLc : L[P.length + K1.length] = ch := by
    subst hL
    rw [List.getElem_append_right (by rw [keeps_length]; simp)]
    simp [keeps]
  have hLo : ∀ i (h : i < L.length), L[i].kind ≠ 32 → i = P.length + K1.length := by
    intro i hi hk
    by_cases e : i = P.length + K1.length
    · exact e
    · exfalso
      apply hk
      subst hL
      by_cases e2 : i < P.length + K1.length
      · rw [List.getElem_append_left (by rw [keeps_length]; simpa using e2)]
        exact keeps_kind (List.getElem_mem _)
      · rw [List.getElem_append_right (by rw [keeps_length]; simp; omega)]
        obtain ⟨t, ht⟩ : ∃ t, i - (keeps (P ++ K1)).length = t + 1 := ⟨i - (P.length + K1.length) - 1, by rw [keeps_length, List.length_append]; omega⟩
        simp only [ht, List.getElem_cons_succ]
        exact keeps_kind (List.getElem_mem _)
  have hnear : ∀ j, j < L.length → (nearB L 2).getD j false = decide (P.length + K1.length ≤ j + 2 ∧ j ≤ P.length + K1.length + 2) := by
    intro j hj
    have e : (nearB L 2).getD j false = nearU L 2 L.length j := by simp [nearB, List.getD, hj]
    rw [e, nearU_one hcl (by rw [hLc]; exact hch) hLo]
  have ha : ∀ j, j < P.length → (nearB L 2).getD j false = false := by
    intro j hj
    rw [hnear j (by omega)]
    have : P ≠ [] := by intro e; rw [e] at hj; simp at hj
    have hK : K1.length = 2 := by rcases h1 with h1 | h1
                                  · exact h1
                                  · exact absurd h1.2 this
    simp
    omega
  have hb : ∀ j, P.length ≤ j → j < P.length + K1.length + 1 + K2.length → (nearB L 2).getD j false = true := by
    intro j hj hj2
    rw [hnear j (by omega)]
    simp
    omega
  have hc : ∀ j, P.length + K1.length + 1 + K2.length ≤ j → j < L.length → (nearB L 2).getD j false = false := by
    intro j hj hj2
    rw [hnear j hj2]
    have : S ≠ [] := by intro e; rw [e] at hlen; simp at hlen; omega
    have hK : K2.length = 2 := by rcases h2 with h2 | h2
                                  · exact h2
                                  · exact absurd h2.2 this
    simp
    omega
  have q1 := foldH_quiet (L := L) (nb := nearB L 2) (i := 0) P.length (Nat.zero_le _) (by omega) (fun j _ h => ha j h)
  have q2 := foldH_run (L := L) (nb := nearB L 2) (i := P.length) (by
    by_cases e : P.length = 0
    · exact .inl e
    · exact .inr (ha _ (by omega))) (P.length + K1.length + 1 + K2.length) (by omega) (by omega) hb
  have q3 := foldH_quiet (L := L) (nb := nearB L 2) (i := P.length + K1.length + 1 + K2.length) L.length (by omega) (Nat.le_refl _) hc
  have t1 : L.take P.length = keeps P := by
    subst hL
    rw [keeps_append, List.append_assoc, List.take_append_of_le_length (by rw [keeps_length]; exact Nat.le_refl _), ← keeps_length P, List.take_length]
  have t2 : (L.take (P.length + K1.length + 1 + K2.length)).drop P.length = keeps K1 ++ ch :: keeps K2 := by
    have e : L = keeps P ++ ((keeps K1 ++ ch :: keeps K2) ++ keeps S) := by rw [← hL]; simp [keeps]
    have e2 : P.length + K1.length + 1 + K2.length = (keeps P).length + (keeps K1 ++ ch :: keeps K2).length := by simp [keeps]; omega
    rw [e2, e, List.take_length_add_append, List.take_append_of_le_length (Nat.le_refl _), List.take_length]
    conv => lhs; rw [show P.length = (keeps P).length from (keeps_length P).symm]
    rw [List.drop_left']
    rfl
  unfold hunksM
  rw [q3, q2, q1, t1, t2, cO_keeps, cN_keeps]
  rfl
end Go.Proofs.YtcclgodahlinbaaDoor

namespace Go.Proofs.YtcclgodahlinbaaDoor
open Go.RowKit Go
set_option maxRecDepth 100000

theorem pieceO_zero (L : List StepB) : pieceO L 0 = Dn.oldOf L := by unfold pieceO; simp
theorem pieceF_zero (L : List StepB) : pieceF L 0 = Dn.newOf L := by unfold pieceF; simp
theorem sewRounds_zero (h : HunkM) : sewRounds h 0 = 1 := by unfold sewRounds; simp
/-- one hunk sewn in with no fuzz -/
theorem apply_one {T : List ByteArray} {h : HunkM} {x : Nat} (hx : sewAt T 0 0 h 0 = some (x : Int)) :
    applyL T 0 [h] = textL (T.take x) ++ textL (Dn.newOf h.lines) ++ textL (T.drop (x + (Dn.oldOf h.lines).length)) ∧ applyS T 0 [h] = [⟨true, (x : Int) - (placeM h.fr h.fc : Nat), 0⟩] := by
  have e : sewM T ⟨[], 0, 0⟩ h 0 = (sewTo T ⟨[], 0, 0⟩ h 0 x, ⟨true, (x : Int) - (placeM h.fr h.fc : Nat), 0⟩) := by
    unfold sewM sewFind
    rw [sewRounds_zero]
    unfold sewFrom
    simp only [hx]
  have e2 : applyK T 0 [h] [h].length = (sewTo T ⟨[], 0, 0⟩ h 0 x, [⟨true, (x : Int) - (placeM h.fr h.fc : Nat), 0⟩]) := by
    unfold applyK applyFrom
    simp only [List.take_length, e]
    rfl
  unfold applyL applyS
  rw [e2]
  unfold sewTo
  rw [pieceF_zero, pieceO_zero]
  simp
theorem stand_yes {P O Q : List ByteArray} : standM (P ++ O ++ Q) 0 O (P.length : Int) = true := by
  unfold standM
  rw [decide_eq_true_eq]
  refine ⟨by omega, by simp; omega, ?_⟩
  simp
theorem stand_no {P O Q : List ByteArray} {l o : ByteArray} (h : l ≠ o) : standM (P ++ l :: (o :: O ++ Q)) 0 (o :: O) (P.length : Int) = false := by
  unfold standM
  rw [decide_eq_false_iff_not]
  rintro ⟨_, _, h3⟩
  simp at h3
  exact h h3.1
theorem sew_here {T P O Q : List ByteArray} {h : HunkM} (hT : T = P ++ O ++ Q) (hO : Dn.oldOf h.lines = O) (hp : placeM h.fr h.fc = P.length) : sewAt T 0 0 h 0 = some (P.length : Int) := by
  unfold sewAt
  obtain ⟨r, hr⟩ := aroundL_prefix (((placeM h.fr h.fc : Nat) : Int) + 0) (Nat.zero_le T.length)
  rw [← hr]
  have e : aroundL (((placeM h.fr h.fc : Nat) : Int) + 0) 0 = [(P.length : Int)] := by unfold aroundL; rw [hp]; simp
  rw [e, List.singleton_append, List.find?_cons_of_pos]
  rw [pieceO_zero, hO, hT]
  simpa using stand_yes (P := P) (O := O) (Q := Q)
theorem sew_next {T P O Q : List ByteArray} {l o : ByteArray} {h : HunkM} (hT : T = P ++ l :: (o :: O ++ Q)) (hO : Dn.oldOf h.lines = o :: O) (hp : placeM h.fr h.fc = P.length) (hne : l ≠ o) : sewAt T 0 0 h 0 = some ((P.length + 1 : Nat) : Int) := by
  unfold sewAt
  have h1 : 1 ≤ T.length := by rw [hT]; simp; omega
  obtain ⟨r, hr⟩ := aroundL_prefix (((placeM h.fr h.fc : Nat) : Int) + 0) h1
  rw [← hr]
  have e : aroundL (((placeM h.fr h.fc : Nat) : Int) + 0) 1 = [(P.length : Int), ((P.length + 1 : Nat) : Int), (P.length : Int) - 1] := by
    unfold aroundL aroundL
    rw [hp]
    simp
  rw [e, List.cons_append, List.find?_cons_of_neg, List.cons_append, List.find?_cons_of_pos]
  · rw [pieceO_zero, hO, hT]
    have := stand_yes (P := P ++ [l]) (O := o :: O) (Q := Q)
    simpa using this
  · rw [pieceO_zero, hO, hT]
    have := stand_no (P := P) (O := O) (Q := Q) hne
    simpa using this

theorem indexByte_none : ∀ (l : List UInt8), (10 : UInt8) ∉ l → Lib.indexByte l 10 = -1
  | [], _ => rfl
  | b :: l, h => by
    have hb : b ≠ 10 := by intro e; exact h (by simp [e])
    have ih := indexByte_none l (fun e => h (List.mem_cons_of_mem _ e))
    rw [Lib.indexByte, ih]
    simp [hb]
theorem matchM_of : ∀ (L : List StepB) (b : Bool), (∀ s ∈ L, (s.kind = 32 ∨ s.kind = 45 ∨ s.kind = 43) ∧ (10 : UInt8) ∉ s.text.data.toList) → (b = true ∨ ∃ s ∈ L, s.kind ≠ 32) → matchM (cO L) (cN L) b L = true
  | [], b, _, h => by
    have hb : b = true := by simpa using h
    subst hb
    rfl
  | s :: L, b, hs, h => by
    obtain ⟨hk, ht⟩ := hs s (by simp)
    have e1 : cO (s :: L) = kf s.kind + cO L := by
      have : s :: L = [s] ++ L := rfl
      rw [this, cO_append, cO_one]; rfl
    have e2 : cN (s :: L) = kt s.kind + cN L := by
      have : s :: L = [s] ++ L := rfl
      rw [this, cN_append, cN_one]; rfl
    unfold matchM
    rw [e1, e2, Nat.add_sub_cancel_left, Nat.add_sub_cancel_left, indexByte_none _ ht]
    rw [matchM_of L _ (fun x hx => hs x (List.mem_cons_of_mem _ hx)) (by
      rcases h with h | ⟨x, hx, hxk⟩
      · left; rw [h]; rfl
      · rcases List.mem_cons.1 hx with rfl | hx
        · left; simp [hxk]
        · right; exact ⟨x, hx, hxk⟩)]
    simp
    exact hk

/-- a hunk of few plain lines with one change, at a place -/
theorem one_right {p : Nat} {A B : List ByteArray} {ch : StepB} (hk : ch.kind = 45 ∨ ch.kind = 43) (hA : Plain A) (hB : Plain B) (ht : (10 : UInt8) ∉ ch.text.data.toList) (hp : p ≤ 1000) (hlA : A.length ≤ 2) (hlB : B.length ≤ 2) (hpos : 0 < A.length + B.length)
    (hs : ∀ s ∈ A ++ [ch.text] ++ B, s.size ≤ 7) :
    rightM 0 0 [numL (mkH p p (keeps A ++ ch :: keeps B))] = true ∧ [numL (mkH p p (keeps A ++ ch :: keeps B))].all hunkOkB = true ∧ placeM (numL (mkH p p (keeps A ++ ch :: keeps B))).fr (numL (mkH p p (keeps A ++ ch :: keeps B))).fc = p := by
  have e0 : keeps A ++ ch :: keeps B = keeps A ++ [ch] ++ keeps B := by simp
  have eO : cO (keeps A ++ ch :: keeps B) = A.length + (if ch.kind = 43 then 0 else 1) + B.length := by rw [e0, cO_append, cO_append, cO_keeps, cO_keeps, cO_one]
  have eN : cN (keeps A ++ ch :: keeps B) = A.length + (if ch.kind = 45 then 0 else 1) + B.length := by rw [e0, cN_append, cN_append, cN_keeps, cN_keeps, cN_one]
  have hlen : (keeps A ++ ch :: keeps B).length ≤ 5 := by simp [keeps]; omega
  have hmem : ∀ s ∈ keeps A ++ ch :: keeps B, (s.kind = 32 ∨ s.kind = 45 ∨ s.kind = 43) ∧ (10 : UInt8) ∉ s.text.data.toList := by
    intro s hs
    rw [e0] at hs
    simp only [List.mem_append, List.mem_singleton] at hs
    rcases hs with (hs | hs) | hs
    · obtain ⟨a, ha, rfl⟩ := List.mem_map.1 hs
      exact ⟨.inl rfl, hA a ha⟩
    · subst hs
      exact ⟨.inr hk, ht⟩
    · obtain ⟨a, ha, rfl⟩ := List.mem_map.1 hs
      exact ⟨.inl rfl, hB a ha⟩
  have hm := matchM_of (keeps A ++ ch :: keeps B) false hmem (.inr ⟨ch, by simp, by omega⟩)
  have hx : (textL (Dn.newOf (keeps A ++ ch :: keeps B))).length ≤ 10000 := by
    have h1 := textL_bound (Dn.newOf (keeps A ++ ch :: keeps B)) 7 (by
      intro s hs'
      apply hs
      have e1 : Dn.newOf (keeps A ++ ch :: keeps B) = A ++ Dn.newOf [ch] ++ B := by rw [e0, Dn.newOf_append, Dn.newOf_append, newOf_keeps, newOf_keeps]
      rw [e1] at hs'
      simp only [List.mem_append] at hs' ⊢
      rcases hs' with (h | h) | h
      · exact .inl (.inl h)
      · left; right
        obtain ⟨x, hx, rfl⟩ := List.mem_map.1 h
        have := (List.mem_filter.1 hx).1
        simp at this
        simp [this]
      · exact .inr h)
    have h2 : (Dn.newOf (keeps A ++ ch :: keeps B)).length ≤ 5 := by
      have : (Dn.newOf (keeps A ++ ch :: keeps B)).length = cN (keeps A ++ ch :: keeps B) := rfl
      rw [this, eN]
      split <;> omega
    have := Nat.mul_le_mul_right 8 h2
    omega
  generalize keeps A ++ ch :: keeps B = M at *
  have hO : 0 < cO M := by rw [eO]; split <;> omega
  have hN : 0 < cN M := by rw [eN]; split <;> omega
  have hO2 : cO M ≤ 5 := by rw [eO]; split <;> omega
  have hN2 : cN M ≤ 5 := by rw [eN]; split <;> omega
  have eh : numL (mkH p p M) = ⟨p + 1, cO M, p + 1, cN M, M⟩ := by
    unfold numL mkH
    simp only
    rw [if_neg (by omega), if_neg (by omega)]
  rw [eh]
  refine ⟨?_, ?_, ?_⟩
  · unfold rightM rightM fitsM placeM
    simp only [hm, Bool.and_true, Bool.and_eq_true, decide_eq_true_eq]
    rw [if_neg (by omega), if_neg (by omega)]
    simp
    omega
  · simp only [List.all_cons, List.all_nil, Bool.and_true]
    unfold hunkOkB
    simp only [Bool.and_eq_true, decide_eq_true_eq, List.all_eq_true, Bool.or_eq_true, beq_iff_eq]
    refine ⟨⟨⟨⟨fun x hx' => ?_, by omega⟩, by omega⟩, by omega⟩, hx⟩
    have := (hmem x hx').1
    omega
  · unfold placeM
    simp only
    rw [if_neg (by omega)]
    omega
end Go.Proofs.YtcclgodahlinbaaDoor

namespace Go.Proofs.YtcclgodahlinbaaDoor
open Go.RowKit Go
set_option maxRecDepth 100000

def cost1 (s : StepB) : Nat := if s.kind = 32 then 0 else 1
theorem costW_append (a b : List StepB) : Dn.costW (a ++ b) = Dn.costW a + Dn.costW b := by unfold Dn.costW; rw [List.filter_append, List.length_append]
theorem costW_one (s : StepB) : Dn.costW [s] = cost1 s := by
  unfold Dn.costW cost1
  by_cases h : s.kind = 32
  · simp [h]
  · simp [h]
theorem costW_take (L : List StepB) (k : Nat) (h : k < L.length) : Dn.costW (L.take (k + 1)) = Dn.costW (L.take k) + cost1 L[k] := by
  rw [List.take_succ_eq_append_getElem h, costW_append, costW_one]
/-- drops and adds of hunks -/
def costH (hs : List HunkM) : Nat := (hs.map fun h => Dn.costW h.lines).sum
theorem costH_append (a b : List HunkM) : costH (a ++ b) = costH a + costH b := by unfold costH; rw [List.map_append, List.sum_append]
theorem costH_one (h : HunkM) : costH [h] = Dn.costW h.lines := by simp [costH]
theorem costH_last {l : List HunkM} (h : l ≠ []) (s : StepB) : costH (lastAdd l s) = costH l + cost1 s := by
  obtain ⟨i, x, e1, e2⟩ := lastAdd_ne (s := s) h
  rw [e2, e1, costH_append, costH_append, costH_one, costH_one]
  have : (addL x s).lines = x.lines ++ [s] := rfl
  rw [this, costW_append, costW_one]
  omega
theorem foldH_cost {L : List StepB} {nb : List Bool} (hn : ∀ k (h : k < L.length), L[k].kind ≠ 32 → nb.getD k false = true) : ∀ k, k ≤ L.length → costH (foldH L nb k).hs = Dn.costW (L.take k) := by
  intro k
  induction k with
  | zero => intro _; simp [foldH, costH, Dn.costW]
  | succ k ih =>
    intro hk
    have hk' : k < L.length := by omega
    have ihk := ih (by omega)
    have hb := (foldH_bounds L nb k).2.2.2.2
    rw [foldH_succ hk', costW_take L k hk', ← ihk]
    show costH (stepHs _ _ _ _) = _
    unfold stepHs
    split
    · rw [costH_last]
      · split
        · rfl
        · rw [costH_append, costH_one]
          have : Dn.costW (newHunk (foldH L nb k).og (foldH L nb k).fg).lines = 0 := rfl
          omega
      · split
        · rename_i hp
          simp only [Bool.and_eq_true, decide_eq_true_eq] at hp
          exact hb hp.1 (by omega) hp.2
        · simp
    · rename_i hf
      have : L[k].kind = 32 := by
        by_cases e : L[k].kind = 32
        · exact e
        · exact absurd (hn k hk' e) hf
      unfold cost1
      rw [if_pos this]
      rfl
theorem near_own (L : List StepB) (c k : Nat) (h : k < L.length) (e : L[k].kind ≠ 32) : (nearB L c).getD k false = true := by
  have h1 : (nearB L c).getD k false = nearU L c L.length k := by simp [nearB, List.getD, h]
  rw [h1]
  unfold nearU
  rw [List.any_eq_true]
  refine ⟨(L[k], k), ?_, by simp [e]⟩
  rw [List.take_length, List.mem_zipIdx_iff_getElem?]
  simp [h]
theorem hunks_cost (L : List StepB) (c : Nat) : costH (hunksM L c) = Dn.costW L := by
  have h := foldH_cost (nb := nearB L c) (fun k hk e => near_own L c k hk e) L.length (Nat.le_refl _)
  rw [List.take_length] at h
  rw [← h]
  unfold hunksM costH
  rw [List.map_map]
  rfl

theorem way_counts {o f : List ByteArray} : Dn.costW (Dn.wayM o f) + o.length ≥ f.length ∧ Dn.costW (Dn.wayM o f) + f.length ≥ o.length ∧ (Dn.costW (Dn.wayM o f) + o.length + f.length) % 2 = 0 := by
  obtain ⟨h1, h2, h3⟩ := Dn.wayM_way o f
  have key : ∀ l : List StepB, (∀ s ∈ l, s.kind = 32 ∨ s.kind = 45 ∨ s.kind = 43) → ∃ a b c, Dn.costW l = b + c ∧ (Dn.oldOf l).length = a + b ∧ (Dn.newOf l).length = a + c := by
    intro l
    induction l with
    | nil => intro _; exact ⟨0, 0, 0, rfl, rfl, rfl⟩
    | cons s l ih =>
      intro h
      obtain ⟨a, b, c, e1, e2, e3⟩ := ih (fun x hx => h x (List.mem_cons_of_mem _ hx))
      unfold Dn.costW Dn.oldOf Dn.newOf at *
      rcases h s (by simp) with hs | hs | hs
      · refine ⟨a + 1, b, c, ?_, ?_, ?_⟩ <;> simp_all <;> omega
      · refine ⟨a, b + 1, c, ?_, ?_, ?_⟩ <;> simp_all <;> omega
      · refine ⟨a, b, c + 1, ?_, ?_, ?_⟩ <;> simp_all <;> omega
  obtain ⟨a, b, c, e1, e2, e3⟩ := key _ h3
  rw [h1] at e2
  rw [h2] at e3
  omega
end Go.Proofs.YtcclgodahlinbaaDoor

namespace Go.Proofs.YtcclgodahlinbaaDoor
open Go.RowKit Go
set_option maxRecDepth 100000

/-! ### the hunks of a way are windows of it: each with a change, all between them kept -/
def mkW (L : List StepB) (p : Nat × Nat) : HunkM := mkH (cO (L.take p.1)) (cN (L.take p.1)) ((L.take p.2).drop p.1)
def Kept (L : List StepB) (a b : Nat) : Prop := ∀ j (h : j < L.length), a ≤ j → j < b → L[j].kind = 32
def Wins (L : List StepB) : Nat → List (Nat × Nat) → Prop
  | p, [] => p ≤ L.length ∧ Kept L p L.length
  | p, (s, e) :: ws => p ≤ s ∧ s < e ∧ e ≤ L.length ∧ Kept L p s ∧ (∃ j, ∃ h : j < L.length, s ≤ j ∧ j < e ∧ L[j].kind ≠ 32) ∧ Wins L e ws
theorem Wins.back {L : List StepB} {p : Nat} (hp : p < L.length) (hk : L[p].kind = 32) : ∀ {ws : List (Nat × Nat)}, Wins L (p + 1) ws → Wins L p ws
  | [], h => ⟨by omega, fun j hj h1 h2 => by
      by_cases e : j = p
      · subst e; exact hk
      · exact h.2 j hj (by omega) h2⟩
  | (s, e) :: ws, h => ⟨by have := h.1; omega, h.2.1, h.2.2.1, fun j hj h1 h2 => by
      by_cases e : j = p
      · subst e; exact hk
      · exact h.2.2.2.1 j hj (by omega) h2, h.2.2.2.2⟩
theorem near_far {L : List StepB} {c i j : Nat} (hi : i < L.length) (hj : j < L.length) (hk : L[i].kind ≠ 32) (h1 : i ≤ j + c) (h2 : j ≤ i + c) : (nearB L c).getD j false = true := by
  have e : (nearB L c).getD j false = nearU L c L.length j := by simp [nearB, List.getD, hj]
  rw [e]
  unfold nearU
  rw [List.take_length, List.any_eq_true]
  refine ⟨(L[i], i), ?_, by simp [hk, h1, h2]⟩
  rw [List.mem_zipIdx_iff_getElem?]
  simp [hi]
theorem near_has {L : List StepB} {c j : Nat} (hj : j < L.length) (h : (nearB L c).getD j false = true) : ∃ i, ∃ hi : i < L.length, L[i].kind ≠ 32 ∧ i ≤ j + c ∧ j ≤ i + c := by
  have e : (nearB L c).getD j false = nearU L c L.length j := by simp [nearB, List.getD, hj]
  rw [e] at h
  unfold nearU at h
  rw [List.take_length, List.any_eq_true] at h
  obtain ⟨⟨s, i⟩, hs, hb⟩ := h
  rw [List.mem_zipIdx_iff_getElem?] at hs
  obtain ⟨hi, e2⟩ := List.getElem?_eq_some_iff.1 hs
  simp only [Bool.and_eq_true, decide_eq_true_eq] at hb
  simp only at e2 hi
  exact ⟨i, hi, by rw [e2]; simpa using hb.1.1, hb.1.2, hb.2⟩
theorem near_keep32 {L : List StepB} {c j : Nat} (hj : j < L.length) (h : (nearB L c).getD j false = false) : L[j].kind = 32 := by
  by_cases e : L[j].kind = 32
  · exact e
  · rw [near_own L c j hj e] at h; cases h
theorem wins_all (L : List StepB) (c : Nat) : ∀ d p, L.length - p = d → p ≤ L.length →
    ((p = 0 ∨ (nearB L c).getD (p - 1) false = false) → ∃ ws, (foldH L (nearB L c) L.length).hs = (foldH L (nearB L c) p).hs ++ ws.map (mkW L) ∧ Wins L p ws) ∧
    (∀ s, s < p → (s = 0 ∨ (nearB L c).getD (s - 1) false = false) → (∀ j, s ≤ j → j < p → (nearB L c).getD j false = true) →
      ∃ ws e, (foldH L (nearB L c) L.length).hs = (foldH L (nearB L c) s).hs ++ mkW L (s, e) :: ws.map (mkW L) ∧ p ≤ e ∧ e ≤ L.length ∧ (∀ j, s ≤ j → j < e → (nearB L c).getD j false = true) ∧ (e = L.length ∨ (nearB L c).getD e false = false) ∧ Wins L e ws) := by
  intro d
  induction d with
  | zero =>
    intro p hd hp
    obtain rfl : p = L.length := by omega
    refine ⟨fun _ => ⟨[], by simp, Nat.le_refl _, fun j hj h1 _ => by omega⟩, fun s hs h0 hn => ?_⟩
    refine ⟨[], L.length, ?_, Nat.le_refl _, Nat.le_refl _, hn, .inl rfl, Nat.le_refl _, fun j hj h1 _ => by omega⟩
    have := foldH_run h0 L.length hs (Nat.le_refl _) hn
    rw [this]
    rfl
  | succ d ih =>
    intro p hd hp
    have hpl : p < L.length := by omega
    obtain ⟨io, ii⟩ := ih (p + 1) (by omega) (by omega)
    have hin : ∀ s, s < p + 1 → (s = 0 ∨ (nearB L c).getD (s - 1) false = false) → (∀ j, s ≤ j → j < p → (nearB L c).getD j false = true) → s < p ∨ (nearB L c).getD p false = true →
      ∃ ws e, (foldH L (nearB L c) L.length).hs = (foldH L (nearB L c) s).hs ++ mkW L (s, e) :: ws.map (mkW L) ∧ p ≤ e ∧ e ≤ L.length ∧ (∀ j, s ≤ j → j < e → (nearB L c).getD j false = true) ∧ (e = L.length ∨ (nearB L c).getD e false = false) ∧ Wins L e ws := by
      intro s hs h0 hn hor
      by_cases hb : (nearB L c).getD p false = true
      · obtain ⟨ws, e, h1, h2, h3⟩ := ii s hs h0 (fun j a b => by
          by_cases e : j = p
          · rw [e]; exact hb
          · exact hn j a (by omega))
        exact ⟨ws, e, h1, by omega, h3⟩
      · have hb' : (nearB L c).getD p false = false := by simpa using hb
        have hsp : s < p := by
          rcases hor with h | h
          · exact h
          · exact absurd h hb
        obtain ⟨ws, h1, h2⟩ := io (.inr (by simpa using hb'))
        refine ⟨ws, p, ?_, Nat.le_refl _, by omega, hn, .inr hb', h2.back hpl (near_keep32 hpl hb')⟩
        rw [h1, foldH_quiet (i := p) (p + 1) (by omega) (by omega) (fun j a b => by
          have : j = p := by omega
          rw [this]; exact hb'), foldH_run h0 p hsp (by omega) hn]
        simp [mkW]
    refine ⟨fun h0 => ?_, fun s hs h0 hn => hin s (by omega) h0 hn (.inl hs)⟩
    by_cases hb : (nearB L c).getD p false = true
    · obtain ⟨ws, e, h1, h2, h3, h4, h5, h6⟩ := hin p (by omega) h0 (fun j a b => by omega) (.inr hb)
      have hpe : p < e := by
        by_cases hx : p < e
        · exact hx
        · have : e = p := by omega
          rcases h5 with h5 | h5
          · omega
          · rw [this] at h5; rw [h5] at hb; cases hb
      refine ⟨(p, e) :: ws, h1, Nat.le_refl _, hpe, h3, fun j _ a b => by omega, ?_, h6⟩
      obtain ⟨i, hi, hk, a1, a2⟩ := near_has hpl hb
      have hip : p ≤ i := by
        by_cases hx : p ≤ i
        · exact hx
        · exfalso
          rcases h0 with h0 | h0
          · omega
          · have := near_far (c := c) (j := p - 1) hi (by omega) hk (by omega) (by omega)
            rw [this] at h0; cases h0
      refine ⟨i, hi, hip, ?_, hk⟩
      by_cases hx : i < e
      · exact hx
      · exfalso
        rcases h5 with h5 | h5
        · omega
        · have := near_far (c := c) (j := e) hi (by omega) hk (by omega) (by omega)
          rw [this] at h5; cases h5
    · have hb' : (nearB L c).getD p false = false := by simpa using hb
      obtain ⟨ws, h1, h2⟩ := io (.inr (by simpa using hb'))
      refine ⟨ws, ?_, h2.back hpl (near_keep32 hpl hb')⟩
      rw [h1, foldH_quiet (i := p) (p + 1) (by omega) (by omega) (fun j a b => by
        have : j = p := by omega
        rw [this]; exact hb')]
/-- the hunks of a way -/
theorem hunks_wins (L : List StepB) (c : Nat) : ∃ ws, hunksM L c = ws.map (fun p => numL (mkW L p)) ∧ Wins L 0 ws := by
  obtain ⟨ws, h1, h2⟩ := (wins_all L c L.length 0 (by omega) (by omega)).1 (.inl rfl)
  refine ⟨ws, ?_, h2⟩
  unfold hunksM
  rw [h1]
  simp [foldH]
end Go.Proofs.YtcclgodahlinbaaDoor

namespace Go.Proofs.YtcclgodahlinbaaDoor
open Go.RowKit Go
set_option maxRecDepth 100000

theorem take_seg {α : Type} (L : List α) {s e : Nat} (h : s ≤ e) : L.take e = L.take s ++ (L.take e).drop s := by
  conv => lhs; rw [← List.take_append_drop s (L.take e)]
  rw [List.take_take, Nat.min_eq_left h]
theorem cO_seg (L : List StepB) {s e : Nat} (h : s ≤ e) : cO (L.take e) = cO (L.take s) + cO ((L.take e).drop s) := by conv => lhs; rw [take_seg L h, cO_append]
theorem cN_seg (L : List StepB) {s e : Nat} (h : s ≤ e) : cN (L.take e) = cN (L.take s) + cN ((L.take e).drop s) := by conv => lhs; rw [take_seg L h, cN_append]
theorem kept_seg {L : List StepB} {a b : Nat} (h : Kept L a b) : ∀ s ∈ (L.take b).drop a, s.kind = 32 := by
  intro s hs
  obtain ⟨i, hi, rfl⟩ := List.getElem_of_mem hs
  rw [List.length_drop, List.length_take] at hi
  rw [List.getElem_drop, List.getElem_take]
  exact h _ _ (by omega) (by omega)
theorem keeps_same {M : List StepB} (h : ∀ s ∈ M, s.kind = 32) : Dn.oldOf M = M.map (·.text) ∧ Dn.newOf M = M.map (·.text) := by
  unfold Dn.oldOf Dn.newOf
  rw [List.filter_eq_self.2 (fun s hs => by simp [h s hs]), List.filter_eq_self.2 (fun s hs => by simp [h s hs])]
  exact ⟨rfl, rfl⟩
theorem cOL_le (L : List StepB) : cO L ≤ L.length := by unfold cO Dn.oldOf; rw [List.length_map]; exact List.length_filter_le _ _
theorem cNL_le (L : List StepB) : cN L ≤ L.length := by unfold cN Dn.newOf; rw [List.length_map]; exact List.length_filter_le _ _
theorem place_num (o k : Nat) : placeM (o + (if k = 0 then 0 else 1)) k = o := by
  unfold placeM
  by_cases h : k = 0
  · simp [h]
  · simp [h]
/-- lines of a way as the statements have them -/
def WayOk (L : List StepB) : Prop := ∀ s ∈ L, (s.kind = 32 ∨ s.kind = 45 ∨ s.kind = 43) ∧ (10 : UInt8) ∉ s.text.data.toList ∧ s.text.size ≤ 15
theorem wins_right {L : List StepB} (hL : WayOk L) (hl : L.length ≤ 200) : ∀ (ws : List (Nat × Nat)) (p : Nat), p ≤ L.length → Wins L p ws →
    rightM (cO (L.take p)) ((cN (L.take p) : Int) - cO (L.take p)) (ws.map fun p => numL (mkW L p)) = true ∧ (ws.map fun p => numL (mkW L p)).all hunkOkB = true
  | [], _, _, _ => ⟨rfl, rfl⟩
  | (s, e) :: ws, p, hp, h => by
    obtain ⟨h1, h2, h3, h4, ⟨j, hj, j1, j2, j3⟩, h5⟩ := h
    obtain ⟨ir, io⟩ := wins_right hL hl ws e h3 h5
    have hk := keeps_same (kept_seg h4)
    have e1 := cO_seg L h1
    have e2 := cN_seg L h1
    have e3 := cO_seg L (Nat.le_of_lt h2)
    have e4 := cN_seg L (Nat.le_of_lt h2)
    have hsame : cO ((L.take s).drop p) = cN ((L.take s).drop p) := by unfold cO cN; rw [hk.1, hk.2]
    have hmem : ∀ x ∈ (L.take e).drop s, x ∈ L := fun x hx => List.mem_of_mem_take (List.mem_of_mem_drop hx)
    have hm := matchM_of ((L.take e).drop s) false (fun x hx => ⟨(hL x (hmem x hx)).1, (hL x (hmem x hx)).2.1⟩) (.inr ⟨L[j], by
      rw [List.mem_iff_getElem]
      refine ⟨j - s, by rw [List.length_drop, List.length_take]; omega, ?_⟩
      rw [List.getElem_drop, List.getElem_take]
      congr 1
      omega, j3⟩)
    have b1 := cOL_le (L.take s)
    have b2 := cNL_le (L.take s)
    have b3 := cOL_le ((L.take e).drop s)
    have b4 := cNL_le ((L.take e).drop s)
    have b5 : (L.take s).length ≤ 200 := by rw [List.length_take]; omega
    have b6 : ((L.take e).drop s).length ≤ 200 := by rw [List.length_drop, List.length_take]; omega
    have hW : numL (mkW L (s, e)) = ⟨cO (L.take s) + (if cO ((L.take e).drop s) = 0 then 0 else 1), cO ((L.take e).drop s), cN (L.take s) + (if cN ((L.take e).drop s) = 0 then 0 else 1), cN ((L.take e).drop s), (L.take e).drop s⟩ := rfl
    have pO := place_num (cO (L.take s)) (cO ((L.take e).drop s))
    have pN := place_num (cN (L.take s)) (cN ((L.take e).drop s))
    have hx : (textL (Dn.newOf ((L.take e).drop s))).length ≤ 10000 := by
      have := textL_bound (Dn.newOf ((L.take e).drop s)) 15 (by
        intro t ht
        obtain ⟨x, hx, rfl⟩ := List.mem_map.1 ht
        exact (hL x (hmem x (List.mem_filter.1 hx).1)).2.2)
      have h6 : (Dn.newOf ((L.take e).drop s)).length ≤ 200 := by
        have : (Dn.newOf ((L.take e).drop s)).length = cN ((L.take e).drop s) := rfl
        omega
      have := Nat.mul_le_mul_right 16 h6
      omega
    rw [List.map_cons, hW]
    generalize (L.take e).drop s = W at *
    refine ⟨?_, ?_⟩
    · unfold rightM fitsM
      simp only [pO, pN]
      rw [hm]
      have hr : rightM (cO (L.take s) + cO W) ((cN (L.take p) : Int) - cO (L.take p) + cN W - cO W) (ws.map fun p => numL (mkW L p)) = true := by
        have : (cN (L.take p) : Int) - cO (L.take p) + cN W - cO W = (cN (L.take e) : Int) - cO (L.take e) := by omega
        rw [this, ← e3]
        exact ir
      rw [hr]
      simp only [Bool.and_true, Bool.and_eq_true, decide_eq_true_eq]
      refine ⟨⟨⟨⟨⟨⟨⟨⟨?_, ?_⟩, ?_⟩, ?_⟩, ?_⟩, ?_⟩, ?_⟩, ?_⟩, ?_⟩
      all_goals first | omega | (split <;> omega)
    · rw [List.all_cons, io, Bool.and_true]
      unfold hunkOkB
      simp only [Bool.and_eq_true, decide_eq_true_eq, List.all_eq_true, Bool.or_eq_true, beq_iff_eq]
      refine ⟨⟨⟨⟨fun x hx' => ?_, by omega⟩, ?_⟩, ?_⟩, hx⟩
      · have := (hL x (hmem x hx')).1
        omega
      · split <;> omega
      · split <;> omega

/-! ### the same, moved -/
theorem aroundL_mem (p : Int) : ∀ k d : Nat, d ≤ k → p + (d : Int) ∈ aroundL p k := by
  intro k
  induction k with
  | zero => intro d h; obtain rfl : d = 0 := by omega
            simp [aroundL]
  | succ k ih =>
    intro d h
    rw [aroundL, List.mem_append]
    by_cases e : d = k + 1
    · right
      subst e
      simp
    · left
      exact ih d (by omega)
theorem find_unique {α : Type} {p : α → Bool} {a : α} : ∀ {l : List α}, a ∈ l → p a = true → (∀ b ∈ l, p b = true → b = a) → l.find? p = some a
  | [], h, _, _ => by simp at h
  | b :: l, h, ha, hu => by
    by_cases hb : p b = true
    · rw [List.find?_cons_of_pos hb, hu b (by simp) hb]
    · rw [List.find?_cons_of_neg hb]
      refine find_unique ?_ ha (fun c hc => hu c (List.mem_cons_of_mem _ hc))
      rcases List.mem_cons.1 h with rfl | h
      · exact absurd ha hb
      · exact h
/-- a text that holds a way's old lines, each line of them once -/
structure Once (L : List StepB) (A Z T : List ByteArray) : Prop where
  eq : T = A ++ Dn.oldOf L ++ Z
  one : ∀ x k (hx : x < T.length) (hk : k < (Dn.oldOf L).length), T[x] = (Dn.oldOf L)[k] → x = A.length + k
theorem Once.seg {L : List StepB} {A Z T : List ByteArray} (h : Once L A Z T) {p s : Nat} (hp : p ≤ s) : (T.drop (A.length + cO (L.take p))).take (cO ((L.take s).drop p)) = Dn.oldOf ((L.take s).drop p) := by
  have e1 : L = L.take p ++ (L.take s).drop p ++ L.drop s := by rw [← take_seg L hp, List.take_append_drop]
  have e2 : T = (A ++ Dn.oldOf (L.take p)) ++ (Dn.oldOf ((L.take s).drop p) ++ (Dn.oldOf (L.drop s) ++ Z)) := by
    rw [h.eq]
    conv => lhs; rw [e1, Dn.oldOf_append, Dn.oldOf_append]
    simp
  have e3 : A.length + cO (L.take p) = (A ++ Dn.oldOf (L.take p)).length := by rw [List.length_append]; rfl
  rw [e3, e2, List.drop_left' rfl]
  have e4 : cO ((L.take s).drop p) = (Dn.oldOf ((L.take s).drop p)).length := rfl
  rw [e4, List.take_left' rfl]
structure SInv (L : List StepB) (A T : List ByteArray) (p : Nat) (st : SewS) : Prop where
  en : st.en ≤ A.length + cO (L.take p)
  t : st.t ++ textL ((T.drop st.en).take (A.length + cO (L.take p) - st.en)) = textL (A ++ Dn.newOf (L.take p))
  mv : st.mv = 0 ∨ st.mv = A.length
theorem SInv.keep {L : List StepB} {A Z T : List ByteArray} (hO : Once L A Z T) {p s : Nat} {st : SewS} (h : SInv L A T p st) (hp : p ≤ s) (hk : Kept L p s) : SInv L A T s st := by
  have e1 := cO_seg L hp
  have hk2 := keeps_same (kept_seg hk)
  have hen := h.en
  refine ⟨by omega, ?_, h.mv⟩
  have e2 : A.length + cO (L.take s) - st.en = (A.length + cO (L.take p) - st.en) + cO ((L.take s).drop p) := by omega
  rw [e2, List.take_add, List.drop_drop, show st.en + (A.length + cO (L.take p) - st.en) = A.length + cO (L.take p) by omega, hO.seg hp, textL_append, ← List.append_assoc, h.t, ← textL_append]
  congr 1
  conv => rhs; rw [take_seg L hp, Dn.newOf_append]
  rw [hk2.1, hk2.2, List.append_assoc]
theorem sew_moved {L : List StepB} {A Z T : List ByteArray} (hO : Once L A Z T) {s e : Nat} {st : SewS} (h : SInv L A T s st) (h1 : s < e) (hw : 0 < cO ((L.take e).drop s)) :
    (sewM T st (numL (mkW L (s, e))) 0).2 = ⟨true, A.length, 0⟩ ∧ SInv L A T e (sewM T st (numL (mkW L (s, e))) 0).1 := by
  have hseg := hO.seg (Nat.le_of_lt h1)
  have e3 := cO_seg L (Nat.le_of_lt h1)
  have hpl : placeM (numL (mkW L (s, e))).fr (numL (mkW L (s, e))).fc = cO (L.take s) := place_num _ _
  have hln : (numL (mkW L (s, e))).lines = (L.take e).drop s := rfl
  have hX : (Dn.oldOf L).length = cO (L.take e) + cO (L.drop e) := by
    have : L = L.take e ++ L.drop e := (List.take_append_drop e L).symm
    conv => lhs; rw [this, Dn.oldOf_append, List.length_append]
    rfl
  have hT : T.length = A.length + (Dn.oldOf L).length + Z.length := by rw [hO.eq]; simp; omega
  have hen := h.en
  have hfind : sewAt T st.en st.mv (numL (mkW L (s, e))) 0 = some ((A.length + cO (L.take s) : Nat) : Int) := by
    unfold sewAt
    rw [hpl, hln, pieceO_zero]
    simp only [Nat.zero_min, Int.natCast_zero, Int.add_zero]
    refine find_unique ?_ ?_ ?_
    · rcases h.mv with e | e
      · rw [e]
        have := aroundL_mem ((cO (L.take s) : Nat) + (0 : Int)) T.length A.length (by omega)
        rw [show ((A.length + cO (L.take s) : Nat) : Int) = ((cO (L.take s) : Nat) : Int) + 0 + (A.length : Int) by omega]
        exact this
      · rw [e]
        have := aroundL_mem ((cO (L.take s) : Nat) + (A.length : Int)) T.length 0 (by omega)
        rw [show ((A.length + cO (L.take s) : Nat) : Int) = ((cO (L.take s) : Nat) : Int) + (A.length : Int) + ((0 : Nat) : Int) by omega]
        exact this
    · unfold standM
      rw [decide_eq_true_eq]
      have e4 : (Dn.oldOf ((L.take e).drop s)).length = cO ((L.take e).drop s) := rfl
      refine ⟨by omega, by rw [e4]; omega, ?_⟩
      rw [Int.toNat_natCast, e4]
      exact hseg
    · intro x _ hx
      unfold standM at hx
      rw [decide_eq_true_eq] at hx
      obtain ⟨x1, x2, x3⟩ := hx
      have e4 : (Dn.oldOf ((L.take e).drop s)).length = cO ((L.take e).drop s) := rfl
      have hxt : x.toNat < T.length := by omega
      have g1 : T[x.toNat] = (Dn.oldOf ((L.take e).drop s))[0]'(by omega) := by
        have : ((T.drop x.toNat).take (Dn.oldOf ((L.take e).drop s)).length)[0]'(by rw [List.length_take, List.length_drop]; omega) = T[x.toNat] := by
          rw [List.getElem_take, List.getElem_drop]
          simp
        rw [← this]
        simp only [x3]
      have g2 : (Dn.oldOf ((L.take e).drop s))[0]'(by omega) = (Dn.oldOf L)[cO (L.take s)]'(by omega) := by
        have e1 : L = L.take s ++ (L.take e).drop s ++ L.drop e := by rw [← take_seg L (Nat.le_of_lt h1), List.take_append_drop]
        have e5 : Dn.oldOf L = Dn.oldOf (L.take s) ++ (Dn.oldOf ((L.take e).drop s) ++ Dn.oldOf (L.drop e)) := by
          conv => lhs; rw [e1, Dn.oldOf_append, Dn.oldOf_append]
          simp
        have e6 : (Dn.oldOf (L.take s)).length = cO (L.take s) := rfl
        have g3 : (Dn.oldOf L)[cO (L.take s)]? = (Dn.oldOf ((L.take e).drop s))[0]? := by
          rw [e5, List.getElem?_append_right (by rw [e6]; exact Nat.le_refl _), e6, Nat.sub_self, List.getElem?_append_left (by rw [e4]; exact hw)]
        rw [List.getElem?_eq_getElem (by omega), List.getElem?_eq_getElem (by rw [e4]; exact hw)] at g3
        exact (Option.some.inj g3).symm
      have := hO.one x.toNat (cO (L.take s)) hxt (by omega) (g1.trans g2)
      omega
  have hsew : sewM T st (numL (mkW L (s, e))) 0 = (sewTo T st (numL (mkW L (s, e))) 0 ((A.length + cO (L.take s) : Nat) : Int), ⟨true, ((A.length + cO (L.take s) : Nat) : Int) - (cO (L.take s) : Nat), 0⟩) := by
    unfold sewM sewFind
    rw [sewRounds_zero]
    unfold sewFrom
    simp only [hfind, hpl]
  rw [hsew]
  refine ⟨by simp only; congr 1; omega, ?_⟩
  unfold sewTo
  rw [hpl, hln, pieceO_zero, pieceF_zero]
  simp only [Nat.zero_min, Int.natCast_zero, Int.add_zero, Int.toNat_natCast]
  have e4 : (Dn.oldOf ((L.take e).drop s)).length = cO ((L.take e).drop s) := rfl
  refine ⟨by show A.length + cO (L.take s) + (Dn.oldOf ((L.take e).drop s)).length ≤ _; rw [e4]; omega, ?_, .inr (by show ((A.length + cO (L.take s) : Nat) : Int) - (cO (L.take s) : Nat) = _; omega)⟩
  simp only [e4]
  rw [show A.length + cO (L.take e) - (A.length + cO (L.take s) + cO ((L.take e).drop s)) = 0 by omega, List.take_zero, h.t, ← textL_append]
  have : textL ([] : List ByteArray) = [] := rfl
  rw [this, List.append_nil]
  congr 1
  conv => rhs; rw [take_seg L (Nat.le_of_lt h1), Dn.newOf_append]
  rw [List.append_assoc]
theorem apply_moved {L : List StepB} {A Z T : List ByteArray} (hO : Once L A Z T) : ∀ (ws : List (Nat × Nat)) (p : Nat) (st : SewS), p ≤ L.length → Wins L p ws → (∀ w ∈ ws, 0 < cO ((L.take w.2).drop w.1)) → SInv L A T p st →
    (∀ m ∈ (applyFrom T 0 st (ws.map fun p => numL (mkW L p))).2, m = ⟨true, A.length, 0⟩) ∧
    (applyFrom T 0 st (ws.map fun p => numL (mkW L p))).1.t ++ textL (T.drop (applyFrom T 0 st (ws.map fun p => numL (mkW L p))).1.en) = textL (A ++ Dn.newOf L ++ Z)
  | [], p, st, hp, hw, _, hs => by
    refine ⟨by simp [applyFrom], ?_⟩
    have h := hs.keep hO hw.1 hw.2
    have hen := h.en
    rw [List.take_length] at hen
    have ht := h.t
    rw [List.take_length] at ht
    have hX : cO L = (Dn.oldOf L).length := rfl
    show st.t ++ textL (T.drop st.en) = _
    have e1 : T.drop st.en = (T.drop st.en).take (A.length + cO L - st.en) ++ Z := by
      conv => lhs; rw [← List.take_append_drop (A.length + cO L - st.en) (T.drop st.en)]
      rw [List.drop_drop, show st.en + (A.length + cO L - st.en) = (A ++ Dn.oldOf L).length by rw [List.length_append]; omega]
      congr 1
      rw [hO.eq, List.drop_left' rfl]
    rw [e1, textL_append, ← List.append_assoc, ht, ← textL_append]
  | (s, e) :: ws, p, st, hp, hw, hc, hs => by
    obtain ⟨h1, h2, h3, h4, _, h5⟩ := hw
    have h := hs.keep hO h1 h4
    obtain ⟨r1, r2⟩ := sew_moved hO h h2 (hc (s, e) (by simp))
    obtain ⟨i1, i2⟩ := apply_moved hO ws e _ h3 h5 (fun w hw' => hc w (List.mem_cons_of_mem _ hw')) r2
    rw [List.map_cons]
    unfold applyFrom
    simp only
    refine ⟨?_, i2⟩
    intro m hm
    rcases List.mem_cons.1 hm with rfl | hm
    · exact r1
    · exact i1 m hm

def aheadB : ByteArray := ⟨#[97, 104, 101, 97, 100]⟩
def behindB : ByteArray := ⟨#[98, 101, 104, 105, 110, 100]⟩
def movedT (X : List ByteArray) (n m : Nat) : List ByteArray := List.replicate n aheadB ++ X ++ List.replicate m behindB
structure MovedFacts (X Y : List ByteArray) (n m : Nat) (hs : List HunkM) : Prop where
  eq : hunksM (Dn.wayM X Y) 3 = hs
  right : rightM 0 0 hs = true
  ok : hs.all hunkOkB = true
  len : hs.length ≤ 200
  moved : X.Nodup → (∀ h ∈ hs, 0 < h.fc) → (∀ s ∈ applyS (movedT X n m) 0 hs, s = ⟨true, n, 0⟩) ∧ applyT (movedT X n m) 0 hs = textB (movedT Y n m)
theorem wins_length {L : List StepB} : ∀ (ws : List (Nat × Nat)) (p : Nat), Wins L p ws → ws.length + p ≤ L.length
  | [], p, h => by have := h.1; simpa using this
  | (s, e) :: ws, p, h => by
    have := wins_length ws e h.2.2.2.2.2
    have h1 := h.1
    have h2 := h.2.1
    simp only [List.length_cons]
    omega
theorem moved_facts {X Y : List ByteArray} (n m : Nat) (hX : ∀ s ∈ X, (10 : UInt8) ∉ s.data.toList ∧ s.size ≤ 15 ∧ s.size ≠ 5 ∧ s.size ≠ 6) (hY : ∀ s ∈ Y, (10 : UInt8) ∉ s.data.toList ∧ s.size ≤ 15) (hl : X.length + Y.length ≤ 200) : ∃ hs, MovedFacts X Y n m hs := by
  obtain ⟨w1, w2, w3⟩ := Dn.wayM_way X Y
  have hlen : (Dn.wayM X Y).length ≤ 200 := by
    have := way_len X Y
    omega
  have hok : WayOk (Dn.wayM X Y) := by
    intro s hs
    refine ⟨w3 s hs, ?_⟩
    rcases way_text hs with h | h
    · exact ⟨(hX _ h).1, (hX _ h).2.1⟩
    · exact hY _ h
  obtain ⟨ws, e1, e2⟩ := hunks_wins (Dn.wayM X Y) 3
  obtain ⟨r1, r2⟩ := wins_right hok hlen ws 0 (Nat.zero_le _) e2
  refine ⟨_, e1, by simpa [cO, cN, Dn.oldOf, Dn.newOf] using r1, r2, ?_, ?_⟩
  · have := wins_length ws 0 e2
    rw [List.length_map]
    omega
  · intro hnd hwh
    have hO : Once (Dn.wayM X Y) (List.replicate n aheadB) (List.replicate m behindB) (movedT X n m) := by
      refine ⟨by unfold movedT; rw [w1], ?_⟩
      intro x k hx hk he
      simp only [w1] at he hk
      have hmem := (hX X[k] (List.getElem_mem hk)).2.2
      have a5 : aheadB.size = 5 := rfl
      have b6 : behindB.size = 6 := rfl
      rw [List.length_replicate]
      have he2 : (movedT X n m)[x]? = some X[k] := by rw [List.getElem?_eq_getElem hx, he]
      have hxl : x < n + X.length + m := by have h2 := hx; unfold movedT at h2; simp at h2; omega
      unfold movedT at he2
      by_cases c1 : x < n
      · exfalso
        rw [List.getElem?_append_left (by simp; omega), List.getElem?_append_left (by simpa using c1), List.getElem?_replicate, if_pos c1] at he2
        rw [← Option.some.inj he2, a5] at hmem
        exact hmem.1 rfl
      · by_cases c2 : x < n + X.length
        · rw [List.getElem?_append_left (by simp; omega), List.getElem?_append_right (by simp; omega), List.length_replicate, List.getElem?_eq_getElem (by omega)] at he2
          have hpw := List.pairwise_iff_getElem.1 (List.nodup_iff_pairwise_ne.1 hnd)
          have he3 := Option.some.inj he2
          rcases Nat.lt_trichotomy (x - n) k with h1 | h1 | h1
          · exact absurd he3 (hpw _ _ (by omega) hk h1)
          · omega
          · exact absurd he3.symm (hpw _ _ hk (by omega) h1)
        · exfalso
          rw [List.getElem?_append_right (by simp; omega), List.getElem?_replicate, if_pos (by simp; omega)] at he2
          rw [← Option.some.inj he2, b6] at hmem
          exact hmem.2 rfl
    obtain ⟨m1, m2⟩ := apply_moved hO ws 0 ⟨[], 0, 0⟩ (Nat.zero_le _) e2 (fun w hw => hwh _ (List.mem_map.2 ⟨w, hw, rfl⟩)) ⟨Nat.zero_le _, by
      have h0 : cO ([] : List StepB) = 0 := rfl
      simp only [List.drop_zero, Nat.sub_zero, List.nil_append, List.take_zero]
      rw [h0, Nat.add_zero]
      unfold movedT
      rw [List.append_assoc, List.take_left' rfl]
      have : Dn.newOf ([] : List StepB) = [] := rfl
      rw [this, List.append_nil], .inl rfl⟩
    rw [List.length_replicate] at m1
    rw [w2] at m2
    refine ⟨?_, ?_⟩
    · unfold applyS applyK
      rw [List.take_length]
      exact m1
    · unfold applyT applyK textB movedT
      rw [List.take_length]
      rw [← m2]
      rfl
end Go.Proofs.YtcclgodahlinbaaDoor

namespace Go.Proofs.YtcclgodahlinbaaDoor
open Go.RowKit Go
set_option maxRecDepth 100000

/-- a row of strings in a block of its own -/
def RowN (base : Nat) (w : World) (g cap n : Nat) (L : List ByteArray) : Prop := L.length = n ∧ w.ownsRow base 9 1 (.slice (some ⟨g, 0, none⟩) n cap) n (strCells L)
theorem strCells_set (L : List ByteArray) (j : Nat) (s : ByteArray) : (strCells L).set j (.string s) = strCells (L.set j s) := by unfold strCells; rw [List.map_set]
theorem strCells_one (L : List ByteArray) : ∀ u ∈ strCells L, u.oneCell' = true := by
  intro u hu
  obtain ⟨s, _, rfl⟩ := List.mem_map.1 hu
  rfl
theorem strCells_length (L : List ByteArray) : (strCells L).length = L.length := by simp [strCells]
theorem RowN.rowS {base : Nat} {w : World} {g cap n : Nat} {L : List ByteArray} (h : RowN base w g cap n L) : RowS w (.slice (some ⟨g, 0, none⟩) n cap) L := by
  obtain ⟨rfl, h⟩ := h
  exact RowS.of_owns h
theorem RowN.cell {base : Nat} {w : World} {g cap n : Nat} {L : List ByteArray} (h : RowN base w g cap n L) {j : Nat} (hj : j < n) : w.cell? ⟨g, j, none⟩ = some (.string (L.getD j ByteArray.empty)) := by
  rw [h.2.cellAt j (by omega)]
  have := h.1
  simp [strCells, List.getD, show j < L.length by omega]
theorem RowN.frozen {base : Nat} {w : World} {g cap n : Nat} {L : List ByteArray} (h : RowN base w g cap n L) (j : Nat) : w.frozen? ⟨g, j, none⟩ = false := h.2.frozenAt j
theorem RowN.store {base : Nat} {w : World} {g cap n : Nat} {L : List ByteArray} (h : RowN base w g cap n L) (j : Nat) (s : ByteArray) : RowN base (w.setCell ⟨g, j, none⟩ (.string s)) g cap n (L.set j s) :=
  ⟨by rw [List.length_set]; exact h.1, by rw [← strCells_set]; exact (h.2.stored j (.string s)).1⟩
theorem RowN.lt {base : Nat} {w : World} {g cap n : Nat} {L : List ByteArray} (h : RowN base w g cap n L) : base ≤ g ∧ g < w.heap.size := h.2.lt g rfl
theorem RowN.below {base B : Nat} {w w' : World} {g cap n : Nat} {L : List ByteArray} (h : RowN base w g cap n L) (hb : Below B w w') (hg : g < B) : RowN base w' g cap n L := by
  refine ⟨h.1, h.2.1, ?_⟩
  rcases h.2.2 with ⟨e, _⟩ | ⟨g', cap', cur, e, h1, h2, h3⟩
  · cases e
  · cases e
    exact .inr ⟨g, cap, cur, rfl, h1, (hb.block g hg).trans h2, h3⟩
theorem RowN.alloc {base : Nat} {w : World} {g cap n : Nat} {L : List ByteArray} (h : RowN base w g cap n L) (ob : Obj) : RowN base (w.alloc ob) g cap n L := ⟨h.1, h.2.alloc ob⟩
/-- a store into another block -/
theorem RowN.other {base : Nat} {w : World} {g cap n : Nat} {L : List ByteArray} (h : RowN base w g cap n L) {a : Addr} (hne : a.block ≠ g) (u : Value) : RowN base (w.setCell a u) g cap n L := by
  refine ⟨h.1, h.2.1, ?_⟩
  rcases h.2.2 with ⟨e, _⟩ | ⟨g', cap', cur, e, h1, h2, h3⟩
  · cases e
  · cases e
    exact .inr ⟨g, cap, cur, rfl, h1, (Below.heap_setCell w a u g (fun e => hne e.symm)).trans h2, h3⟩
theorem textN_any {base : Nat} {w : World} {g cap n : Nat} {L : List ByteArray} (h : RowN base w g cap n L) (hl : (textL L).length ≤ 100000) :
    Calls Tryd.prog 15 #[.slice (some ⟨g, 0, none⟩) n cap] w fun e w' => e = .returned (.string (textB L)) ∧ w = w' := by
  obtain ⟨rfl, h⟩ := h
  exact ktext_any (RowS.of_owns h) hl

/-- append(nil, x...) -/
theorem wpList_copyN {ops : Array Oper} {rest : List Oper} {o : Oper} {a : Act} {w : World} {Q : Exit → Act → World → Prop} (hgd : o.guard = none) (s x : Operand)
    (ho : o.op = .call { callee := .builtin .append, args := #[s, x], argTypes := #[31, 31] }) (hs : a.eval s = .slice none 0 0)
    {base gx cx n : Nat} {L : List ByteArray} (hx : a.eval x = .slice (some ⟨gx, 0, none⟩) n cx) (hX : RowN base w gx cx n L) (hp : 0 < n) (hn : n ≤ 1000)
    (h : ∀ gy cy w', w.heap.size ≤ gy → gy < w'.heap.size → RowN w.heap.size w' gy cy n L → Below w.heap.size w w' → wpList Tryd.prog ops Q rest (a.put o.dst (.slice (some ⟨gy, 0, none⟩) n cy)) w') : wpList Tryd.prog ops Q (o :: rest) a w := by
  obtain ⟨i0, hi, hz0, hz1, hz2⟩ := info_parts info_str
  refine wpList_append_own2 hgd s x 31 ho w.heap.size 9 i0 _ 1 16 Tryd.underlying31 hi hz0 hz1 hz2 rfl (by decide) (.slice none 0 0) 0 [] hs (World.ownsRow_nil _ _ _ _) ⟨gx, 0, none⟩ n cx (strCells L) hx
    (by rw [strCells_length, hX.1]; omega) (hX.2.cells rfl) (strCells_one L) (by unfold maxLen; omega) (by omega) (Nat.le_refl _) ?_
  intro v' w' hown hgr hnew
  rw [Nat.zero_add, List.nil_append] at hown
  obtain ⟨gy, cy, rfl, h1, h2, _⟩ := owns_slice hown hp
  exact h gy cy w' h1 h2 ⟨hX.1, hown⟩ ⟨hgr.os, hgr.tape, hgr.output, hgr.size, fun k hk => hgr.block k hk (by simp [Value.ownBlock])⟩
end Go.Proofs.YtcclgodahlinbaaDoor

namespace Go.Proofs.YtcclgodahlinbaaDoor
open Go.RowKit Go
set_option maxRecDepth 100000

/-- the eleven lines -/
def lineTab : List ByteArray := [⟨#[]⟩, ⟨#[97]⟩, ⟨#[98]⟩, ⟨#[99]⟩, ⟨#[97, 32, 98]⟩, ⟨#[32, 32, 120]⟩, ⟨#[45, 97]⟩, ⟨#[43, 98]⟩, ⟨#[64, 64, 32, 45, 49, 44, 49, 32, 43, 49, 44, 49, 32, 64, 64]⟩, ⟨#[195, 169]⟩, ⟨#[32]⟩]
def lineK (i : Nat) : ByteArray := lineTab.getD i ByteArray.empty
def lineOf (c : Int) : ByteArray := lineK (pickN c 11)
theorem lineK_ok {i : Nat} (h : i < 11) : (10 : UInt8) ∉ (lineK i).data.toList ∧ (lineK i).size ≤ 15 := by
  have h1 : ((List.range 11).all fun i => !(lineK i).data.toList.contains 10 && decide ((lineK i).size ≤ 15)) = true := by kernel_rfl
  have h2 := (List.all_eq_true.1 h1) i (List.mem_range.2 h)
  simp only [Bool.and_eq_true, decide_eq_true_eq] at h2
  exact ⟨by simpa using h2.1, h2.2⟩
theorem lineOf_ok (c : Int) : (10 : UInt8) ∉ (lineOf c).data.toList ∧ (lineOf c).size ≤ 15 := lineK_ok (pickN_lt c (by decide))

set_option maxHeartbeats 1000000 in
theorem line_any (c : Int) (w : World) (hc : -9223372036854775808 ≤ c ∧ c ≤ 9223372036854775807) :
    Calls Tryd.prog 13 #[.int .i64 c] w fun e w' => e = .returned (.string (lineOf c)) ∧ Below w.heap.size w w' := by
  have hp := fun w => pick_any c 11 w hc (by decide) (by decide)
  have hl := pickN_lt c (n := 11) (by decide)
  unfold lineOf
  generalize pickN c 11 = i at *
  have hb := (Below.refl w.heap.size w).alloc (Nat.le_refl _) (.cells #[.string ⟨#[]⟩, .string ⟨#[97]⟩, .string ⟨#[98]⟩, .string ⟨#[99]⟩, .string ⟨#[97, 32, 98]⟩, .string ⟨#[32, 32, 120]⟩, .string ⟨#[45, 97]⟩, .string ⟨#[43, 98]⟩, .string ⟨#[64, 64, 32, 45, 49, 44, 49, 32, 43, 49, 44, 49, 32, 64, 64]⟩, .string ⟨#[195, 169]⟩, .string ⟨#[32]⟩] 9)
  have hB := heap_alloc_new w (.cells #[.string ⟨#[]⟩, .string ⟨#[97]⟩, .string ⟨#[98]⟩, .string ⟨#[99]⟩, .string ⟨#[97, 32, 98]⟩, .string ⟨#[32, 32, 120]⟩, .string ⟨#[45, 97]⟩, .string ⟨#[43, 98]⟩, .string ⟨#[64, 64, 32, 45, 49, 44, 49, 32, 43, 49, 44, 49, 32, 64, 64]⟩, .string ⟨#[195, 169]⟩, .string ⟨#[32]⟩] 9)
  have hcell : (w.alloc (.cells #[.string ⟨#[]⟩, .string ⟨#[97]⟩, .string ⟨#[98]⟩, .string ⟨#[99]⟩, .string ⟨#[97, 32, 98]⟩, .string ⟨#[32, 32, 120]⟩, .string ⟨#[45, 97]⟩, .string ⟨#[43, 98]⟩, .string ⟨#[64, 64, 32, 45, 49, 44, 49, 32, 43, 49, 44, 49, 32, 64, 64]⟩, .string ⟨#[195, 169]⟩, .string ⟨#[32]⟩] 9)).cell? ⟨w.heap.size, i, none⟩ = some (.string (lineK i)) := by
    refine cell_of hB ?_
    match i, hl with
    | 0, _ => rfl
    | 1, _ => rfl
    | 2, _ => rfl
    | 3, _ => rfl
    | 4, _ => rfl
    | 5, _ => rfl
    | 6, _ => rfl
    | 7, _ => rfl
    | 8, _ => rfl
    | 9, _ => rfl
    | 10, _ => rfl
    | k + 11, h => exact absurd h (by omega)
  go_enter Tryd.func13, Tryd.ntmps13
  go_wp2_with fail
  generalize w.alloc (.cells #[.string ⟨#[]⟩, .string ⟨#[97]⟩, .string ⟨#[98]⟩, .string ⟨#[99]⟩, .string ⟨#[97, 32, 98]⟩, .string ⟨#[32, 32, 120]⟩, .string ⟨#[45, 97]⟩, .string ⟨#[43, 98]⟩, .string ⟨#[64, 64, 32, 45, 49, 44, 49, 32, 43, 49, 44, 49, 32, 64, 64]⟩, .string ⟨#[195, 169]⟩, .string ⟨#[32]⟩] 9) = W at hb hcell ⊢
  refine (hp _).mono ?_
  rintro e w' ⟨rfl, rfl⟩
  have hiI : (i : Int) < 11 := by omega
  go_wp2_with fail
  go_ret
  exact ⟨rfl, hb⟩

/-- a row of ints, as it is read -/
def RowI (w : World) (v : Value) (L : List Int) : Prop :=
  (L = [] ∧ ∃ a c, v = .slice a 0 c) ∨ ∃ b off cap, v = .slice (some ⟨b, off, none⟩) L.length cap ∧ b < w.heap.size ∧ ∀ i (h : i < L.length), w.cell? ⟨b, off + i, none⟩ = some (.int .i64 L[i])
theorem RowI.below {w w' : World} {v : Value} {L : List Int} (h : RowI w v L) (hb : Below w.heap.size w w') : RowI w' v L := by
  rcases h with h | ⟨b, off, cap, e, hB, hc⟩
  · exact .inl h
  · exact .inr ⟨b, off, cap, e, Nat.lt_of_lt_of_le hB hb.size, fun i hi => (hb.cell (p := ⟨b, off + i, none⟩) hB).trans (hc i hi)⟩
theorem RowI.slice {w : World} {v : Value} {L : List Int} (h : RowI w v L) : ∃ a c, v = .slice a L.length c := by
  rcases h with ⟨rfl, a, c, rfl⟩ | ⟨b, off, cap, rfl, _⟩
  · exact ⟨a, c, rfl⟩
  · exact ⟨_, _, rfl⟩
theorem RowI.at {w : World} {a : Option Addr} {n c : Nat} {L : List Int} (h : RowI w (.slice a n c) L) {i : Nat} (hi : i < L.length) : ∃ b off, a = some ⟨b, off, none⟩ ∧ w.cell? ⟨b, off + i, none⟩ = some (.int .i64 L[i]) := by
  rcases h with ⟨rfl, _⟩ | ⟨b, off, cap, e, _, hc⟩
  · simp at hi
  · cases e
    exact ⟨b, off, rfl, hc i hi⟩
def i64s (L : List Int) : Prop := ∀ c ∈ L, -9223372036854775808 ≤ c ∧ c ≤ 9223372036854775807
def linesK (L : List Int) : List ByteArray := (L.take 60).map lineOf
theorem linesK_plain (L : List Int) : (∀ s ∈ linesK L, (10 : UInt8) ∉ s.data.toList ∧ s.size ≤ 15) ∧ (linesK L).length ≤ 60 := by
  refine ⟨fun s hs => ?_, by unfold linesK; simp; omega⟩
  obtain ⟨c, _, rfl⟩ := List.mem_map.1 hs
  exact lineOf_ok c
set_option maxHeartbeats 4000000 in
theorem lines_any {L : List Int} {a : Option Addr} {c : Nat} {w : World} (hR : RowI w (.slice a L.length c) L) (hi64 : i64s L) :
    Calls Tryd.prog 11 #[.slice a L.length c] w fun e w' => ∃ v, e = .returned v ∧ w'.ownsRow w.heap.size 9 1 v (linesK L).length (strCells (linesK L)) ∧ Below w.heap.size w w' := by
  obtain ⟨i0, hi, hz0, hz1, hz2⟩ := info_parts info_str
  have hmn : min L.length 60 ≤ 60 := by omega
  have hfin : (linesK L).length = min L.length 60 := by unfold linesK; simp; omega
  go_enter Tryd.func11, Tryd.ntmps11
  go_wp2_with fail
  go_loopg [3, 4] (min L.length 60) (fun g v t wr => ∃ k : Nat, g = min L.length 60 - k ∧ k ≤ min L.length 60 ∧ t = .int .i64 k ∧ wr.ownsRow w.heap.size 9 1 v k (strCells ((linesK L).take k)) ∧ Below w.heap.size w wr)
  case atStart => exact ⟨0, by omega, by omega, rfl, World.ownsRow_nil _ _ _ _, Below.refl _ _⟩
  case round =>
    obtain ⟨k, hgk, hk0, rfl, ho, hbel⟩ := hrel
    have hszr := hbel.size
    obtain ⟨ax, cx, rfl⟩ := owns_isSlice ho
    have hG : Hid (gk = min L.length 60 - k) := hgk
    clear hgk
    by_cases hk : k < min L.length 60
    · have hkL : k < L.length := by omega
      have hkI : (k : Int) < L.length := by omega
      have hkJ : (k : Int) < 60 := by omega
      obtain ⟨b, off, rfl, hc⟩ := (hR.below hbel).at hkL
      have hla := line_any L[k] wr (hi64 _ (List.getElem_mem hkL))
      have hE : Hid ((linesK L).take (k + 1) = (linesK L).take k ++ [lineOf L[k]]) := by
        show _ = _
        rw [List.take_succ_eq_append_getElem (by rw [hfin]; exact hk)]
        unfold linesK
        simp
      generalize L[k] = x at *
      have hon : ∀ t : ByteArray, ∀ u ∈ [Value.string t], u.oneCell' = true := by intro t u hu; simp at hu; subst hu; rfl
      have hb1 : k + 1 ≤ maxLen := by unfold maxLen; omega
      have hb2 : (k + 1) * 16 ≤ 140737488355328 := by omega
      go_wp2_with fail
      refine hla.mono ?_
      rintro e w2 ⟨rfl, b2⟩
      have ho2 : w2.ownsRow w.heap.size 9 1 (.slice ax k cx) k (strCells ((linesK L).take k)) := ho.kept (row := none) ⟨b2.os, b2.tape, b2.output, b2.size, fun j hj _ => b2.block j hj⟩ (by cases h : (Value.slice ax k cx).ownBlock <;> simp)
      have hbel2 := hbel.trans (b2.mono hszr)
      have hz2' := b2.size
      generalize lineOf x = s at *
      go_wp2_with (at_builtin; refine wpList_append_own2 rfl (.tmp 21) (.tmp 23) 31 rfl w.heap.size 9 i0 _ 1 16 Tryd.underlying31 hi hz0 hz1 hz2 rfl (by decide) (.slice ax k cx) k (strCells ((linesK L).take k)) rfl (ho2.alloc _) ⟨w2.heap.size, 0, none⟩ 1 1 [.string s] rfl rfl (cells_new w2 [.string s] 9) (hon _) hb1 hb2 (by simp; omega) ?_; intro v' w3 hown hgr hnew; have hb3 := (hbel2.alloc (by omega) _).grown hgr (by simp; omega) (fun j e => (ho2.lt j e).1))
      go_roundg (min L.length 60 - (k + 1))
      · exact ⟨k + 1, rfl, by omega, by push_cast; rfl, by rw [hE.out, strCells_append]; exact hown, hb3⟩
      · have := hG.out; omega
    · obtain rfl : k = min L.length 60 := by omega
      rw [show (linesK L).take (min L.length 60) = linesK L from List.take_of_length_le (by omega)] at ho
      by_cases h60 : L.length < 60
      · have e1 : min L.length 60 = L.length := by omega
        rw [e1] at ho ⊢
        go_wp2_with fail
        go_ret
        exact ⟨_, rfl, by rw [hfin, e1]; exact ho, hbel⟩
      · have e1 : min L.length 60 = 60 := by omega
        rw [e1] at ho ⊢
        by_cases h6 : (60 : Int) < L.length
        · go_wp2_with fail
          go_ret
          exact ⟨_, rfl, by rw [hfin, e1]; exact ho, hbel⟩
        · have e2 : L.length = 60 := by omega
          rw [e2] at *
          go_wp2_with fail
          go_ret
          exact ⟨_, rfl, by first | exact ho | (rw [hfin]; exact ho), hbel⟩
end Go.Proofs.YtcclgodahlinbaaDoor

namespace Go.Proofs.YtcclgodahlinbaaDoor
open Go.RowKit Go
set_option maxRecDepth 100000

theorem costH_take {hs : List HunkM} {k : Nat} (h : k < hs.length) : costH (hs.take (k + 1)) = costH (hs.take k) + Dn.costW hs[k].lines := by
  rw [List.take_succ_eq_append_getElem h, costH_append, costH_one]
theorem costW_le (L : List StepB) : Dn.costW L ≤ L.length := List.length_filter_le _ _
set_option maxHeartbeats 4000000 in
theorem changed_any {hs : List HunkM} {a : Option Addr} {cap : Nat} {w : World} (hH : HunksAt w.heap.size w (.slice a hs.length cap) hs) (hL : hs.length ≤ 1000) (hl : ∀ h ∈ hs, h.lines.length ≤ 1000 ∧ ∀ s ∈ h.lines, s.kind = 32 ∨ s.kind = 45 ∨ s.kind = 43) (hc : costH hs ≤ 100000) :
    Calls Tryd.prog 16 #[.agg #[.slice a hs.length cap]] w fun e w' => e = .returned (.int .i64 (costH hs : Nat)) ∧ Below w.heap.size w w' := by
  have hb := (Below.refl w.heap.size w).alloc (Nat.le_refl _) (.cells #[.slice a hs.length cap] 37)
  have hp := cell_of (k := 0) (heap_alloc_new w (.cells #[.slice a hs.length cap] 37)) rfl
  have hH1 := hH.below hb
  have hmono : ∀ k, k ≤ hs.length → costH (hs.take k) ≤ costH hs := by
    intro k hk
    conv => rhs; rw [← List.take_append_drop k hs, costH_append]
    omega
  go_enter Tryd.func16, Tryd.ntmps16
  go_wp2_with fail
  generalize w.alloc (.cells #[.slice a hs.length cap] 37) = W at *
  go_loopg [3, 4] hs.length (fun g vn t wr => ∃ k : Nat, g = hs.length - k ∧ k ≤ hs.length ∧ t = .int .i64 k ∧ vn = .int .i64 (costH (hs.take k) : Nat) ∧ wr = W)
  case atStart => exact ⟨0, by omega, by omega, rfl, rfl, rfl⟩
  case round =>
    obtain ⟨k, hgk, hkl, rfl, rfl, rfl⟩ := hrel
    have hG : Hid (gk = hs.length - k) := hgk
    clear hgk
    by_cases hk : k < hs.length
    · have hkI : (k : Int) < hs.length := by omega
      obtain ⟨b, a'', c'', rfl, hbB, r0, r1, r2, r3, r4, hst⟩ := hH1.at (i := k) hk
      have hct := costH_take hk
      have hm2 := hmono (k + 1) (by omega)
      obtain ⟨l1, l2⟩ := hl _ (List.getElem_mem hk)
      have hK : Hid (costH (hs.take (k + 1)) = costH (hs.take k) + Dn.costW hs[k].lines) := hct
      have hM0 : costH (hs.take k) + Dn.costW hs[k].lines ≤ 100000 := by omega
      clear hct hm2 r0 r1 r2 r3
      generalize hs[k].lines = M at *
      generalize costH (hs.take k) = C at *
      go_wp2_with fail
      go_loopg [3, 5] M.length (fun g vn t wi => ∃ j : Nat, g = M.length - j ∧ j ≤ M.length ∧ t = .int .i64 j ∧ vn = .int .i64 (C + Dn.costW (M.take j) : Nat) ∧ wi = wr)
      case atStart => exact ⟨0, by omega, by omega, rfl, rfl, rfl⟩
      case round =>
        obtain ⟨j, hgj, hjl, rfl, rfl, rfl⟩ := hrel
        have hGj : Hid (_ = M.length - j) := hgj
        clear hgj
        by_cases hj : j < M.length
        · have hjI : (j : Int) < M.length := by omega
          obtain ⟨b2, rfl, hb2, s0, _⟩ := hst.at hj
          have hct := costW_take M j hj
          have hle : Dn.costW (M.take (j + 1)) ≤ Dn.costW M := by
            conv => rhs; rw [← List.take_append_drop (j + 1) M, costW_append]
            omega
          have hJ : Hid (Dn.costW (M.take (j + 1)) = Dn.costW (M.take j) + cost1 M[j]) := hct
          have hbd : C + Dn.costW (M.take j) ≤ 100000 := by omega
          have hkd := l2 _ (List.getElem_mem hj)
          clear hct hle
          unfold cost1 at hJ
          generalize M[j].kind = kd at *
          generalize Dn.costW (M.take j) = D at *
          by_cases e : kd = 32
          · subst e
            have s0' : _ = some (Value.int .u8 32) := s0
            clear s0
            go_wp2_with fail
            go_roundg (M.length - (j + 1))
            · exact ⟨j + 1, rfl, by omega, by push_cast; rfl, by have := hJ.out; rw [this]; simp, rfl⟩
            · have := hGj.out; omega
          · have q1 : ((kd : Int) != 32) = true := by simp; omega
            have q2 : ((kd : Int) == 32) = false := by simp; omega
            have hJ2 : Hid (Dn.costW (M.take (j + 1)) = D + 1) := by have := hJ.out; rw [if_neg e] at this; exact this
            clear hJ
            go_wp2_with fail
            go_roundg (M.length - (j + 1))
            · exact ⟨j + 1, rfl, by omega, by push_cast; rfl, by rw [hJ2.out]; push_cast; congr 1, rfl⟩
            · have := hGj.out; omega
        · obtain rfl : j = M.length := by omega
          rw [List.take_length]
          go_wp2_with fail
          go_roundg (hs.length - (k + 1))
          · exact ⟨k + 1, rfl, by omega, by push_cast; rfl, by rw [hK.out], rfl⟩
          · have := hG.out; omega
    · obtain rfl : k = hs.length := by omega
      go_wp2_with fail
      go_ret
      exact ⟨by rw [List.take_length]; rfl, hb⟩
end Go.Proofs.YtcclgodahlinbaaDoor

namespace Go.Proofs.YtcclgodahlinbaaDoor
open Go.RowKit Go
set_option maxRecDepth 100000

/-- a piece of a row, as it is read -/
theorem RowN.piece {base : Nat} {w : World} {g cap n lo hi : Nat} {L : List ByteArray} (h : RowN base w g cap n L) (h1 : lo ≤ hi) (h2 : hi ≤ n) :
    ∃ ad, sliced (some ⟨g, 0, none⟩) lo hi cap 1 = .slice (some ad) (hi - lo) (cap - lo) ∧ ∀ j u, (strCells ((L.drop lo).take (hi - lo)))[j]? = some u → w.cell? (ad.add j) = some u := by
  have hl := h.1
  by_cases e : cap = lo
  · refine ⟨⟨g, 0, none⟩, by unfold sliced; rw [if_pos e], ?_⟩
    have hc : n ≤ cap := by
      rcases h.2.2 with ⟨e', _⟩ | ⟨_, _, _, e', _, _, hh, _⟩
      · cases e'
      · cases e'; exact hh
    have : hi - lo = 0 := by omega
    rw [this]
    intro j u hu
    simp [strCells] at hu
  · refine ⟨⟨g, lo, none⟩, by unfold sliced; rw [if_neg e]; simp [Addr.add]; omega, ?_⟩
    intro j u hu
    have hj : j < hi - lo := by
      have := (List.getElem?_eq_some_iff.1 hu).1
      rw [strCells_length, List.length_take] at this
      omega
    have hadd : (⟨g, lo, none⟩ : Addr).add j = ⟨g, lo + j, none⟩ := by simp [Addr.add]
    rw [hadd, h.2.cellAt (lo + j) (by omega)]
    rw [← hu]
    simp [strCells, hj]
/-- append(v, x[lo:hi]...) -/
theorem wpList_joinN {ops : Array Oper} {rest : List Oper} {o : Oper} {a : Act} {w : World} {Q : Exit → Act → World → Prop} (hgd : o.guard = none) (s x : Operand)
    (ho : o.op = .call { callee := .builtin .append, args := #[s, x], argTypes := #[31, 31] }) {base : Nat} {v : Value} {A : List ByteArray} {nA : Nat} (hs : a.eval s = v) (hA : w.ownsRow base 9 1 v nA (strCells A))
    {B gx cx n lo hi : Nat} {L : List ByteArray} (hx : a.eval x = sliced (some ⟨gx, 0, none⟩) lo hi cx 1) (hX : RowN B w gx cx n L) (h1 : lo ≤ hi) (h2 : hi ≤ n) (hn : nA + n ≤ 1000) (hb : base ≤ w.heap.size)
    (h : ∀ v' w', w'.ownsRow base 9 1 v' (nA + (hi - lo)) (strCells (A ++ (L.drop lo).take (hi - lo))) → w.grownBy w' v.ownBlock → (v'.ownBlock = v.ownBlock ∨ ∀ g, v'.ownBlock = some g → w.heap.size ≤ g) →
      wpList Tryd.prog ops Q rest (a.put o.dst v') w') : wpList Tryd.prog ops Q (o :: rest) a w := by
  obtain ⟨i0, hi0, hz0, hz1, hz2⟩ := info_parts info_str
  obtain ⟨ad, e, hc⟩ := hX.piece h1 h2
  have hl := hX.1
  have hlen : ((L.drop lo).take (hi - lo)).length = hi - lo := sub_length L lo _ (by omega)
  refine wpList_append_own2 hgd s x 31 ho base 9 i0 _ 1 16 Tryd.underlying31 hi0 hz0 hz1 hz2 rfl (by decide) v nA (strCells A) hs hA ad (hi - lo) (cx - lo) (strCells ((L.drop lo).take (hi - lo))) (hx.trans e)
    (by rw [strCells_length, hlen]; omega) hc (strCells_one _) (by unfold maxLen; omega) (by omega) hb ?_
  intro v' w' r1 r2 r3
  rw [← strCells_append] at r1
  exact h v' w' r1 r2 r3
theorem run_head {a : Option Addr} {n c : Nat} {hi : Int} {k : Nat} (hk : hi = k) (h2 : k ≤ c) {v : Value} (hv : v = sliced a 0 k c 1) (w : World) :
    (Instr.slice 31 (.slice a n c) none (some (.int .i64 hi)) none).run Tryd.prog w = .ok v w := by
  rw [run_slice_h (P := Tryd.prog) (w := w) 31 a n c Tryd.underlying31 .i64 hi (by omega) (by omega), hv, hk]
  simp [go_sem]
theorem run_tail {a : Option Addr} {n c : Nat} {lo : Int} {k : Nat} (hk : lo = k) (h2 : k ≤ n) {v : Value} (hv : v = sliced a k n c 1) (w : World) :
    (Instr.slice 31 (.slice a n c) (some (.int .i64 lo)) none none).run Tryd.prog w = .ok v w := by
  rw [hk, run_sub_l h2, hv]
end Go.Proofs.YtcclgodahlinbaaDoor

namespace Go.Proofs.YtcclgodahlinbaaDoor
open Go.RowKit Go
set_option maxRecDepth 100000

/-- append(v, x[lo:hi]...), where x may be nil -/
theorem wpList_joinO {ops : Array Oper} {rest : List Oper} {o : Oper} {a : Act} {w : World} {Q : Exit → Act → World → Prop} (hgd : o.guard = none) (s x : Operand)
    (ho : o.op = .call { callee := .builtin .append, args := #[s, x], argTypes := #[31, 31] }) {base : Nat} {v : Value} {A : List ByteArray} {nA : Nat} (hs : a.eval s = v) (hA : w.ownsRow base 9 1 v nA (strCells A))
    {B cx n lo hi : Nat} {ax : Option Addr} {L : List ByteArray} (hx : a.eval x = sliced ax lo hi cx 1) (hX : w.ownsRow B 9 1 (.slice ax n cx) n (strCells L)) (h1 : lo ≤ hi) (h2 : hi ≤ n) (hn : nA + n ≤ 1000) (hb : base ≤ w.heap.size)
    (h : ∀ v' w', w'.ownsRow base 9 1 v' (nA + (hi - lo)) (strCells (A ++ (L.drop lo).take (hi - lo))) → w.grownBy w' v.ownBlock → (v'.ownBlock = v.ownBlock ∨ ∀ g, v'.ownBlock = some g → w.heap.size ≤ g) →
      wpList Tryd.prog ops Q rest (a.put o.dst v') w') : wpList Tryd.prog ops Q (o :: rest) a w := by
  have hlen : L.length = n := by have := hX.1; rw [strCells_length] at this; omega
  rcases hX.2 with ⟨e, h0⟩ | ⟨g, cap, cur, e, _⟩
  · cases e
    obtain rfl : hi = 0 := by omega
    obtain rfl : lo = 0 := by omega
    obtain ⟨i0, hi0, _⟩ := info_parts info_str
    refine wpList_append_own_none hgd s x 31 ho base 9 i0 1 Tryd.underlying31 hi0 v nA (strCells A) hs hA (hx.trans rfl) ?_
    exact h v w (by simpa using hA) ⟨rfl, rfl, rfl, Nat.le_refl _, fun _ _ _ => rfl⟩ (.inl rfl)
  · cases e
    exact wpList_joinN hgd s x ho hs hA hx ⟨hlen, hX⟩ h1 h2 hn hb h

theorem foldH_mem (L : List StepB) (nb : List Bool) : ∀ k, k ≤ L.length → ∀ h ∈ (foldH L nb k).hs, ∀ s ∈ h.lines, s ∈ L := by
  intro k
  induction k with
  | zero => intro _ h hh; simp [foldH] at hh
  | succ k ih =>
    intro hk h hh s hs
    have hk' : k < L.length := by omega
    rw [foldH_succ hk'] at hh
    have key : ∀ (l : List HunkM), (∀ h ∈ l, ∀ s ∈ h.lines, s ∈ L) → ∀ h ∈ lastAdd l L[k], ∀ s ∈ h.lines, s ∈ L := by
      intro l hl h hh s hs
      by_cases h0 : l = []
      · subst h0; simp [lastAdd] at hh
      · obtain ⟨i, x, e1, e2⟩ := lastAdd_ne (s := L[k]) h0
        rw [e2] at hh
        rw [List.mem_append, List.mem_singleton] at hh
        rcases hh with hh | rfl
        · exact hl h (by rw [e1]; simp [hh]) s hs
        · have : (addL x L[k]).lines = x.lines ++ [L[k]] := rfl
          rw [this, List.mem_append, List.mem_singleton] at hs
          rcases hs with hs | rfl
          · exact hl x (by rw [e1]; simp) s hs
          · exact List.getElem_mem _
    have hh' : h ∈ stepHs (nb.getD k false) (decide (0 < k) && nb.getD (k - 1) false) L[k] (foldH L nb k) := hh
    unfold stepHs at hh'
    split at hh'
    · refine key _ ?_ h hh' s hs
      split
      · exact ih (by omega)
      · intro h2 hh2
        rw [List.mem_append, List.mem_singleton] at hh2
        rcases hh2 with hh2 | rfl
        · exact ih (by omega) h2 hh2
        · intro s hs; simp [newHunk] at hs
    · exact ih (by omega) h hh' s hs
theorem way_length {o f : List ByteArray} : (Dn.wayM o f).length ≤ o.length + f.length := by
  obtain ⟨h1, h2, h3⟩ := Dn.wayM_way o f
  have key : ∀ l : List StepB, (∀ s ∈ l, s.kind = 32 ∨ s.kind = 45 ∨ s.kind = 43) → l.length ≤ (Dn.oldOf l).length + (Dn.newOf l).length := by
    intro l
    induction l with
    | nil => intro _; simp
    | cons s l ih =>
      intro h
      have := ih (fun x hx => h x (List.mem_cons_of_mem _ hx))
      have e : s :: l = [s] ++ l := rfl
      rw [e, Dn.oldOf_append, Dn.newOf_append]
      simp only [List.length_append, List.length_cons, List.length_nil]
      have e1 : (Dn.oldOf [s]).length + (Dn.newOf [s]).length ≥ 1 := by
        unfold Dn.oldOf Dn.newOf
        rcases h s (by simp) with hs | hs | hs <;> simp [hs]
      omega
  have := key _ h3
  rw [h1, h2] at this
  exact this
theorem hunks_small {o f : List ByteArray} {c : Nat} (h : o.length + f.length ≤ 1000) : (hunksM (Dn.wayM o f) c).length ≤ 1000 ∧ ∀ x ∈ hunksM (Dn.wayM o f) c, x.lines.length ≤ 1000 ∧ ∀ s ∈ x.lines, s.kind = 32 ∨ s.kind = 45 ∨ s.kind = 43 := by
  have hw := way_length (o := o) (f := f)
  obtain ⟨_, _, h3⟩ := Dn.wayM_way o f
  generalize Dn.wayM o f = L at *
  have hb := foldH_bounds L (nearB L c) L.length
  have hm := foldH_mem L (nearB L c) L.length (Nat.le_refl _)
  unfold hunksM
  refine ⟨by rw [List.length_map]; have := hb.2.2.1; omega, ?_⟩
  intro x hx
  obtain ⟨y, hy, rfl⟩ := List.mem_map.1 hx
  have e : (numL y).lines = y.lines := rfl
  rw [e]
  refine ⟨by have := (hb.2.2.2.1 y hy).2.2.1; omega, fun s hs => h3 s (hm y hy s hs)⟩

theorem tdiv_bounds (c : Int) (k : Nat) (hk : 0 < k) (h : -9223372036854775808 ≤ c ∧ c ≤ 9223372036854775807) : -9223372036854775808 ≤ c.tdiv k ∧ c.tdiv k ≤ 9223372036854775807 := by
  by_cases h0 : 0 ≤ c
  · rw [Int.tdiv_eq_ediv_of_nonneg h0]
    have h1 := Int.ediv_le_self (k : Int) h0
    have h2 := Int.ediv_nonneg h0 (show (0 : Int) ≤ k by omega)
    omega
  · have e : c.tdiv k = -((-c).tdiv k) := by rw [Int.neg_tdiv]; omega
    rw [e, Int.tdiv_eq_ediv_of_nonneg (by omega)]
    have h1 := Int.ediv_le_self (k : Int) (show (0 : Int) ≤ -c by omega)
    have h2 := Int.ediv_nonneg (show (0 : Int) ≤ -c by omega) (show (0 : Int) ≤ k by omega)
    omega
end Go.Proofs.YtcclgodahlinbaaDoor

namespace Go.Proofs.YtcclgodahlinbaaDoor
open Go.RowKit Go
set_option maxRecDepth 100000

/-- lines as the statements make them -/
def OkL (L : List ByteArray) : Prop := ∀ s ∈ L, (10 : UInt8) ∉ s.data.toList ∧ s.size ≤ 15
theorem OkL.fit {L : List ByteArray} (h : OkL L) (hl : L.length ≤ 200) : Plain L ∧ L.length ≤ 200 ∧ (textL L).length ≤ 8000 := by
  have := textL_bound L 15 (fun s hs => (h s hs).2)
  exact ⟨fun s hs => (h s hs).1, hl, by omega⟩
theorem OkL.sub {L : List ByteArray} (h : OkL L) (lo n : Nat) : OkL ((L.drop lo).take n) := fun s hs => h s (List.mem_of_mem_drop (List.mem_of_mem_take hs))
theorem OkL.app {L R : List ByteArray} (h : OkL L) (g : OkL R) : OkL (L ++ R) := fun s hs => by
  rcases List.mem_append.1 hs with hs | hs
  · exact h s hs
  · exact g s hs

theorem owns_low {B base n : Nat} {w w' : World} {v : Value} {xs : List Value} (h : w.ownsRow base 9 1 v n xs) (hb : Below B w w') (hB : ∀ g, v.ownBlock = some g → g < B) : w'.ownsRow base 9 1 v n xs := by
  refine ⟨h.1, ?_⟩
  rcases h.2 with h2 | ⟨g, cap, cur, e, h1, h2, h3⟩
  · exact .inl h2
  · exact .inr ⟨g, cap, cur, e, h1, (hb.block g (hB g (by rw [e]; rfl))).trans h2, h3⟩
theorem owns_base {base base' n : Nat} {w : World} {v : Value} {xs : List Value} (h : w.ownsRow base 9 1 v n xs) (hb : base' ≤ base) : w.ownsRow base' 9 1 v n xs := by
  refine ⟨h.1, ?_⟩
  rcases h.2 with h2 | ⟨g, cap, cur, e, h1, h2⟩
  · exact .inl h2
  · exact .inr ⟨g, cap, cur, e, Nat.le_trans hb h1, h2⟩
theorem cell_blk {w : World} {a : Addr} {v : Value} (h : w.cell? a = some v) : a.block < w.heap.size := by
  by_cases hb : a.block < w.heap.size
  · exact hb
  · unfold World.cell? at h
    rw [Array.getElem?_eq_none (by omega)] at h
    cases h
theorem owns_cap {base n c : Nat} {w : World} {a : Option Addr} {xs : List Value} (h : w.ownsRow base 9 1 (.slice a n c) n xs) : n ≤ c := by
  rcases h.2 with ⟨e, _⟩ | ⟨g, cap, cur, e, _, _, h3, _⟩
  · cases e; exact Nat.le_refl _
  · cases e; exact h3
theorem textO_any {base n c : Nat} {w : World} {a : Option Addr} {L : List ByteArray} (h : w.ownsRow base 9 1 (.slice a n c) n (strCells L)) (hl : (textL L).length ≤ 100000) :
    Calls Tryd.prog 15 #[.slice a n c] w fun e w' => e = .returned (.string (textB L)) ∧ w = w' := by
  have hn : L.length = n := by have := h.1; rw [strCells_length] at this; omega
  subst hn
  exact ktext_any (RowS.of_owns h) hl
set_option maxHeartbeats 8000000 in
theorem shortest_any {A E : List Int} {aa ae : Option Addr} {ca ce : Nat} {m : Int} {w : World} (hA : RowI w (.slice aa A.length ca) A) (hE : RowI w (.slice ae E.length ce) E) (hA64 : i64s A) (hE64 : i64s E)
    (hm : w.cell? ⟨0, 0, none⟩ = some (.int .i64 m)) (hm0 : 0 < w.heap.size) :
    Calls Tryd.prog 4 #[.slice aa A.length ca, .slice ae E.length ce] w fun e w' => e = .returned (.bool true) ∧ Below w.heap.size w w' := by
  obtain ⟨i0, hi, hz0, hz1, hz2⟩ := info_parts info_str
  have haw := awake_any hm hm0
  go_enter Tryd.func4, Tryd.ntmps4
  go_wp2_with fail
  refine haw.mono ?_
  clear haw
  rintro e w1 ⟨rfl, b1⟩
  have hz1' := b1.size
  have hm1 := (b1.cell (p := ⟨0, 0, none⟩) hm0).trans hm
  have hli := lines_any (hA.below b1) hA64
  go_wp2_with fail
  refine hli.mono ?_
  clear hli
  rintro e w2 ⟨vx, rfl, hox, b2⟩
  have hz2' := b2.size
  have hm2 := (b2.cell (p := ⟨0, 0, none⟩) (by show 0 < w1.heap.size; omega)).trans hm1
  have hE2 := (hE.below b1).below b2
  obtain ⟨hXok, hXl⟩ := linesK_plain A
  generalize hX0 : linesK A = X at *
  clear hX0
  have hXo : OkL X := hXok
  clear hXok
  generalize hXn : X.length = nx at *
  obtain ⟨ax, cx, rfl⟩ := owns_isSlice hox
  obtain ⟨V0, hV0⟩ : ∃ V, V = sliced ax 0 nx cx 1 := ⟨_, rfl⟩
  have hVe : (Value.slice ax nx cx) = sliced ax 0 nx cx 1 := by
    rcases hox.2 with ⟨e, h0⟩ | ⟨g, cap, cur, e, _⟩
    · cases e; rfl
    · cases e
      unfold sliced
      by_cases e0 : cx = 0
      · rw [if_pos e0]; simp
      · rw [if_neg e0]; simp [Addr.add]
  have hXn' : Hid (X.length = nx) := hXn
  clear hXn hV0 V0
  have hXself : Hid ((X.drop 0).take (nx - 0) = X) := by show _ = _; rw [List.drop_zero, List.take_of_length_le (by have := hXn'.out; omega)]
  have hVe' : Hid ((Value.slice ax nx cx) = sliced ax 0 nx cx 1) := hVe
  clear hVe
  go_wp2_with (at_builtin; refine wpList_joinO rfl (.tmp 19) (.tmp 20) rfl (base := w2.heap.size) (v := .slice none 0 0) (A := []) rfl (World.ownsRow_nil _ _ _ _) hVe'.out hox (by omega) (by omega) (by omega) (Nat.le_refl _) ?_; intro vy w3 hoy g3 n3; rw [List.nil_append, hXself.out, show 0 + (nx - 0) = nx by omega] at hoy; have b3 := (Below.refl w2.heap.size w2).grown g3 (Nat.le_refl _) (fun j e => by simp [Value.ownBlock] at e); obtain ⟨ay, cy, rfl⟩ := owns_isSlice hoy)
  have hz3 := b3.size
  go_loopg [7, 8, 9] (min E.length 20) (fun g vy vn t wr => ∃ (k q ny : Nat) (Y : List ByteArray), g = min E.length 20 - k ∧ k ≤ min E.length 20 ∧ t = .int .i64 k ∧ vn = .int .i64 q ∧ q ≤ k ∧ ny ≤ 60 + k ∧ wr.ownsRow w2.heap.size 9 1 vy ny (strCells Y) ∧ OkL Y ∧ (∃ k', k' ≤ q ∧ Dn.Ed X Y k') ∧ Below w2.heap.size w2 wr)
  case atStart => exact ⟨0, 0, nx, X, by omega, by omega, rfl, rfl, by omega, by omega, hoy, hXo, ⟨0, by omega, Dn.Ed.refl X⟩, b3⟩
  case round =>
    obtain ⟨k, q, ny, Y, hgk, hk0, rfl, rfl, hqk, hny, hoY, hYo, hEd, hbel⟩ := hrel
    have hszr := hbel.size
    obtain ⟨ay2, cy2, rfl⟩ := owns_isSlice hoY
    have hYl : Y.length = ny := by have := hoY.1; rw [strCells_length] at this; omega
    have hG : Hid (gk = min E.length 20 - k) := hgk
    clear hgk hoy g3 n3 b3
    by_cases hk : k < min E.length 20
    · have hkL : k < E.length := by omega
      have hkI : (k : Int) < E.length := by omega
      have hkJ : (k : Int) < 20 := by omega
      obtain ⟨b, off, rfl, hc⟩ := (hE2.below hbel).at hkL
      have h64 := hE64 _ (List.getElem_mem hkL)
      generalize E[k] = x at *
      have hpk := pick_any (x.tdiv 2) (ny + 1) wr (tdiv_bounds x 2 (by decide) h64) (by omega) (by omega)
      have hatl := pickN_lt (x.tdiv 2) (n := ny + 1) (by omega)
      generalize pickN (x.tdiv 2) (ny + 1) = at' at *
      have hpk' : Calls Tryd.prog 12 #[.int .i64 (x.tdiv 2), .int .i64 ((ny : Int) + 1)] wr fun e w' => e = .returned (.int .i64 (at' : Nat)) ∧ wr = w' := by
        have e : ((ny + 1 : Nat) : Int) = (ny : Int) + 1 := by omega
        rw [← e]; exact hpk
      clear hpk
      have hcy := owns_cap hoY
      have hYlt := hoY.lt
      obtain ⟨V1, hV1⟩ : ∃ V, V = sliced ay2 0 at' cy2 1 := ⟨_, rfl⟩
      obtain ⟨V2, hV2⟩ : ∃ V, V = sliced ay2 at' ny cy2 1 := ⟨_, rfl⟩
      have r1 := fun w => run_head (n := ny) (hi := (at' : Int)) rfl (by omega) hV1 w
      have r2 := fun w => run_tail (n := ny) (lo := (at' : Int)) rfl (by omega) hV2 w
      have hV' : Hid (V1 = sliced ay2 0 at' cy2 1 ∧ V2 = sliced ay2 at' ny cy2 1) := ⟨hV1, hV2⟩
      have lA : (Y.drop 0).take (at' - 0) = Y.take at' := by simp
      have lB : (Y.drop at').take (ny - at') = Y.drop at' := List.take_of_length_le (by rw [List.length_drop]; omega)
      have lC : (Y.drop (at' + 1)).take (ny - (at' + 1)) = Y.drop (at' + 1) := List.take_of_length_le (by rw [List.length_drop]; omega)
      have hLs : Hid (((Y.drop 0).take (at' - 0) = Y.take at') ∧ ((Y.drop at').take (ny - at') = Y.drop at') ∧ ((Y.drop (at' + 1)).take (ny - (at' + 1)) = Y.drop (at' + 1)) ∧ Y.length = ny) := ⟨lA, lB, lC, hYl⟩
      clear hV1 hV2 lA lB lC hYl
      have hon : ∀ t : ByteArray, ∀ u ∈ [Value.string t], u.oneCell' = true := by intro t u hu; simp at hu; subst hu; rfl
      go_wp2_with fail
      refine hpk'.mono ?_
      clear hpk'
      rintro e w' ⟨rfl, rfl⟩
      by_cases hev : x.tmod 2 = 0
      · have hla := fun w => line_any (x.tdiv 7) w (tdiv_bounds x 7 (by decide) h64)
        have hs := lineOf_ok (x.tdiv 7)
        have hla' : ∀ w : World, Calls Tryd.prog 13 #[.int .i64 (x.tdiv 7)] w fun e w' => e = .returned (.string (lineOf (x.tdiv 7))) ∧ Below w.heap.size w w' := hla
        clear hla
        generalize lineOf (x.tdiv 7) = s at *
        go_wp2_with (at_builtin; refine wpList_joinO rfl (.tmp 41) (.tmp 44) rfl (base := wr.heap.size) (v := .slice none 0 0) (A := []) rfl (World.ownsRow_nil _ _ _ _) hV'.out.1 hoY (by omega) (by omega) (by omega) (Nat.le_refl _) ?_; intro vz wa za ga na; rw [List.nil_append, hLs.out.1, show 0 + (at' - 0) = at' by omega] at za; have ba := (Below.refl wr.heap.size wr).grown ga (Nat.le_refl _) (fun j e => by simp [Value.ownBlock] at e); have hYa := owns_low hoY ba (fun g e => (hYlt g e).2); have sa := ba.size; have hca : wa.cell? ⟨b, off + k, none⟩ = some (.int .i64 x) := (ba.cell (p := ⟨b, off + k, none⟩) (cell_blk hc)).trans hc; obtain ⟨az, cz, rfl⟩ := owns_isSlice za)
        refine (hla' _).mono ?_
        rintro e wb ⟨rfl, bb0⟩
        have bb := ba.trans (bb0.mono sa)
        have zb := owns_low za bb0 (fun g e => (za.lt g e).2)
        have hYb := owns_low hoY bb (fun g e => (hYlt g e).2)
        have sb := bb.size
        have sb0 := bb0.size
        clear hla' ga na
        go_wp2_with (first | (at_builtin; refine wpList_append_own2 rfl (.tmp 52) (.tmp 59) 31 rfl wr.heap.size 9 i0 _ 1 16 Tryd.underlying31 hi hz0 hz1 hz2 rfl (by decide) (.slice az at' cz) at' (strCells (Y.take at')) rfl (zb.alloc _) ⟨wb.heap.size, 0, none⟩ 1 1 [.string s] rfl rfl (cells_new wb [.string s] 9) (hon _) (by unfold maxLen; omega) (by omega) (by simp; omega) ?_; intro vc wc zc gc nc; have bc := (bb.alloc sb _).grown gc (by simp; omega) (fun j e => (zb.lt j e).1); have hYc := owns_low hoY bc (fun g e => (hYlt g e).2); have sc := bc.size; obtain ⟨ac, cc, rfl⟩ := owns_isSlice zc) | (at_builtin; refine wpList_joinO rfl (.tmp 61) (.tmp 64) rfl (base := wr.heap.size) (v := .slice ac (at' + 1) cc) (A := Y.take at' ++ [s]) rfl (by rw [strCells_append]; exact zc) hV'.out.2 hYc (by omega) (by omega) (by omega) sc ?_; intro vd wd zd gd nd; rw [hLs.out.2.1, show at' + 1 + (ny - at') = ny + 1 by omega] at zd; have bd := bc.grown gd sc (fun j e => (zc.lt j e).1)))
        have wq : IntKind.i64.wrap ((q : Int) + 1) = (q : Int) + 1 := by rw [IntKind.wrap_i64]; omega
        go_roundg (min E.length 20 - (k + 1))
        · obtain ⟨k', hk', hed⟩ := hEd
          refine ⟨k + 1, q + 1, ny + 1, Y.take at' ++ s :: Y.drop at', rfl, by omega, by push_cast; rfl, by push_cast; rfl, by omega, by omega, ?_, ?_, ⟨k' + 1, by omega, hed.put s at' (by have := hLs.out.2.2.2; omega)⟩, hbel.trans (bd.mono hszr)⟩
          · have : Y.take at' ++ s :: Y.drop at' = Y.take at' ++ [s] ++ Y.drop at' := by simp
            rw [this]
            exact owns_base zd hszr
          · intro t ht
            rw [List.mem_append, List.mem_cons] at ht
            rcases ht with ht | rfl | ht
            · exact hYo t (List.mem_of_mem_take ht)
            · exact hs
            · exact hYo t (List.mem_of_mem_drop ht)
        · have := hG.out; omega
      · have hod : (x.tmod 2 == 0) = false := by simpa using hev
        by_cases hat : at' < ny
        · have hatI : (at' : Int) < ny := by omega
          obtain ⟨V3, hV3⟩ : ∃ V, V = sliced ay2 (at' + 1) ny cy2 1 := ⟨_, rfl⟩
          have r3 := fun w => run_tail (n := ny) (lo := (at' : Int) + 1) (k := at' + 1) (by omega) (by omega) hV3 w
          have hV3' : Hid (V3 = sliced ay2 (at' + 1) ny cy2 1) := hV3
          clear hV3
          have wq : IntKind.i64.wrap ((q : Int) + 1) = (q : Int) + 1 := by rw [IntKind.wrap_i64]; omega
          go_wp2_with (first | (at_builtin; refine wpList_joinO rfl (.tmp 41) (.tmp 44) rfl (base := wr.heap.size) (v := .slice none 0 0) (A := []) rfl (World.ownsRow_nil _ _ _ _) hV'.out.1 hoY (by omega) (by omega) (by omega) (Nat.le_refl _) ?_; intro vz wa za ga na; rw [List.nil_append, hLs.out.1, show 0 + (at' - 0) = at' by omega] at za; have ba := (Below.refl wr.heap.size wr).grown ga (Nat.le_refl _) (fun j e => by simp [Value.ownBlock] at e); have hYa := owns_low hoY ba (fun g e => (hYlt g e).2); have sa := ba.size; have hca : wa.cell? ⟨b, off + k, none⟩ = some (.int .i64 x) := (ba.cell (p := ⟨b, off + k, none⟩) (cell_blk hc)).trans hc; obtain ⟨az, cz, rfl⟩ := owns_isSlice za) | (at_builtin; refine wpList_joinO rfl (.tmp 72) (.tmp 76) rfl (base := wr.heap.size) (v := .slice az at' cz) (A := Y.take at') rfl za hV3'.out hYa (by omega) (by omega) (by omega) sa ?_; intro vd wd zd gd nd; rw [hLs.out.2.2.1, show at' + (ny - (at' + 1)) = ny - 1 by omega] at zd; have bd := ba.grown gd sa (fun j e => (za.lt j e).1)))
          go_roundg (min E.length 20 - (k + 1))
          · obtain ⟨k', hk', hed⟩ := hEd
            obtain ⟨k2, hk2, hed2⟩ := hed.cut at' (by have := hLs.out.2.2.2; omega)
            exact ⟨k + 1, q + 1, ny - 1, Y.take at' ++ Y.drop (at' + 1), rfl, by omega, by push_cast; rfl, by push_cast; rfl, by omega, by omega, owns_base zd hszr, fun t ht => by
              rw [List.mem_append] at ht
              rcases ht with ht | ht
              · exact hYo t (List.mem_of_mem_take ht)
              · exact hYo t (List.mem_of_mem_drop ht), ⟨k2, by omega, hed2⟩, hbel.trans (bd.mono hszr)⟩
          · have := hG.out; omega
        · have hatI : ¬ (at' : Int) < ny := by omega
          go_wp2_with (at_builtin; refine wpList_joinO rfl (.tmp 41) (.tmp 44) rfl (base := wr.heap.size) (v := .slice none 0 0) (A := []) rfl (World.ownsRow_nil _ _ _ _) hV'.out.1 hoY (by omega) (by omega) (by omega) (Nat.le_refl _) ?_; intro vz wa za ga na; rw [List.nil_append, hLs.out.1, show 0 + (at' - 0) = at' by omega] at za; have ba := (Below.refl wr.heap.size wr).grown ga (Nat.le_refl _) (fun j e => by simp [Value.ownBlock] at e); have hYa := owns_low hoY ba (fun g e => (hYlt g e).2); have sa := ba.size; have hca : wa.cell? ⟨b, off + k, none⟩ = some (.int .i64 x) := (ba.cell (p := ⟨b, off + k, none⟩) (cell_blk hc)).trans hc; obtain ⟨az, cz, rfl⟩ := owns_isSlice za)
          go_roundg (min E.length 20 - (k + 1))
          · exact ⟨k + 1, q, ny, Y, rfl, by omega, by push_cast; rfl, rfl, by omega, by omega, hYa, hYo, hEd, hbel.trans (ba.mono hszr)⟩
          · have := hG.out; omega
    · obtain rfl : k = min E.length 20 := by omega
      have hoxr := owns_low hox hbel (fun g e => (hox.lt g e).2)
      have hfX := hXo.fit (by have := hXn'.out; omega)
      have hfY := hYo.fit (by omega)
      have ht1 := textO_any hoxr (by omega)
      have ht2 := textO_any hoY (by omega)
      have hmr := (hbel.cell (p := ⟨0, 0, none⟩) (by show 0 < w2.heap.size; omega)).trans hm2
      have hdf := diff_text (c := 0) hfX.1 hfX.2.1 hfX.2.2 hfY.1 hfY.2.1 hfY.2.2 (by omega) hmr
      obtain ⟨hs1, hs2⟩ := hunks_small (o := X) (f := Y) (c := 0) (by have := hXn'.out; omega)
      have hcost := hunks_cost (Dn.wayM X Y) 0
      obtain ⟨wc1, wc2, wc3⟩ := way_counts (o := X) (f := Y)
      have hD : costH (hunksM (Dn.wayM X Y) 0) ≤ q := by
        rw [hcost]
        obtain ⟨k', hk', hed⟩ := hEd
        exact Nat.le_trans (Dn.wayM_shortest X Y hed) hk'
      rw [← hcost, hXn'.out, hYl] at wc1 wc2 wc3
      clear hcost hEd hfX hfY hox hoY hoxr
      have hbr : Below w.heap.size w wr := b1.trans ((b2.mono (by omega)).trans (hbel.mono (by omega)))
      generalize hunksM (Dn.wayM X Y) 0 = hs at *
      have hwc : Hid (costH hs + nx ≥ ny ∧ costH hs + ny ≥ nx ∧ (costH hs + nx + ny) % 2 = 0) := ⟨wc1, wc2, wc3⟩
      clear wc1 wc2 wc3
      have hq20 : q ≤ 20 := by omega
      have hdf' : Calls Tryd.prog 14 #[.string (textB X), .string (textB Y), .int .i64 0] wr fun e w' =>
        ∃ a cap, e = .returned (.tuple #[.agg #[.slice a hs.length cap], .int .i64 0]) ∧ HunksAt w'.heap.size w' (.slice a hs.length cap) hs ∧ Below wr.heap.size wr w' := hdf
      have hnx : nx ≤ 60 := hXl
      clear hdf hbel hm2 hmr hm1 hm b1 b2 hXn' hXself hVe' hE2 hA hE hE64 hA64 hXl hXo hYo hYl
      have hex : (E.length : Int) ≤ (min E.length 20 : Nat) ∨ ((min E.length 20 : Nat) : Int) < E.length ∧ ¬ ((min E.length 20 : Nat) : Int) < 20 := by omega
      generalize min E.length 20 = kk at *
      have hcase : (¬ (kk : Int) < E.length) ∨ ((kk : Int) < E.length ∧ ¬ (kk : Int) < 20) := by omega
      clear hex hk hk0 hqk hny hG
      rcases hcase with hca | ⟨hca, hcb⟩
      all_goals
        go_wp2_with fail
        refine ht1.mono ?_
        rintro e w' ⟨rfl, rfl⟩
        go_wp2_with fail
        refine ht2.mono ?_
        rintro e w' ⟨rfl, rfl⟩
        go_wp2_with fail
        refine hdf'.mono ?_
        rintro e W4 ⟨a, cap, rfl, hH, b4⟩
        have hb5 := (Below.refl W4.heap.size W4).alloc (Nat.le_refl _) (.cells #[.slice a hs.length cap] 37)
        have hp5 := cell_of (k := 0) (heap_alloc_new W4 (.cells #[.slice a hs.length cap] 37)) rfl
        have hH5 := (hH.below hb5).mono hb5.size
        have hch := changed_any hH5 hs1 hs2 (by omega)
        have hb4s := b4.size
        have hwr := hbr.size
        have hbC : Below w.heap.size w (W4.alloc (.cells #[.slice a hs.length cap] 37)) := hbr.trans ((b4.mono hwr).trans (hb5.mono (by omega)))
        have hwC := hbC.size
        by_cases hneg : (ny : Int) < nx
        · have hneg' : (ny : Int) - nx < 0 := by omega
          have hge : -((ny : Int) - nx) ≤ (costH hs : Nat) := by have := hwc.out; omega
          have hle : ((costH hs : Nat) : Int) ≤ q := by omega
          go_wp2_with fail
          generalize W4.alloc (.cells #[.slice a hs.length cap] 37) = W5 at *
          refine hch.mono ?_
          rintro e W6 ⟨rfl, b6⟩
          go_wp2_with fail
          go_ret
          refine ⟨ret_bool (a := (((costH hs : Nat) : Int) + ((ny : Int) - nx)) % 2 == 0) ?_, hbC.trans (b6.mono hwC)⟩
          have := hwc.out
          simp
          omega
        · have hneg' : ¬ (ny : Int) - nx < 0 := by omega
          have hge : (ny : Int) - nx ≤ (costH hs : Nat) := by have := hwc.out; omega
          have hle : ((costH hs : Nat) : Int) ≤ q := by omega
          go_wp2_with fail
          generalize W4.alloc (.cells #[.slice a hs.length cap] 37) = W5 at *
          refine hch.mono ?_
          rintro e W6 ⟨rfl, b6⟩
          go_wp2_with fail
          go_ret
          refine ⟨ret_bool (a := (((costH hs : Nat) : Int) - ((ny : Int) - nx)) % 2 == 0) ?_, hbC.trans (b6.mono hwC)⟩
          have := hwc.out
          simp
          omega
end Go.Proofs.YtcclgodahlinbaaDoor

namespace Go.Proofs.YtcclgodahlinbaaDoor
open Go.RowKit Go
set_option maxRecDepth 100000

theorem SeamsAt.at {w : World} {a : Option Addr} {n c : Nat} {l : List SeamM} (h : SeamsAt w (.slice a n c) l) {i : Nat} (hi : i < l.length) :
    ∃ g, a = some ⟨g, 0, none⟩ ∧ w.cell? ⟨g, i * 3, none⟩ = some (.bool l[i].done) ∧ w.cell? ⟨g, i * 3 + 1, none⟩ = some (.int .i64 l[i].at') ∧ w.cell? ⟨g, i * 3 + 2, none⟩ = some (.int .i64 (l[i].fz : Nat)) := by
  rcases h with ⟨rfl, _⟩ | ⟨g, cap, e, _, hc⟩
  · simp at hi
  · cases e
    exact ⟨g, rfl, hc i hi⟩
theorem SeamsAt.below {w w' : World} {v : Value} {l : List SeamM} (h : SeamsAt w v l) (hb : Below w.heap.size w w') : SeamsAt w' v l := by
  rcases h with h | ⟨g, cap, e, hg, hc⟩
  · exact .inl h
  · exact .inr ⟨g, cap, e, Nat.lt_of_lt_of_le hg hb.size, fun i hi => ⟨(hb.cell (p := ⟨g, i * 3, none⟩) hg).trans (hc i hi).1, (hb.cell (p := ⟨g, i * 3 + 1, none⟩) hg).trans (hc i hi).2.1, (hb.cell (p := ⟨g, i * 3 + 2, none⟩) hg).trans (hc i hi).2.2⟩⟩
set_option maxHeartbeats 2000000 in
/-- all hunks are sewn in, moved by so much, with no fuzz -/
theorem still_yes {w : World} {a : Option Addr} {c : Nat} {l : List SeamM} {b : Int} (h : SeamsAt w (.slice a l.length c) l) (hl : l.length ≤ 100000) (hs : ∀ s ∈ l, s = ⟨true, b, 0⟩) :
    Calls Tryd.prog 18 #[.slice a l.length c, .int .i64 (l.length : Int), .int .i64 b] w fun e w' => e = .returned (.bool true) ∧ w = w' := by
  go_enter Tryd.func18, Tryd.ntmps18
  go_wp2_with fail
  go_loopg [7] l.length (fun g x wr => ∃ k : Nat, g = l.length - k ∧ k ≤ l.length ∧ x = .int .i64 k ∧ wr = w)
  case atStart => exact ⟨0, by omega, by omega, rfl, rfl⟩
  case round =>
    obtain ⟨k, hgk, hkl, rfl, rfl⟩ := hrel
    by_cases hk : k < l.length
    · have hkI : (k : Int) < l.length := by omega
      obtain ⟨g, rfl, c0, c1, c2⟩ := h.at hk
      rw [hs _ (List.getElem_mem hk)] at c0 c1 c2
      have c2' : wr.cell? ⟨g, k * 3 + 2, none⟩ = some (.int .i64 0) := c2
      have hG : Hid (gk = l.length - k) := hgk
      clear hgk c2
      go_wp2_with fail
      go_roundg (l.length - (k + 1))
      · exact ⟨k + 1, rfl, by omega, by push_cast; rfl, rfl⟩
      · have := hG.out; omega
    · obtain rfl : k = l.length := by omega
      go_wp2_with fail
      go_ret
      exact ⟨rfl, rfl⟩
end Go.Proofs.YtcclgodahlinbaaDoor

namespace Go.Proofs.YtcclgodahlinbaaDoor
open Go.RowKit Go
set_option maxRecDepth 100000

theorem run_ktext (x : Value) (w : World) : (callFunc 15 #[x]).run Tryd.prog w = .ok (.enter 15 #[x]) w := by kernel_rfl
theorem run_kapply (x y z : Value) (w : World) : (callFunc 17 #[x, y, z]).run Tryd.prog w = .ok (.enter 17 #[x, y, z]) w := by kernel_rfl
theorem lineOf_size (c : Int) : (lineOf c).size ≠ 5 ∧ (lineOf c).size ≠ 6 := by
  have h1 : ((List.range 11).all fun i => decide ((lineK i).size ≠ 5) && decide ((lineK i).size ≠ 6)) = true := by kernel_rfl
  have h2 := (List.all_eq_true.1 h1) (pickN c 11) (List.mem_range.2 (pickN_lt c (by decide)))
  simp only [Bool.and_eq_true, decide_eq_true_eq] at h2
  exact h2
theorem linesK_size (L : List Int) : ∀ s ∈ linesK L, s.size ≠ 5 ∧ s.size ≠ 6 := by
  intro s hs
  obtain ⟨c, _, rfl⟩ := List.mem_map.1 hs
  exact lineOf_size c
theorem toList_beq' (a b : ByteArray) : (!(a.toList == b.toList)) = decide (a ≠ b) := by
  obtain ⟨⟨l⟩⟩ := a
  obtain ⟨⟨r⟩⟩ := b
  by_cases h : l = r
  · subst h; simp
  · have h1 : (⟨⟨l⟩⟩ : ByteArray) ≠ ⟨⟨r⟩⟩ := by intro e; cases e; exact h rfl
    simp [h]
theorem textB_app (a b : List ByteArray) : textB a ++ textB b = textB (a ++ b) := by
  apply ByteArray.ext
  unfold textB
  rw [textL_append]
  simp [ByteArray.data_append]
theorem rep_succ (k : Nat) (s : ByteArray) : List.replicate (k + 1) s = List.replicate k s ++ [s] := List.replicate_succ'
theorem rep_text (k c : Nat) (s : ByteArray) (h : s.size ≤ c) : (textL (List.replicate k s)).length ≤ k * (c + 1) := by
  have := textL_bound (List.replicate k s) c (fun t ht => by rw [List.eq_of_mem_replicate ht]; exact h)
  simpa using this
def wholeB (hs : List HunkM) (i : Nat) : Bool := (hs.take i).all fun h => decide (0 < h.fc)
theorem wholeB_succ {hs : List HunkM} {i : Nat} (h : i < hs.length) : wholeB hs (i + 1) = (wholeB hs i && decide (0 < hs[i].fc)) := by
  unfold wholeB
  rw [List.take_succ_eq_append_getElem h, List.all_append]
  simp
def neB (X : List ByteArray) (i k : Nat) : Bool := (List.range k).all fun j => decide (X.getD i ByteArray.empty ≠ X.getD j ByteArray.empty)
def onceB (X : List ByteArray) (i : Nat) : Bool := (List.range i).all fun i' => neB X i' i'
theorem neB_succ (X : List ByteArray) (i k : Nat) : neB X i (k + 1) = (neB X i k && decide (X.getD i ByteArray.empty ≠ X.getD k ByteArray.empty)) := by
  unfold neB; rw [List.range_succ, List.all_append]; simp
theorem onceB_succ (X : List ByteArray) (i : Nat) : onceB X (i + 1) = (onceB X i && neB X i i) := by
  unfold onceB; rw [List.range_succ, List.all_append]; simp
theorem once_nodup {X : List ByteArray} (h : onceB X X.length = true) : X.Nodup := by
  rw [List.nodup_iff_pairwise_ne, List.pairwise_iff_getElem]
  intro i j hi hj hij e
  have h1 := (List.all_eq_true.1 h) j (List.mem_range.2 hj)
  have h2 := (List.all_eq_true.1 h1) i (List.mem_range.2 hij)
  simp [List.getD, hi, hj] at h2
  exact h2 e.symm

set_option maxHeartbeats 40000000 in
theorem moved_any {A E : List Int} {aa ae : Option Addr} {ca ce : Nat} (n0 m0' : Int) {m : Int} {w : World} (hA : RowI w (.slice aa A.length ca) A) (hE : RowI w (.slice ae E.length ce) E) (hA64 : i64s A) (hE64 : i64s E)
    (hn0 : -9223372036854775808 ≤ n0 ∧ n0 ≤ 9223372036854775807) (hmm : -9223372036854775808 ≤ m0' ∧ m0' ≤ 9223372036854775807) (hm : w.cell? ⟨0, 0, none⟩ = some (.int .i64 m)) (hm0 : 0 < w.heap.size) :
    Calls Tryd.prog 5 #[.slice aa A.length ca, .slice ae E.length ce, .int .i64 n0, .int .i64 m0'] w fun e w' => e = .returned (.bool true) ∧ Below w.heap.size w w' := by
  obtain ⟨i0, hi, hz0, hz1, hz2⟩ := info_parts info_str
  have hnl := pickN_lt n0 (n := 40) (by decide)
  have hml := pickN_lt m0' (n := 40) (by decide)
  have hp1 := fun w => pick_any n0 40 w hn0 (by decide) (by decide)
  have hp2 := fun w => pick_any m0' 40 w hmm (by decide) (by decide)
  generalize pickN n0 40 = N at *
  generalize pickN m0' 40 = M at *
  have haw := awake_any hm hm0
  go_enter Tryd.func5, Tryd.ntmps5
  go_wp2_with fail
  refine haw.mono ?_
  clear haw
  rintro e w1 ⟨rfl, b1⟩
  have z1 := b1.size
  have hm1 := (b1.cell (p := ⟨0, 0, none⟩) hm0).trans hm
  have hli := lines_any (hA.below b1) hA64
  go_wp2_with fail
  refine hli.mono ?_
  clear hli
  rintro e w2 ⟨vx, rfl, hox, b2⟩
  have z2 := b2.size
  have hli := lines_any ((hE.below b1).below b2) hE64
  go_wp2_with fail
  refine hli.mono ?_
  clear hli
  rintro e w3 ⟨vy, rfl, hoy, b3⟩
  have z3 := b3.size
  have hm3 := (b3.cell (p := ⟨0, 0, none⟩) (by show 0 < w2.heap.size; omega)).trans ((b2.cell (p := ⟨0, 0, none⟩) (by show 0 < w1.heap.size; omega)).trans hm1)
  have hox3 := owns_low hox b3 (fun g e => (hox.lt g e).2)
  obtain ⟨hXok, hXl⟩ := linesK_plain A
  obtain ⟨hYok, hYl⟩ := linesK_plain E
  have hXs := linesK_size A
  generalize linesK A = X at *
  generalize linesK E = Y at *
  obtain ⟨hs, hF⟩ := moved_facts N M (fun s h => ⟨(hXok s h).1, (hXok s h).2, hXs s h⟩) (fun s h => hYok s h) (by omega)
  have hXo : OkL X := hXok
  have hYo : OkL Y := hYok
  have hfX := hXo.fit (by omega)
  have hfY := hYo.fit (by omega)
  obtain ⟨F1, F2, F3, F4, F5⟩ := hF
  have hdf := diff_text (c := 3) hfX.1 hfX.2.1 hfX.2.2 hfY.1 hfY.2.1 hfY.2.2 (by omega) hm3
  rw [F1] at hdf
  have hdf' : Calls Tryd.prog 14 #[.string (textB X), .string (textB Y), .int .i64 3] w3 fun e w' =>
    ∃ a cap, e = .returned (.tuple #[.agg #[.slice a hs.length cap], .int .i64 0]) ∧ HunksAt w'.heap.size w' (.slice a hs.length cap) hs ∧ Below w3.heap.size w3 w' := hdf
  generalize hnx : X.length = nx at *
  generalize hny : Y.length = ny at *
  obtain ⟨ax, cx, rfl⟩ := owns_isSlice hox3
  obtain ⟨ay, cy, rfl⟩ := owns_isSlice hoy
  have ht1 := textO_any hox3 (by omega)
  have ht2 := textO_any hoy (by omega)
  have hbW : Below w.heap.size w w3 := b1.trans ((b2.mono z1).trans (b3.mono (by omega)))
  have hnxH : Hid (X.length = nx ∧ Y.length = ny) := ⟨hnx, hny⟩
  have hF5 : Hid (X.Nodup → (∀ h ∈ hs, 0 < h.fc) → (∀ s ∈ applyS (movedT X N M) 0 hs, s = ⟨true, N, 0⟩) ∧ applyT (movedT X N M) 0 hs = textB (movedT Y N M)) := F5
  clear hdf hox hXs hXok hYok b1 b2 b3 hm1 hm hA hE hA64 hE64 hnx hny F5 F1
  go_wp2_with fail
  refine ht1.mono ?_
  rintro e w' ⟨rfl, rfl⟩
  go_wp2_with fail
  refine ht2.mono ?_
  rintro e w' ⟨rfl, rfl⟩
  go_wp2_with fail
  refine hdf'.mono ?_
  clear hdf' ht1 ht2
  rintro e W4 ⟨a, cap, rfl, hH, b4⟩
  have z4 := b4.size
  have hb5 := (Below.refl W4.heap.size W4).alloc (Nat.le_refl _) (.cells #[.slice a hs.length cap] 37)
  have hp5 := heap_alloc_new W4 (.cells #[.slice a hs.length cap] 37)
  have z5 : (W4.alloc (.cells #[.slice a hs.length cap] 37)).heap.size = W4.heap.size + 1 := by simp
  have hH5 := (hH.below hb5).mono hb5.size
  have hb35 := b4.trans (hb5.mono z4)
  have hX5 := owns_low hox3 hb35 (fun g e => (hox3.lt g e).2)
  have hY5 := owns_low hoy hb35 (fun g e => (hoy.lt g e).2)
  have hm5 := (hb35.cell (p := ⟨0, 0, none⟩) (by show 0 < w3.heap.size; omega)).trans hm3
  have hbW5 : Below w.heap.size w (W4.alloc (.cells #[.slice a hs.length cap] 37)) := hbW.trans (hb35.mono (by omega))
  clear hH hb5 hb35 b4 hox3 hoy hm3 hbW
  go_wp2_with fail
  generalize W4.alloc (.cells #[.slice a hs.length cap] 37) = W5 at *
  refine (hp1 W5).mono ?_
  rintro e w' ⟨rfl, rfl⟩
  have hon : ∀ t : ByteArray, ∀ u ∈ [Value.string t], u.oneCell' = true := by intro t u hu; simp at hu; subst hu; rfl
  go_wp2_with fail
  go_loopg [15, 16] N (fun g v t wr => ∃ k : Nat, g = N - k ∧ k ≤ N ∧ t = .int .i64 k ∧ wr.ownsRow W5.heap.size 9 1 v k (strCells (List.replicate k aheadB)) ∧ Below W5.heap.size W5 wr)
  case atStart => exact ⟨0, by omega, by omega, rfl, World.ownsRow_nil _ _ _ _, Below.refl _ _⟩
  case round =>
    obtain ⟨k, hgk, hkN, rfl, hof, hbel⟩ := hrel
    have hszr := hbel.size
    obtain ⟨af, cf, rfl⟩ := owns_isSlice hof
    have hG : Hid (gk = N - k) := hgk
    clear hgk
    by_cases hk : k < N
    · have hkI : (k : Int) < N := by omega
      go_wp2_with (at_builtin; refine wpList_append_own2 rfl (.tmp 48) (.tmp 49) 31 rfl W5.heap.size 9 i0 _ 1 16 Tryd.underlying31 hi hz0 hz1 hz2 rfl (by decide) (.slice af k cf) k (strCells (List.replicate k aheadB)) rfl (hof.alloc _) ⟨wr.heap.size, 0, none⟩ 1 1 [.string ⟨#[97, 104, 101, 97, 100]⟩] rfl rfl (cells_new wr [.string ⟨#[97, 104, 101, 97, 100]⟩] 9) (hon _) (by unfold maxLen; omega) (by omega) (by simp; omega) ?_; intro v' wx hown hgr hnew; have hbx := (hbel.alloc (by omega) _).grown hgr (by simp; omega) (fun j e => (hof.lt j e).1))
      go_roundg (N - (k + 1))
      · exact ⟨k + 1, rfl, by omega, by push_cast; rfl, by rw [rep_succ, strCells_append]; exact hown, hbx⟩
      · have := hG.out; omega
    · obtain rfl : k = N := by omega
      go_wp2_with fail
      go_loopg [17, 18] M (fun g v t wj => ∃ i : Nat, g = M - i ∧ i ≤ M ∧ t = .int .i64 i ∧ wj.ownsRow wr.heap.size 9 1 v i (strCells (List.replicate i behindB)) ∧ Below wr.heap.size wr wj)
      case atStart => exact ⟨0, by omega, by omega, rfl, World.ownsRow_nil _ _ _ _, Below.refl _ _⟩
      case round =>
        rename World => wj
        obtain ⟨i, hgi, hiM, rfl, hol, hbl⟩ := hrel
        have hszj := hbl.size
        obtain ⟨al, cl, rfl⟩ := owns_isSlice hol
        have hGi : Hid (_ = M - i) := hgi
        clear hgi
        by_cases hi2 : i < M
        · have hiI : (i : Int) < M := by omega
          go_wp2_with fail
          refine (hp2 wj).mono ?_
          rintro e w' ⟨rfl, rfl⟩
          go_wp2_with (at_builtin; refine wpList_append_own2 rfl (.tmp 57) (.tmp 58) 31 rfl wr.heap.size 9 i0 _ 1 16 Tryd.underlying31 hi hz0 hz1 hz2 rfl (by decide) (.slice al i cl) i (strCells (List.replicate i behindB)) rfl (hol.alloc _) ⟨wj.heap.size, 0, none⟩ 1 1 [.string ⟨#[98, 101, 104, 105, 110, 100]⟩] rfl rfl (cells_new wj [.string ⟨#[98, 101, 104, 105, 110, 100]⟩] 9) (hon _) (by unfold maxLen; omega) (by omega) (by simp; omega) ?_; intro v' wx hown hgr hnew; have hbx := (hbl.alloc (by omega) _).grown hgr (by simp; omega) (fun j e => (hol.lt j e).1))
          go_roundg (M - (i + 1))
          · exact ⟨i + 1, rfl, by omega, by push_cast; rfl, by rw [rep_succ, strCells_append]; exact hown, hbx⟩
          · have := hGi.out; omega
        · obtain rfl : i = M := by omega
          have hiI : ¬ (i : Int) < i := by omega
          have hb5j : Below W5.heap.size W5 wj := hbel.trans (hbl.mono hszr)
          have hofj := owns_low hof hbl (fun g e => (hof.lt g e).2)
          have hXj := owns_low hX5 hb5j (fun g e => (hX5.lt g e).2)
          have hYj := owns_low hY5 hb5j (fun g e => (hY5.lt g e).2)
          have hHj := (hH5.below hb5j).mono hb5j.size
          have hmj := (hb5j.cell (p := ⟨0, 0, none⟩) (by show 0 < W5.heap.size; omega)).trans hm5
          have cj : wj.cell? ⟨W4.heap.size, 0, none⟩ = some (.slice a hs.length cap) := cell_of ((hb5j.block W4.heap.size (by omega)).trans hp5) rfl
          have hbj : Below w.heap.size w wj := hbW5.trans (hb5j.mono hbW5.size)
          have hwj : w.heap.size ≤ wj.heap.size := hbj.size
          have hW4j : W4.heap.size < wj.heap.size := by have := hb5j.size; omega
          clear hbl hbel hof hX5 hY5 hH5 hm5 hp5 hb5j hbW5
          go_wp2_with fail
          refine (hp2 wj).mono ?_
          rintro e w' ⟨rfl, rfl⟩
          go_wp2_with fail
          have l1 := rep_text k 5 aheadB (Nat.le_refl _)
          have l2 := rep_text i 6 behindB (Nat.le_refl _)
          have q1 : Calls Tryd.prog 15 #[.slice af k cf] wj.drew fun e w' => e = .returned (.string (textB (List.replicate k aheadB))) ∧ w' = wj.drew := (textO_any (w := wj.drew) hofj (by omega)).mono fun _ _ h => ⟨h.1, h.2.symm⟩
          have q2 : Calls Tryd.prog 15 #[.slice ax nx cx] wj.drew fun e w' => e = .returned (.string (textB X)) ∧ w' = wj.drew := (textO_any (w := wj.drew) hXj (by omega)).mono fun _ _ h => ⟨h.1, h.2.symm⟩
          have q3 : Calls Tryd.prog 15 #[.slice al i cl] wj.drew fun e w' => e = .returned (.string (textB (List.replicate i behindB))) ∧ w' = wj.drew := (textO_any (w := wj.drew) hol (by omega)).mono fun _ _ h => ⟨h.1, h.2.symm⟩
          have hT1 : textB (List.replicate k aheadB) ++ textB X ++ textB (List.replicate i behindB) = textB (movedT X k i) := by rw [textB_app, textB_app]; rfl
          have hT2 : Hid (textB (List.replicate k aheadB) ++ textB Y ++ textB (List.replicate i behindB) = textB (movedT Y k i)) := by show _ = _; rw [textB_app, textB_app]; rfl
          have hTp : Plain (movedT X k i) := by
            intro t ht
            unfold movedT at ht
            simp only [List.mem_append] at ht
            rcases ht with (ht | ht) | ht
            · rw [List.eq_of_mem_replicate ht]; decide
            · exact hfX.1 t ht
            · rw [List.eq_of_mem_replicate ht]; decide
          have hTl : (movedT X k i).length ≤ 200 := by unfold movedT; simp; have := hnxH.out.1; omega
          have hTt : (textL (movedT X k i)).length ≤ 8000 := by
            unfold movedT
            rw [textL_append, textL_append, List.length_append, List.length_append]
            have := textL_bound X 15 (fun s hs => (hXo s hs).2)
            have h2 := hnxH.out.1
            rw [h2] at this
            omega
          have hap := apply_text (fz := 0) (cap := cap) (a := a) (w := wj.drew) hTp hTl hTt (by omega) hHj F2 (by omega) F3 hmj (by show 0 < wj.heap.size; omega)
          have hsl : (applyS (movedT X k i) 0 hs).length = hs.length := applyS_length (fun x hx => hunkOk_of ((List.all_eq_true.1 F3) x hx)) (by omega) (by omega)
          generalize hTT : applyT (movedT X k i) 0 hs = TT at *
          generalize hSS : applyS (movedT X k i) 0 hs = SS at *
          clear hTT hSS hTp hTl hTt
          have hap' : Calls Tryd.prog 17 #[.string (textB (List.replicate k aheadB) ++ textB X ++ textB (List.replicate i behindB)), .agg #[.slice a hs.length cap], .int .i64 0] wj.drew fun e w' =>
            ∃ a' c', e = .returned (.tuple #[.string TT, .slice a' hs.length c', .int .i64 0]) ∧ SeamsAt w' (.slice a' hs.length c') SS ∧ Below wj.drew.heap.size wj.drew w' := by rw [hT1]; exact hap
          clear hap hT1 hmj
          have sz1 : (textB (List.replicate k aheadB)).size = (textL (List.replicate k aheadB)).length := rfl
          have sz2 : (textB X).size = (textL X).length := rfl
          have sz3 : (textB (List.replicate i behindB)).size = (textL (List.replicate i behindB)).length := rfl
          have g1 : ¬ 9223372036854775807 < (textL (List.replicate k aheadB)).length + (textL X).length := by omega
          have g2 : ¬ 9223372036854775807 < (textL (List.replicate k aheadB)).length + (textL X).length + (textL (List.replicate i behindB)).length := by omega
          go_cut [19, 20, 21] from 28 (fun vs vl ve wc => ∃ a' c', vs = .string TT ∧ vl = .slice a' hs.length c' ∧ ve = .int .i64 0 ∧ SeamsAt wc (.slice a' hs.length c') SS ∧ Below wj.drew.heap.size wj.drew wc)
          case first =>
            clear hHj hXj hYj hofj hol hT2 hF5
            go_region_law (first | (refine step_call rfl 15 #[.tmp 61] _ rfl #[.slice af k cf] (by simp [Act.eval, Act.put]) (run_ktext _ _) (fun v w' => v = .string (textB (List.replicate k aheadB)) ∧ w' = wj.drew) (q1.mono (fun e w' h => ⟨_, h.1, rfl, h.2⟩)) ?_; rintro v w' ⟨rfl, rfl⟩) | (refine step_call rfl 15 #[.tmp 63] _ rfl #[.slice ax nx cx] (by simp [Act.eval] <;> simp [Act.put]) (run_ktext _ _) (fun v w' => v = .string (textB X) ∧ w' = wj.drew) (q2.mono (fun e w' h => ⟨_, h.1, rfl, h.2⟩)) ?_; rintro v w' ⟨rfl, rfl⟩) | (refine step_call rfl 15 #[.tmp 66] _ rfl #[.slice al i cl] (by simp [Act.eval] <;> simp [Act.put]) (run_ktext _ _) (fun v w' => v = .string (textB (List.replicate i behindB)) ∧ w' = wj.drew) (q3.mono (fun e w' h => ⟨_, h.1, rfl, h.2⟩)) ?_; rintro v w' ⟨rfl, rfl⟩) | (refine step_call rfl 17 _ _ rfl #[.string (textB (List.replicate k aheadB) ++ textB X ++ textB (List.replicate i behindB)), .agg #[.slice a hs.length cap], .int .i64 0] (by simp [Act.eval] <;> simp [Act.put]) (run_kapply _ _ _ _) (fun v w' => ∃ a' c', v = .tuple #[.string TT, .slice a' hs.length c', .int .i64 0] ∧ SeamsAt w' (.slice a' hs.length c') SS ∧ Below wj.drew.heap.size wj.drew w') (hap'.mono (by rintro e w' ⟨a', c', rfl, h1, h2⟩; exact ⟨_, rfl, a', c', rfl, h1, h2⟩)) ?_; rintro v w4 ⟨a', c', rfl, hS, b4⟩))
            all_goals
              go_wp2_with fail
              go_meet
              case rel => exact ⟨a', c', rfl, rfl, rfl, hS, b4⟩
          case rest =>
            rename World => U
            obtain ⟨a', c', rfl, rfl, rfl, hS, b6⟩ := hcut
            clear q1 q2 q3 hap'
            have b6' : Below wj.heap.size wj U := (Below.refl wj.heap.size wj).drew.trans b6
            have hbU : Below w.heap.size w U := hbj.trans (b6'.mono hwj)
            have hfU := owns_low hofj b6' (fun g e => (hofj.lt g e).2)
            have hXU := owns_low hXj b6' (fun g e => (hXj.lt g e).2)
            have hYU := owns_low hYj b6' (fun g e => (hYj.lt g e).2)
            have hlU := owns_low hol b6' (fun g e => (hol.lt g e).2)
            have hHU := hHj.below b6'
            have hXS : RowS U (.slice ax nx cx) X := RowS.of_owns (by rw [hnxH.out.1]; exact hXU)
            have cU : U.cell? ⟨W4.heap.size, 0, none⟩ = some (.slice a hs.length cap) := (b6'.cell (p := ⟨W4.heap.size, 0, none⟩) hW4j).trans cj
            clear b6 b6' hbj hofj hXj hYj hol hHj cj
            go_wp2_with fail
            go_loopg [22, 23] hs.length (fun g v t wk => ∃ j : Nat, g = hs.length - j ∧ j ≤ hs.length ∧ t = .int .i64 j ∧ v = .bool (wholeB hs j) ∧ wk = U)
            case atStart => exact ⟨0, by omega, by omega, rfl, rfl, rfl⟩
            case round =>
              obtain ⟨j, hgj, hjl, rfl, rfl, rfl⟩ := hrel
              have hGj : Hid (_ = hs.length - j) := hgj
              clear hgj
              by_cases hj : j < hs.length
              · have hjI : (j : Int) < hs.length := by omega
                have hws : Hid (wholeB hs (j + 1) = (wholeB hs j && decide (0 < hs[j].fc))) := wholeB_succ hj
                obtain ⟨b, a'', c'', rfl, hbB, r0, r1, r2, r3, r4, hst⟩ := hHU.at (i := j) hj
                clear r0 r2 r3 r4 hst
                generalize hs[j].fc = fc at *
                cases hwb : wholeB hs j with
                | true =>
                  rw [hwb] at hws
                  have hq : decide ((0 : Int) < fc) = decide (0 < fc) := by congr 1; exact propext (by omega)
                  go_wp2_with fail
                  go_roundg (hs.length - (j + 1))
                  · exact ⟨j + 1, rfl, by omega, by push_cast; rfl, by rw [hws.out]; simp, rfl⟩
                  · have := hGj.out; omega
                | false =>
                  rw [hwb] at hws
                  go_wp2_with fail
                  go_roundg (hs.length - (j + 1))
                  · exact ⟨j + 1, rfl, by omega, by push_cast; rfl, by rw [hws.out]; rfl, rfl⟩
                  · have := hGj.out; omega
              · obtain rfl : j = hs.length := by omega
                have hwe : Hid (wholeB hs hs.length = true → ∀ h ∈ hs, 0 < h.fc) := by
                  intro h x hx
                  unfold wholeB at h
                  rw [List.take_length] at h
                  simpa using (List.all_eq_true.1 h) x hx
                generalize wholeB hs hs.length = WB at *
                go_wp2_with fail
                rename World => U2
                go_loopg [24, 25] nx (fun g v t wk => ∃ (i2 n : Nat), g = nx - i2 ∧ i2 ≤ nx ∧ t = .int .i64 i2 ∧ v = .bool (onceB X i2) ∧ wk = U2.drewN n)
                case atStart => exact ⟨0, 0, by omega, by omega, rfl, rfl, rfl⟩
                case round =>
                  obtain ⟨i2, n, hg2, hil2, rfl, rfl, rfl⟩ := hrel
                  have hG2 : Hid (_ = nx - i2) := hg2
                  clear hg2
                  by_cases hi3 : i2 < nx
                  · have hi3I : (i2 : Int) < nx := by omega
                    have hos : Hid (onceB X (i2 + 1) = (onceB X i2 && neB X i2 i2)) := onceB_succ X i2
                    generalize onceB X i2 = OB at *
                    go_wp2_with fail
                    go_loopg [24, 26] i2 (fun g v t wl => ∃ (k2 n2 : Nat), g = i2 - k2 ∧ k2 ≤ i2 ∧ t = .int .i64 k2 ∧ v = .bool (OB && neB X i2 k2) ∧ wl = U2.drewN n2)
                    case atStart => exact ⟨0, n, by omega, by omega, rfl, by simp [neB], rfl⟩
                    case round =>
                      obtain ⟨k2, n2, hg3, hkl3, rfl, rfl, rfl⟩ := hrel
                      have hG3 : Hid (_ = i2 - k2) := hg3
                      clear hg3
                      by_cases hk3 : k2 < i2
                      · have hk3I : (k2 : Int) < i2 := by omega
                        have hk3J : (k2 : Int) < nx := by omega
                        have hns : Hid (neB X i2 (k2 + 1) = (neB X i2 k2 && decide (X.getD i2 ByteArray.empty ≠ X.getD k2 ByteArray.empty))) := neB_succ X i2 k2
                        obtain ⟨gX, offX, rfl, d1⟩ := hXS.at (i := i2) (by have := hnxH.out.1; omega)
                        obtain ⟨gX2, offX2, e2, d2⟩ := hXS.at (i := k2) (by have := hnxH.out.1; omega)
                        cases e2
                        generalize X.getD i2 ByteArray.empty = s1 at *
                        generalize X.getD k2 ByteArray.empty = s2 at *
                        cases hob : (OB && neB X i2 k2) with
                        | true =>
                          have hns2 : Hid ((OB && neB X i2 (k2 + 1)) = decide (s1 ≠ s2)) := by show _ = _; rw [hns.out, ← Bool.and_assoc, hob]; rfl
                          go_wp2_with fail
                          go_quiet (fail)
                          go_wp2_with fail
                          go_roundg (i2 - (k2 + 1))
                          · exact ⟨k2 + 1, _, rfl, by omega, by push_cast; rfl, by rw [hns2.out, ← toList_beq'], rfl⟩
                          · have := hG3.out; omega
                        | false =>
                          have hns2 : Hid ((OB && neB X i2 (k2 + 1)) = false) := by show _ = _; rw [hns.out, ← Bool.and_assoc, hob]; rfl
                          go_wp2_with fail
                          go_quiet (fail)
                          go_wp2_with fail
                          go_roundg (i2 - (k2 + 1))
                          · exact ⟨k2 + 1, _, rfl, by omega, by push_cast; rfl, by rw [hns2.out], rfl⟩
                          · have := hG3.out; omega
                      · obtain rfl : k2 = i2 := by omega
                        go_wp2_with fail
                        go_roundg (nx - (k2 + 1))
                        · exact ⟨k2 + 1, _, rfl, by omega, by push_cast; rfl, by rw [hos.out], rfl⟩
                        · have := hG2.out; omega
                  · obtain rfl : i2 = nx := by omega
                    have hoe : Hid (onceB X i2 = true → X.Nodup) := by
                      intro h
                      have e := hnxH.out.1
                      rw [← e] at h
                      exact once_nodup h
                    generalize onceB X i2 = OB at *
                    cases WB with
                    | false =>
                      go_wp2_with fail
                      go_ret
                      exact ⟨rfl, Below.drewN' hbU⟩
                    | true =>
                      cases OB with
                      | false =>
                        go_wp2_with fail
                        go_ret
                        exact ⟨rfl, Below.drewN' hbU⟩
                      | true =>
                        obtain ⟨f1, f2⟩ := hF5.out (hoe.out rfl) (hwe.out rfl)
                        have hst1 : Calls Tryd.prog 18 #[.slice a' hs.length c', .int .i64 (hs.length : Int), .int .i64 (k : Int)] (U2.drewN n) fun e w' => e = .returned (.bool true) ∧ U2.drewN n = w' := by
                          have := still_yes (w := U2.drewN n) (l := SS) (a := a') (c := c') (b := (k : Int)) (by rw [hsl]; exact hS) (by omega) f1
                          rw [hsl] at this
                          exact this
                        have t1 := textO_any (w := U2.drewN n) hfU (by omega)
                        have t2 := textO_any (w := U2.drewN n) hYU (by omega)
                        have t3 := textO_any (w := U2.drewN n) hlU (by omega)
                        have sz4 : (textB Y).size = (textL Y).length := rfl
                        subst f2
                        have hfin : Hid (textB (List.replicate k aheadB) ++ textB Y ++ textB (List.replicate i behindB) = textB (movedT Y k i)) := hT2
                        rw [← hfin.out]
                        go_wp2_with fail
                        refine hst1.mono ?_
                        rintro e w' ⟨rfl, rfl⟩
                        go_wp2_with fail
                        refine t1.mono ?_
                        rintro e w' ⟨rfl, rfl⟩
                        go_wp2_with fail
                        refine t2.mono ?_
                        rintro e w' ⟨rfl, rfl⟩
                        go_wp2_with fail
                        refine t3.mono ?_
                        rintro e w' ⟨rfl, rfl⟩
                        go_wp2_with fail
                        go_ret
                        exact ⟨rfl, Below.drewN' hbU⟩
end Go.Proofs.YtcclgodahlinbaaDoor

namespace Go.Proofs.YtcclgodahlinbaaDoor
open Go.ChangeShapes Go.WideShapes Go.ChangeAt Go.RowKit Go
set_option maxRecDepth 100000

theorem cellsInt : Tryd.prog.cellsOf 3 = 1 := by kernel_rfl
theorem laidOutK : laidOutB Tryd.prog = true := by kernel_rfl
theorem wants_ints : Tryd.prog.wantsStandIn 30 = false := by kernel_rfl
/-- a row of ints that came in -/
theorem open_row {H : Type} {enc : TypeId × Value → H} {W : World} {a0 : Option Addr} {len cap fuel : Nat} {x : DataW H × List MemPlace}
    (hf : DataW.trod enc Tryd.prog W 0 (fun _ => true) true fuel 30 [.slice a0 len cap] = some x) : ∃ L : List Int, L.length = len ∧ RowI W (.slice a0 L.length cap) L ∧ i64s L := by
  rcases open_ints Tryd.underlying30 Tryd.underlying3 cellsInt hf with ⟨hcs, _⟩ | ⟨a, len', cap', zs, hcs, _, hl, hm, hz, _, hcell, hw⟩
  · simp at hcs
    obtain ⟨rfl, rfl, rfl⟩ := hcs
    exact ⟨[], rfl, .inl ⟨rfl, none, 0, rfl⟩, fun c hc => by simp at hc⟩
  · simp at hcs
    obtain ⟨rfl, rfl, rfl⟩ := hcs
    simp only [if_true] at hz
    have hlen : (zs.take len).length = len := by rw [List.length_take]; omega
    refine ⟨zs.take len, hlen, ?_, fun c hc => i64_bounds (hw c (List.mem_of_mem_take hc))⟩
    by_cases h0 : len = 0
    · left
      subst h0
      exact ⟨by simp, _, _, by rw [hlen]⟩
    · right
      obtain ⟨b, off, spot⟩ := a
      have hspot : spot = none := by simpa [Addr.add] using World.cell?_spot (hcell 0 (by omega))
      subst hspot
      refine ⟨b, off, cap, by rw [hlen], cell_lt (hcell 0 (by omega)), fun i hi => ?_⟩
      rw [hlen] at hi
      have h1 := hcell i (by omega)
      have e : (⟨b, off, none⟩ : Addr).add i = ⟨b, off + i, none⟩ := by simp [Addr.add]
      rw [e] at h1
      rw [h1]
      simp [List.getD, show i < zs.length by omega]

theorem moved_witness (os : Os) {H : Type} (enc : TypeId × Value → H) :
    (OpenSpec.ofChange Rows.movedSpec).preRow enc Tryd.prog Tryd.f5 Rows.movedRow.domain false Rows.movedRow.laid ((withTables (World.holding Tryd.prog os ⟨#[], #[], []⟩)).forCall (fun _ _ => 0) ⟨#[], #[.slice none 0 0, .slice none 0 0, .int .i64 0, .int .i64 0], []⟩).memory #[.slice none 0 0, .slice none 0 0, .int .i64 0, .int .i64 0] := by
  have hw : (DataW.whole enc Tryd.prog ((withTables (World.holding Tryd.prog os ⟨#[], #[], []⟩)).forCall (fun _ _ => 0) ⟨#[], #[.slice none 0 0, .slice none 0 0, .int .i64 0, .int .i64 0], []⟩).memory Tryd.f5.params.toList (OpenSpec.ofChange Rows.movedSpec).vars false (#[.slice none 0 0, .slice none 0 0, .int .i64 0, .int .i64 0] : Array Value).toList 8).map (fun x => (x.1, x.2.1)) =
      some ([.nil, .nil, .lit (.int .i64 0), .lit (.int .i64 0)], []) := by kernel_rfl
  obtain ⟨⟨x1, x2, x3⟩, hx, hx1⟩ := Option.map_eq_some_iff.1 hw
  simp only [Prod.mk.injEq] at hx1
  obtain ⟨rfl, rfl⟩ := hx1
  exact OpenSpec.preRow_of_cond 8 hx (by kernel_rfl) (fun k hk => by cases hk) (by kernel_rfl) (laid_met os _)

theorem moved_lifted (os : Os) (started : os.Started) (H : Type) (enc : TypeId × Value → H) (F : Stop.Interp) :
    ReturnsInHanded {} Tryd.checked os 5 .any ((OpenSpec.ofChange Rows.movedSpec).preRow enc Tryd.prog Tryd.f5 Rows.movedRow.domain false Rows.movedRow.laid) (((OpenSpec.ofChange Rows.movedSpec).at F).post enc Tryd.prog Tryd.f5 false true false false) := by
  refine returnsInHanded_of_row (C := Tryd.checked) (s := OpenSpec.ofChange Rows.movedSpec) ownK started (by kernel_rfl) Tryd.func5
    (witness_row_atRef (enc := enc) (C := Tryd.checked) false (withTables (World.holding Tryd.prog os ⟨#[], #[], []⟩)) #[.slice none 0 0, .slice none 0 0, .int .i64 0, .int .i64 0] rfl (by kernel_rfl) (by kernel_rfl) (by kernel_rfl) (moved_witness os enc)) ?_
  intro W base args ds gs before hval0 hW _ _ _ _ hsh _
  have hval : ∀ (j : Nat) t v, Tryd.f5.params[j]? = some t → args[j]? = some v → Value.okWide Tryd.prog W .any base t v := hval0
  have hW' := hW
  obtain ⟨p, q, hA0, hV, rfl, _, _⟩ := hW
  have hA : DataW.TrodAll enc Tryd.prog W 0 (fun _ => true) true Tryd.f5.params.toList args.toList ds p := hA0
  rw [Tryd.params5] at hA hval
  obtain ⟨v0, vs0, d0, ds0, p0, q0, hargs, rfl, rfl, h0, r0⟩ := trodAll_cons hA
  obtain ⟨v1, vs1, d1, ds1, p1, q1, rfl, rfl, rfl, h1, r1⟩ := trodAll_cons r0
  obtain ⟨v2, vs2, d2, ds2, p2, q2, rfl, rfl, rfl, h2, r2⟩ := trodAll_cons r1
  obtain ⟨v3, vs3, d3, ds3, p3, q3, rfl, rfl, rfl, h3, r3⟩ := trodAll_cons r2
  obtain ⟨rfl, rfl, rfl⟩ := trodAll_nil r3
  obtain rfl : args = #[v0, v1, v2, v3] := by cases args; simp_all
  obtain ⟨rfl, rfl⟩ := trodVars_none hV
  obtain ⟨a0, l0, c0, rfl⟩ := okWide_slice Tryd.underlying30 (hval 0 30 v0 rfl rfl)
  obtain ⟨a1, l1, c1, rfl⟩ := okWide_slice Tryd.underlying30 (hval 1 30 v1 rfl rfl)
  obtain ⟨n2, rfl, rfl, rfl, w2⟩ := open_int Tryd.underlying3 (hval 2 3 v2 rfl rfl) h2
  obtain ⟨n3, rfl, rfl, rfl, w3⟩ := open_int Tryd.underlying3 (hval 3 3 v3 rfl rfl) h3
  have h0k := h0
  have h1k := h1
  obtain ⟨fuel0, hf0⟩ := h0
  obtain ⟨fuel1, hf1⟩ := h1
  clear hA0 hval0
  simp only [List.append_nil] at hW'
  have hlt : ∀ x ∈ p0 ++ p1, x.block < W.heap.size := fun x hx => by simpa using hW'.lt x hx
  obtain ⟨L0, e0, r0', s0⟩ := open_row hf0
  obtain ⟨L1, e1, r1', s1⟩ := open_row hf1
  subst e0 e1
  obtain ⟨m, hm⟩ := maxlen_of hsh
  refine (moved_any n2 n3 r0' r1' s0 s1 (i64_bounds w2) (i64_bounds w3) hm (cell_lt hm)).mono fun e W' ⟨he, hb⟩ => ?_
  subst he
  refine ⟨_, rfl, _, _, _, [], p0 ++ p1, [], hW', ?_, ?_, ?_, hb.frame _, fun h => by cases h⟩
  · exact trodAll_mk1 (shut_bool Tryd.underlying4 true)
  · have t0 := Below.trod laidOutK (by kernel_rfl) (of_decide_eq_true (by kernel_rfl)) h0k hb (fun x hx => hlt x (by simp [hx]))
    have t1 := Below.trod laidOutK (by kernel_rfl) (of_decide_eq_true (by kernel_rfl)) h1k hb (fun x hx => hlt x (by simp [hx]))
    have := trodAll_cons_mk t0 (trodAll_cons_mk t1 (trodAll_cons_mk (shut_int Tryd.underlying3 w2) (trodAll_cons_mk (shut_int Tryd.underlying3 w3) trodAll_mk0)))
    simp only [List.append_nil] at this
    exact this
  · exact rfl

theorem moved_row : Rows.MovedSaid :=
  OpenClaim.holds_of_cond 5 Tryd.f5 rfl rfl rfl rfl rfl rfl rfl ⟨rfl, rfl, rfl, rfl, rfl⟩ rfl rfl rfl rfl rfl (by kernel_rfl) Tryd.func5 (by kernel_rfl)
    (of_decide_eq_true (by kernel_rfl)) (by unfold Func.isWrapper; rw [if_neg (of_decide_eq_false (by kernel_rfl))]; exact ⟨rfl, rfl⟩)
    (fun os started H enc _ F0 => by rw [OpenClaim.pre_eq_preRow]; exact moved_lifted os started H enc F0)

theorem moved_card : Rows.MovedCardSaid :=
  Claim7.holds_tied_plain_at .later [] [.data, .pinned] true (true, "3f8c4d030d35e1a046a922c0ffa55382a10e77318e3c368b2b9f9a212657129c") true
    moved_row (fun _ h => by cases h) (by kernel_rfl) (fun _ h => by cases h) moved_row_tie rfl ⟨rfl, rfl⟩ (by kernel_rfl) rfl
    (fun f fn hf hfn => by
      obtain rfl : f = 5 := Option.some.inj ((show Tryd.prog.funcNamed Tryd.f5.name = some 5 by kernel_rfl).symm.trans hf) |>.symm
      obtain rfl : fn = Tryd.f5 := (Option.some.inj (Tryd.func5.symm.trans hfn)).symm
      exact ⟨by kernel_rfl, fun j t ht => by
        rw [Tryd.params5] at ht
        rcases j with _ | _ | _ | _ | j
        · obtain rfl : t = 30 := by simpa using ht.symm
          exact wants_ints
        · obtain rfl : t = 30 := by simpa using ht.symm
          exact wants_ints
        · obtain rfl : t = 3 := by simpa using ht.symm
          exact wants_int
        · obtain rfl : t = 3 := by simpa using ht.symm
          exact wants_int
        · simp at ht⟩)
    (by kernel_rfl)
#print axioms moved_card
end Go.Proofs.YtcclgodahlinbaaDoor
