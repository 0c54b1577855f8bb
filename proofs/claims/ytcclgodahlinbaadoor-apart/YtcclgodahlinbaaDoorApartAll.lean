import Derived.Test.YtcclgodahlinbaaDoorWPick
import Derived.Lib.SplitLaws
import Derived.Test.YtcclgodahlinbaaDoorMSearch3
import Derived.Test.YtcclgodahlinbaaDoorMHeap
import Derived.Test.YtcclgodahlinbaaDoorWAwake2
import Derived.Laws.IdiomStrings
import Derived.Deep.Cut
import Derived.Deep.RegionLaw
import Derived.Test.YtcclgodahlinbaaDoorWLaid
import Derived.Test.YtcclgodahlinbaaDoorCards
import Derived.Test.YtcclgodahlinbaaDoorTie
import Derived.SevenTiedAt
import Derived.JoinedCond
import Derived.ChangeSame
namespace Go.Proofs.YtcclgodahlinbaaDoor
open Go.RowKit Go
set_option maxRecDepth 100000

theorem index_nl : ∀ (a r : List UInt8), (10 : UInt8) ∉ a → Lib.index (a ++ 10 :: r) [10] = (a.length : Int)
  | [], r, _ => by rw [List.nil_append, Lib.index]; simp [List.isPrefixOf]
  | b :: a, r, h => by
    have hb : b ≠ 10 := by intro e; exact h (by simp [e])
    have ih := index_nl a r (fun e => h (List.mem_cons_of_mem _ e))
    have hp : ([10] : List UInt8).isPrefixOf (b :: (a ++ 10 :: r)) = false := by simp [List.isPrefixOf, Ne.symm hb]
    rw [List.cons_append, Lib.index, hp, ih]
    simp
theorem index_none : ∀ (a : List UInt8), (10 : UInt8) ∉ a → Lib.index a [10] = -1
  | [], _ => by simp [Lib.index]
  | b :: a, h => by
    have hb : b ≠ 10 := by intro e; exact h (by simp [e])
    have ih := index_none a (fun e => h (List.mem_cons_of_mem _ e))
    have hp : ([10] : List UInt8).isPrefixOf (b :: a) = false := by simp [List.isPrefixOf, Ne.symm hb]
    rw [Lib.index, hp, ih]
    simp

/-- lines with signs between them alone -/
def joinL : List (List UInt8) → List UInt8
  | [] => []
  | [a] => a
  | a :: b :: l => a ++ 10 :: joinL (b :: l)
theorem joinL_count : ∀ (L : List (List UInt8)), (∀ a ∈ L, (10 : UInt8) ∉ a) → L ≠ [] → (joinL L).count 10 + 1 = L.length
  | [], _, h => absurd rfl h
  | [a], h, _ => by simp [joinL, List.count_eq_zero.2 (h a (by simp))]
  | a :: b :: l, h, _ => by
    have ih := joinL_count (b :: l) (fun x hx => h x (List.mem_cons_of_mem _ hx)) (by simp)
    rw [joinL, List.count_append, List.count_cons_self, List.count_eq_zero.2 (h a (by simp))]
    simp only [List.length_cons] at ih ⊢
    omega
theorem splitK_join : ∀ (L : List (List UInt8)), (∀ a ∈ L, (10 : UInt8) ∉ a) → L ≠ [] → ∀ k, k + 1 = L.length → Lib.splitK [10] 0 k (joinL L) = L
  | [], _, h, _, _ => absurd rfl h
  | [a], _, _, k, hk => by
    obtain rfl : k = 0 := by simpa using hk
    rfl
  | a :: b :: l, h, _, k, hk => by
    cases k with
    | zero => simp at hk
    | succ k =>
      have ih := splitK_join (b :: l) (fun x hx => h x (List.mem_cons_of_mem _ hx)) (by simp) k (by simpa using hk)
      have hi := index_nl a (joinL (b :: l)) (h a (by simp))
      rw [joinL, Lib.splitK, hi, if_neg (by simp)]
      have e1 : (a ++ 10 :: joinL (b :: l)).take (((a.length : Int)).toNat + 0) = a := by simp
      have e2 : (a ++ 10 :: joinL (b :: l)).drop (((a.length : Int)).toNat + [(10 : UInt8)].length) = joinL (b :: l) := by
        rw [Int.toNat_natCast, List.drop_append, List.drop_eq_nil_of_le (by simp)]
        simp
      rw [e1, e2, ih]
theorem textL_join : ∀ (L : List ByteArray), L ≠ [] → textL L = joinL (L.map (·.data.toList)) ++ [10]
  | [], h => absurd rfl h
  | [a], _ => by simp [textL, joinL]
  | a :: b :: l, _ => by
    have ih := textL_join (b :: l) (by simp)
    have e : textL (a :: b :: l) = (a.data.toList ++ [10]) ++ textL (b :: l) := rfl
    rw [e, ih]
    simp [joinL]
theorem bytes_inj {a b : List ByteArray} (h : a.map (·.data.toList) = b.map (·.data.toList)) : a = b := by
  refine List.map_inj_right (f := fun s : ByteArray => s.data.toList) ?_ |>.1 h
  intro x y e
  apply ByteArray.ext
  exact Array.toList_inj.1 e
/-- no sign of a line's end -/
def Plain (L : List ByteArray) : Prop := ∀ s ∈ L, (10 : UInt8) ∉ s.data.toList
theorem linesB_text {L : List ByteArray} (h : Plain L) : linesB (textB L) = L := by
  by_cases h0 : L = []
  · subst h0; simp [linesB, textB, textL]
  · have hj := textL_join L h0
    have hne : (textB L).toList.isEmpty = false := by
      unfold textB
      rw [hj]
      simp
    have ht : trimB (textB L) = ⟨(joinL (L.map (·.data.toList))).toArray⟩ := by
      unfold trimB textB Lib.trimSuffix Lib.hasSuffix
      simp only [hj]
      rw [if_pos (by simp)]
      simp
    unfold linesB
    rw [hne, if_neg (by simp), ht]
    apply bytes_inj
    have hP : ∀ a ∈ L.map (·.data.toList), (10 : UInt8) ∉ a := by
      intro a ha
      obtain ⟨s, hs, rfl⟩ := List.mem_map.1 ha
      exact h s hs
    have hc := joinL_count _ hP (by simp [h0])
    rw [Lib.splitB_data]
    have e3 : Lib.countB ⟨(joinL (L.map (·.data.toList))).toArray⟩ nl = (joinL (L.map (·.data.toList))).count 10 := by
      show Lib.count _ _ = _
      exact Lib.count_one 10 _
    rw [e3]
    exact splitK_join _ hP (by simp [h0]) _ hc
theorem textL_count {L : List ByteArray} (h : Plain L) : (textL L).count 10 = L.length := by
  by_cases h0 : L = []
  · subst h0; rfl
  · have hP : ∀ a ∈ L.map (·.data.toList), (10 : UInt8) ∉ a := by
      intro a ha
      obtain ⟨s, hs, rfl⟩ := List.mem_map.1 ha
      exact h s hs
    have hc := joinL_count _ hP (by simp [h0])
    rw [textL_join L h0, List.count_append]
    simp at hc ⊢
    omega
theorem isTextB_text (L : List ByteArray) : isTextB (textB L) = true := by
  by_cases h0 : L = []
  · subst h0; simp [isTextB, textB, textL]
  · unfold isTextB textB Lib.hasSuffix
    simp only [textL_join L h0]
    simp
theorem largeB_text {L : List ByteArray} (h : Plain L) (h1 : L.length ≤ 200) (h2 : (textL L).length ≤ 8000) : largeB (textB L) = false := by
  have e1 : (textB L).size = (textL L).length := rfl
  have e2 : Lib.countByte (textB L).data.toList 10 = L.length := textL_count h
  unfold largeB
  rw [e1, e2]
  simp
  omega
theorem checkB_text {L R : List ByteArray} {c : Nat} (h : Plain L) (h1 : L.length ≤ 200) (h2 : (textL L).length ≤ 8000) (g : Plain R) (g1 : R.length ≤ 200) (g2 : (textL R).length ≤ 8000) (hc : c ≤ 10) : checkB (textB L) (textB R) c = 0 := by
  unfold checkB
  rw [isTextB_text, isTextB_text, largeB_text h h1 h2, largeB_text g g1 g2]
  simp
  omega
end Go.Proofs.YtcclgodahlinbaaDoor

namespace Dn
section
variable {α : Type} [DecidableEq α]

/-- a way from a row to another with so many drops and adds -/
inductive Ed : List α → List α → Nat → Prop
  | nil : Ed [] [] 0
  | keep (a : α) (l r : List α) (k : Nat) : Ed l r k → Ed (a :: l) (a :: r) k
  | drop (a : α) (l r : List α) (k : Nat) : Ed l r k → Ed (a :: l) r (k + 1)
  | add (a : α) (l r : List α) (k : Nat) : Ed l r k → Ed l (a :: r) (k + 1)

def dist : List α → List α → Nat
  | [], r => r.length
  | _ :: l, [] => l.length + 1
  | a :: l, b :: r => if a = b then dist l r else 1 + min (dist l (b :: r)) (dist (a :: l) r)
termination_by l r => l.length + r.length

theorem dist_nil_l (r : List α) : dist [] r = r.length := by rw [dist]
theorem dist_nil_r (l : List α) : dist l [] = l.length := by cases l <;> simp [dist]
theorem dist_same (a : α) (l r : List α) : dist (a :: l) (a :: r) = dist l r := by rw [dist, if_pos rfl]
theorem dist_ne {a b : α} (h : a ≠ b) (l r : List α) : dist (a :: l) (b :: r) = 1 + min (dist l (b :: r)) (dist (a :: l) r) := by rw [dist, if_neg h]

theorem dist_comm : ∀ (n : Nat) (l r : List α), l.length + r.length ≤ n → dist l r = dist r l := by
  intro n
  induction n with
  | zero =>
    intro l r h
    have h1 : l = [] := List.eq_nil_of_length_eq_zero (by omega)
    have h2 : r = [] := List.eq_nil_of_length_eq_zero (by omega)
    rw [h1, h2]
  | succ n ih =>
    intro l r h
    cases l with
    | nil => rw [dist_nil_l, dist_nil_r]
    | cons a l =>
      cases r with
      | nil => rw [dist_nil_l, dist_nil_r]
      | cons b r =>
        simp only [List.length_cons] at h
        by_cases e : a = b
        · subst e; rw [dist_same, dist_same]; exact ih _ _ (by omega)
        · rw [dist_ne e, dist_ne (Ne.symm e), ih l (b :: r) (by simp; omega), ih (a :: l) r (by simp; omega)]
          omega

theorem dist_near : ∀ (n : Nat) (l r : List α), l.length + r.length ≤ n → (∀ a, dist (a :: l) r ≤ dist l r + 1) ∧ (∀ b, dist l r ≤ dist l (b :: r) + 1) := by
  intro n
  induction n with
  | zero =>
    intro l r h
    have h1 : l = [] := List.eq_nil_of_length_eq_zero (by omega)
    have h2 : r = [] := List.eq_nil_of_length_eq_zero (by omega)
    subst h1 h2
    simp [dist_nil_l, dist_nil_r]
  | succ n ih =>
    intro l r h
    refine ⟨fun a => ?_, fun b => ?_⟩
    · cases r with
      | nil => rw [dist_nil_r, dist_nil_r]; simp
      | cons b r =>
        simp only [List.length_cons] at h
        by_cases e : a = b
        · subst e
          rw [dist_same]
          exact (ih l r (by omega)).2 a
        · rw [dist_ne e]; omega
    · cases l with
      | nil => rw [dist_nil_l, dist_nil_l]; simp; omega
      | cons c l =>
        simp only [List.length_cons] at h
        by_cases e : c = b
        · subst e
          rw [dist_same]
          exact (ih l r (by omega)).1 c
        · rw [dist_ne e]
          have h1 := (ih l r (by omega)).1 c
          have h2 := (ih l r (by omega)).2 b
          omega
theorem dist_l1 (a : α) (l r : List α) : dist (a :: l) r ≤ dist l r + 1 := (dist_near _ l r (Nat.le_refl _)).1 a
theorem dist_r1 (b : α) (l r : List α) : dist l (b :: r) ≤ dist l r + 1 := by
  rw [dist_comm _ l (b :: r) (Nat.le_refl _), dist_comm _ l r (Nat.le_refl _)]; exact dist_l1 b r l
theorem Ed.dist_le {l r : List α} {k : Nat} (h : Ed l r k) : dist l r ≤ k := by
  induction h with
  | nil => simp [dist]
  | keep a l r k _ ih => rw [dist_same]; exact ih
  | drop a l r k _ ih => have := dist_l1 a l r; omega
  | add a l r k _ ih => have := dist_r1 a l r; omega
omit [DecidableEq α] in
theorem Ed.refl (l : List α) : Ed l l 0 := by
  induction l with
  | nil => exact .nil
  | cons a l ih => exact .keep a l l 0 ih
omit [DecidableEq α] in
/-- a line more -/
theorem Ed.put {l r : List α} {k : Nat} (h : Ed l r k) (a : α) : ∀ i, i ≤ r.length → Ed l (r.take i ++ a :: r.drop i) (k + 1) := by
  induction h with
  | nil => intro i hi; simp at hi; subst hi; exact .add a _ _ _ .nil
  | keep b l r k h ih =>
    intro i hi
    cases i with
    | zero => exact .add a _ _ _ (.keep b l r k h)
    | succ i => exact .keep b _ _ _ (ih i (by simpa using hi))
  | drop b l r k h ih => intro i hi; exact .drop b _ _ _ (ih i hi)
  | add b l r k h ih =>
    intro i hi
    cases i with
    | zero => exact .add a _ _ _ (.add b l r k h)
    | succ i => exact .add b _ _ _ (ih i (by simpa using hi))
omit [DecidableEq α] in
/-- a line less -/
theorem Ed.cut {l r : List α} {k : Nat} (h : Ed l r k) : ∀ i, i < r.length → ∃ k', k' ≤ k + 1 ∧ Ed l (r.take i ++ r.drop (i + 1)) k' := by
  induction h with
  | nil => intro i hi; simp at hi
  | keep b l r k h ih =>
    intro i hi
    cases i with
    | zero => exact ⟨k + 1, Nat.le_refl _, .drop b _ _ _ h⟩
    | succ i => obtain ⟨k', hk, he⟩ := ih i (by simpa using hi); exact ⟨k', hk, .keep b _ _ _ he⟩
  | drop b l r k h ih => intro i hi; obtain ⟨k', hk, he⟩ := ih i hi; exact ⟨k' + 1, by omega, .drop b _ _ _ he⟩
  | add b l r k h ih =>
    intro i hi
    cases i with
    | zero => exact ⟨k, by omega, h⟩
    | succ i => obtain ⟨k', hk, he⟩ := ih i (by simpa using hi); exact ⟨k' + 1, by omega, .add b _ _ _ he⟩

variable (o f : List α)
def rd (x y : Nat) : Nat := dist (o.drop x) (f.drop y)
theorem rd_same {x y : Nat} (h : same o f x y = true) : rd o f x y = rd o f (x + 1) (y + 1) := by
  obtain ⟨hx, hy⟩ := same_lt o f h
  unfold same at h
  simp only [decide_eq_true_eq] at h
  have e := h.2.2
  unfold rd
  rw [List.drop_eq_getElem_cons hx, List.drop_eq_getElem_cons hy]
  rw [List.getElem?_eq_getElem hx, List.getElem?_eq_getElem hy] at e
  rw [Option.some.inj e, dist_same]
theorem rd_ne {x y : Nat} (h : same o f x y = false) (hx : x < o.length) (hy : y < f.length) : rd o f x y = 1 + min (rd o f (x + 1) y) (rd o f x (y + 1)) := by
  unfold same at h
  simp only [decide_eq_false_iff_not, not_and] at h
  have e := h hx hy
  unfold rd
  rw [List.drop_eq_getElem_cons hx, List.drop_eq_getElem_cons hy]
  rw [List.getElem?_eq_getElem hx, List.getElem?_eq_getElem hy] at e
  rw [dist_ne (fun e' => e (by rw [e']))]
theorem rd_endx {y : Nat} (hy : y < f.length) : rd o f o.length y = 1 + rd o f o.length (y + 1) := by
  unfold rd; rw [List.drop_length, dist_nil_l, dist_nil_l]; simp; omega
theorem rd_endy {x : Nat} (hx : x < o.length) : rd o f x f.length = 1 + rd o f (x + 1) f.length := by
  unfold rd; rw [List.drop_length, dist_nil_r, dist_nil_r]; simp; omega

/-- what it takes to be led to a place -/
def Cost (st : Srch) (G : Nat → Nat → Nat) (x y kind c : Nat) : Prop :=
  (kind = 46 ∧ x = 0 ∧ y = 0 ∧ c = 0) ∨
  (kind = 32 ∧ 0 < x ∧ 0 < y ∧ st.at f.length (x - 1) (y - 1) ≠ 0 ∧ c = G (x - 1) (y - 1)) ∨
  (kind = 45 ∧ 0 < x ∧ st.at f.length (x - 1) y ≠ 0 ∧ c = G (x - 1) y + 1) ∨
  (kind = 43 ∧ 0 < y ∧ st.at f.length x (y - 1) ≠ 0 ∧ c = G x (y - 1) + 1)
def Near (st : Srch) (G : Nat → Nat → Nat) (x y c : Nat) : Prop := (st.at f.length x y ≠ 0 ∧ G x y ≤ c) ∨ ∃ s ∈ st.op, s.x = x ∧ s.y = y ∧ s.far ≤ c
def NextG (st : Srch) (G : Nat → Nat → Nat) (x y : Nat) : Prop :=
  if same o f x y = true then Near f st G (x + 1) (y + 1) (G x y)
  else (x < o.length → Near f st G (x + 1) y (G x y + 1)) ∧ (y < f.length → Near f st G x (y + 1) (G x y + 1))
structure InvG (D : Nat) (hole : Option (Nat × Nat)) (st : Srch) (G : Nat → Nat → Nat) : Prop where
  heap : heapL st.op
  mono : ∀ x y, x ≤ o.length → y ≤ f.length → st.at f.length x y ≠ 0 → ∀ s ∈ st.op, G x y ≤ s.far
  spots : ∀ s ∈ st.op, Cost f st G s.x s.y s.kind s.far
  known : ∀ x y, x ≤ o.length → y ≤ f.length → st.at f.length x y ≠ 0 → Cost f st G x y (st.at f.length x y) (G x y)
  start : Near f st G 0 0 0
  next : ∀ x y, x ≤ o.length → y ≤ f.length → st.at f.length x y ≠ 0 → hole ≠ some (x, y) → NextG o f st G x y
  top : ∀ x y, x ≤ o.length → y ≤ f.length → st.at f.length x y ≠ 0 → G x y ≤ D

theorem good_from {D : Nat} {st : Srch} {G : Nat → Nat → Nat} (h : InvG o f D none st G) (he : st.at f.length o.length f.length = 0) :
    ∀ k x y, x ≤ o.length → y ≤ f.length → (o.length - x) + (f.length - y) = k → st.at f.length x y ≠ 0 → G x y + rd o f x y ≤ D → ∃ s ∈ st.op, s.far ≤ D := by
  intro k
  induction k using Nat.strongRecOn with
  | ind k ih =>
    intro x y hx hy hk hr hD
    have hn := h.next x y hx hy hr (by simp)
    have go : ∀ x' y' c, x' ≤ o.length → y' ≤ f.length → (o.length - x') + (f.length - y') < k → c + rd o f x' y' ≤ D → Near f st G x' y' c → ∃ s ∈ st.op, s.far ≤ D := by
      intro x' y' c hx' hy' hlt hc hnear
      rcases hnear with ⟨h1, h2⟩ | ⟨s, hs, _, _, h2⟩
      · exact ih _ hlt x' y' hx' hy' rfl h1 (by omega)
      · exact ⟨s, hs, by omega⟩
    unfold NextG at hn
    split at hn
    · rename_i hs
      have hlt := same_lt o f hs
      exact go _ _ _ (by omega) (by omega) (by omega) (by rw [← rd_same o f hs]; exact hD) hn
    · rename_i hs
      have hs' : same o f x y = false := by simpa using hs
      by_cases ex : x < o.length
      · by_cases ey : y < f.length
        · have e := rd_ne o f hs' ex ey
          by_cases hm : rd o f (x + 1) y ≤ rd o f x (y + 1)
          · exact go _ _ _ (by omega) (by omega) (by omega) (by omega) (hn.1 ex)
          · exact go _ _ _ (by omega) (by omega) (by omega) (by omega) (hn.2 ey)
        · obtain rfl : y = f.length := by omega
          have e := rd_endy o f ex
          exact go _ _ _ (by omega) (by omega) (by omega) (by omega) (hn.1 ex)
      · obtain rfl : x = o.length := by omega
        by_cases ey : y < f.length
        · have e := rd_endx o f ey
          exact go _ _ _ (by omega) (by omega) (by omega) (by omega) (hn.2 ey)
        · obtain rfl : y = f.length := by omega
          exact absurd he hr
theorem good {st : Srch} {G : Nat → Nat → Nat} (h : InvG o f (dist o f) none st G) (he : st.at f.length o.length f.length = 0) : ∃ s ∈ st.op, s.far ≤ dist o f := by
  rcases h.start with ⟨h1, h2⟩ | ⟨s, hs, _, _, h2⟩
  · exact good_from o f h he _ 0 0 (by omega) (by omega) rfl h1 (by unfold rd; simp; omega)
  · exact ⟨s, hs, by omega⟩

omit [DecidableEq α] in
theorem Near.push {st : Srch} {G : Nat → Nat → Nat} {x y c : Nat} (h : Near f st G x y c) (s : Spot) (t : Nat) : Near f { op := pushM st.op s, turns := t, led := st.led } G x y c := by
  rcases h with h | ⟨q, hq, e⟩
  · exact .inl h
  · exact .inr ⟨q, (pushM_perm st.op s).mem_iff.2 (by simp [hq]), e⟩
theorem InvG.push {D : Nat} {hole : Option (Nat × Nat)} {st : Srch} {G : Nat → Nat → Nat} (h : InvG o f D hole st G) (s : Spot) (t : Nat) (hc : Cost f st G s.x s.y s.kind s.far)
    (hm : ∀ x y, x ≤ o.length → y ≤ f.length → st.at f.length x y ≠ 0 → G x y ≤ s.far) : InvG o f D hole { op := pushM st.op s, turns := t, led := st.led } G := by
  have hmem : ∀ q, q ∈ pushM st.op s ↔ q ∈ st.op ∨ q = s := by intro q; rw [(pushM_perm st.op s).mem_iff]; simp
  refine ⟨push_heap h.heap s, ?_, ?_, h.known, h.start.push f s t, ?_, h.top⟩
  · intro x y hx hy hr q hq
    rcases (hmem q).1 hq with hq | rfl
    · exact h.mono x y hx hy hr q hq
    · exact hm x y hx hy hr
  · intro q hq
    rcases (hmem q).1 hq with hq | rfl
    · exact h.spots q hq
    · exact hc
  · intro x y hx hy hr hh
    have := h.next x y hx hy hr hh
    unfold NextG at *
    split at this
    · rename_i hs; rw [if_pos hs]; exact this.push f s t
    · rename_i hs; rw [if_neg hs]; exact ⟨fun a => (this.1 a).push f s t, fun a => (this.2 a).push f s t⟩
theorem InvG.change {D : Nat} {hole : Option (Nat × Nat)} {st : Srch} {G : Nat → Nat → Nat} (h : InvG o f D hole st G) (p : Spot) (dx dy kind : Nat) (hc : Cost f st G (p.x + dx) (p.y + dy) kind (p.far + 1))
    (hx : p.x + dx ≤ o.length) (hy : p.y + dy ≤ f.length) (hm : ∀ x y, x ≤ o.length → y ≤ f.length → st.at f.length x y ≠ 0 → G x y ≤ p.far) :
    InvG o f D hole (changeM f.length st p dx dy kind) G ∧ Near f (changeM f.length st p dx dy kind) G (p.x + dx) (p.y + dy) (p.far + 1) ∧ (changeM f.length st p dx dy kind).led = st.led ∧
      ∀ x y c, Near f st G x y c → Near f (changeM f.length st p dx dy kind) G x y c := by
  unfold changeM
  split
  · refine ⟨h.push o f _ _ hc (fun x y a b c => Nat.le_succ_of_le (hm x y a b c)), .inr ⟨⟨p.x + dx, p.y + dy, p.far + 1, st.turns + 1, kind⟩, (pushM_perm st.op _).mem_iff.2 (by simp), rfl, rfl, Nat.le_refl _⟩, rfl, fun x y c hn => hn.push f _ _⟩
  · rename_i h0
    exact ⟨h, .inl ⟨h0, Nat.le_succ_of_le (hm _ _ hx hy h0)⟩, rfl, fun _ _ _ hn => hn⟩

theorem InvG.round {st : Srch} {G : Nat → Nat → Nat} (hi : Inv o f st) (h : InvG o f (dist o f) none st G) (he : st.at f.length o.length f.length = 0) : ∃ G', InvG o f (dist o f) none (roundM o f st) G' := by
  have hne := hi.open_ne he
  have hperm := pop_perm st.op hne
  have hmem : ∀ q, q ∈ st.op ↔ q ∈ popR st.op ∨ q = popS st.op := by intro q; rw [← hperm.mem_iff]; simp
  obtain ⟨hh, _, hmin⟩ := pop_heap h.heap hne
  have hmin' : ∀ s ∈ st.op, (popS st.op).far ≤ s.far := by
    intro s hs
    have := hmin s hs
    unfold Spot.lt at this
    omega
  obtain ⟨px, py, _, _, pl⟩ := hi.spots _ ((hmem _).2 (.inr rfl))
  have pc := h.spots _ ((hmem _).2 (.inr rfl))
  have pD : (popS st.op).far ≤ dist o f := by
    obtain ⟨s, hs, h1⟩ := good o f h he
    have := hmin' s hs
    omega
  have pm : ∀ x y, x ≤ o.length → y ≤ f.length → st.at f.length x y ≠ 0 → G x y ≤ (popS st.op).far := fun x y a b c => h.mono x y a b c _ ((hmem _).2 (.inr rfl))
  unfold roundM settleM
  simp only
  generalize hs : popS st.op = s at *
  have hat : ∀ x y, Srch.at { op := popR st.op, turns := st.turns, led := st.led } f.length x y = st.at f.length x y := fun _ _ => rfl
  rw [hat]
  split
  · rename_i h0
    have hset := fun x y (hy : y ≤ f.length) => at_set (st := st) (n := o.length) (m := f.length) (x0 := s.x) (y0 := s.y) (x := x) (y := y) (k := s.kind) hi.len px py hy (popR st.op) st.turns
    refine ⟨fun x y => if x = s.x ∧ y = s.y then s.far else G x y, ?_⟩
    generalize hG : (fun x y => if x = s.x ∧ y = s.y then s.far else G x y) = G'
    have hG1 : G' s.x s.y = s.far := by rw [← hG]; simp
    have hG2 : ∀ x y, ¬ (x = s.x ∧ y = s.y) → G' x y = G x y := by intro x y hn; rw [← hG]; simp only; rw [if_neg hn]
    have hG3 : ∀ x y, st.at f.length x y ≠ 0 → G' x y = G x y := by
      intro x y hr
      refine hG2 x y ?_
      rintro ⟨rfl, rfl⟩
      exact hr h0
    have hmono : ∀ x y, y ≤ f.length → st.at f.length x y ≠ 0 → Srch.at { op := popR st.op, turns := st.turns, led := st.led.set (idx f.length s.x s.y) s.kind } f.length x y ≠ 0 := by
      intro x y hy hr
      rw [hset x y hy]
      split
      · exact pl.pos
      · exact hr
    have hcost : ∀ x y k c, y ≤ f.length → Cost f st G x y k c → Cost f { op := popR st.op, turns := st.turns, led := st.led.set (idx f.length s.x s.y) s.kind } G' x y k c := by
      intro x y k c hy hc
      rcases hc with hc | ⟨h1, h2, h3, h4, h5⟩ | ⟨h1, h2, h3, h4⟩ | ⟨h1, h2, h3, h4⟩
      · exact .inl hc
      · exact .inr (.inl ⟨h1, h2, h3, hmono _ _ (by omega) h4, by rw [hG3 _ _ h4]; exact h5⟩)
      · exact .inr (.inr (.inl ⟨h1, h2, hmono _ _ hy h3, by rw [hG3 _ _ h3]; exact h4⟩))
      · exact .inr (.inr (.inr ⟨h1, h2, hmono _ _ (by omega) h3, by rw [hG3 _ _ h3]; exact h4⟩))
    have hnear : ∀ x y c, y ≤ f.length → Near f st G x y c → Near f { op := popR st.op, turns := st.turns, led := st.led.set (idx f.length s.x s.y) s.kind } G' x y c := by
      intro x y c hy hn
      rcases hn with ⟨h1, h2⟩ | ⟨q, hq, e1, e2, e3⟩
      · exact .inl ⟨hmono x y hy h1, by rw [hG3 _ _ h1]; exact h2⟩
      · by_cases e : x = s.x ∧ y = s.y
        · left
          obtain ⟨rfl, rfl⟩ := e
          refine ⟨by rw [hset _ _ hy, if_pos ⟨rfl, rfl⟩]; exact pl.pos, ?_⟩
          rw [hG1]
          have := hmin' q hq
          omega
        · rcases (hmem q).1 hq with hq | rfl
          · exact .inr ⟨q, hq, e1, e2, e3⟩
          · exact absurd ⟨e1.symm, e2.symm⟩ e
    have hGle : ∀ x y, x ≤ o.length → y ≤ f.length → Srch.at { op := popR st.op, turns := st.turns, led := st.led.set (idx f.length s.x s.y) s.kind } f.length x y ≠ 0 → G' x y ≤ s.far := by
      intro x y hx hy hr
      by_cases e : x = s.x ∧ y = s.y
      · rw [e.1, e.2, hG1]; exact Nat.le_refl _
      · rw [hset x y hy, if_neg e] at hr
        rw [hG2 x y e]
        exact pm x y hx hy hr
    have hhere : Srch.at { op := popR st.op, turns := st.turns, led := st.led.set (idx f.length s.x s.y) s.kind } f.length s.x s.y ≠ 0 := by rw [hset _ _ py, if_pos ⟨rfl, rfl⟩]; exact pl.pos
    have i0 : InvG o f (dist o f) (some (s.x, s.y)) { op := popR st.op, turns := st.turns, led := st.led.set (idx f.length s.x s.y) s.kind } G' := by
      refine ⟨hh, ?_, ?_, ?_, hnear 0 0 0 (by omega) h.start, ?_, ?_⟩
      · intro x y hx hy hr q hq
        have h1 := hGle x y hx hy hr
        have h2 := hmin' q ((hmem q).2 (.inl hq))
        omega
      · intro q hq
        have hq' := (hmem q).2 (.inl hq)
        exact hcost _ _ _ _ (hi.spots q hq').2.1 (h.spots q hq')
      · intro x y hx hy hr
        by_cases e : x = s.x ∧ y = s.y
        · rw [hset x y hy, if_pos e, e.1, e.2, hG1]
          exact hcost _ _ _ _ py pc
        · rw [hset x y hy, if_neg e] at hr ⊢
          rw [hG2 x y e]
          exact hcost _ _ _ _ hy (h.known x y hx hy hr)
      · intro x y hx hy hr hne'
        have e : ¬ (x = s.x ∧ y = s.y) := by rintro ⟨rfl, rfl⟩; exact hne' rfl
        rw [hset x y hy, if_neg e] at hr
        have := h.next x y hx hy hr (by simp)
        unfold NextG at this ⊢
        rw [hG2 x y e]
        split at this
        · rename_i hs'
          have hlt := same_lt o f hs'
          rw [if_pos hs']
          exact hnear _ _ _ (by omega) this
        · rename_i hs'
          rw [if_neg hs']
          exact ⟨fun a => hnear _ _ _ hy (this.1 a), fun a => hnear _ _ _ (by omega) (this.2 a)⟩
      · intro x y hx hy hr
        have := hGle x y hx hy hr
        omega
    have close : ∀ (S : Srch) (G1 : Nat → Nat → Nat), InvG o f (dist o f) (some (s.x, s.y)) S G1 → NextG o f S G1 s.x s.y → InvG o f (dist o f) none S G1 := by
      intro S G1 hS hN
      refine ⟨hS.heap, hS.mono, hS.spots, hS.known, hS.start, ?_, hS.top⟩
      intro x y hx hy hr _
      by_cases e : x = s.x ∧ y = s.y
      · rw [e.1, e.2]; exact hN
      · exact hS.next x y hx hy hr (by simp only [ne_eq, Option.some.injEq, Prod.mk.injEq]; intro hh; exact e ⟨hh.1.symm, hh.2.symm⟩)
    split
    · rename_i hsame
      refine close _ _ (i0.push o f ⟨s.x + 1, s.y + 1, s.far, s.turn, 32⟩ st.turns (.inr (.inl ⟨rfl, by simp, by simp, by simpa using hhere, by simp [hG1]⟩)) hGle) ?_
      unfold NextG
      rw [if_pos hsame]
      exact .inr ⟨⟨s.x + 1, s.y + 1, s.far, s.turn, 32⟩, (pushM_perm _ _).mem_iff.2 (by simp), rfl, rfl, by rw [hG1]; exact Nat.le_refl _⟩
    · rename_i hsame
      have key : ∃ st2 : Srch, st2 = (if s.x < o.length then changeM f.length { op := popR st.op, turns := st.turns, led := st.led.set (idx f.length s.x s.y) s.kind } s 1 0 45 else { op := popR st.op, turns := st.turns, led := st.led.set (idx f.length s.x s.y) s.kind }) ∧
          InvG o f (dist o f) (some (s.x, s.y)) st2 G' ∧ (s.x < o.length → Near f st2 G' (s.x + 1) s.y (s.far + 1)) ∧ st2.led = st.led.set (idx f.length s.x s.y) s.kind := by
        refine ⟨_, rfl, ?_⟩
        split
        · rename_i hxl
          obtain ⟨a, b, c, _⟩ := i0.change o f s 1 0 45 (.inr (.inr (.inl ⟨rfl, by omega, by simpa using hhere, by simp [hG1]⟩))) (by omega) (by omega) hGle
          exact ⟨a, fun _ => by simpa using b, c⟩
        · exact ⟨i0, fun hh => absurd hh (by assumption), rfl⟩
      obtain ⟨st2, hst2, j1, j2, j3⟩ := key
      rw [← hst2]
      have hat2 : ∀ x y, st2.at f.length x y = Srch.at { op := popR st.op, turns := st.turns, led := st.led.set (idx f.length s.x s.y) s.kind } f.length x y := by intro x y; unfold Srch.at; rw [j3]
      split
      · rename_i hyl
        obtain ⟨a, b, c, d⟩ := j1.change o f s 0 1 43 (.inr (.inr (.inr ⟨rfl, by omega, by rw [hat2]; simpa using hhere, by simp [hG1]⟩))) (by omega) (by omega) (fun x y hx hy hr => hGle x y hx hy (by rw [← hat2]; exact hr))
        refine close _ _ a ?_
        unfold NextG
        rw [if_neg hsame, hG1]
        exact ⟨fun hx => d _ _ _ (j2 hx), fun _ => by simpa using b⟩
      · rename_i hyl
        refine close _ _ j1 ?_
        unfold NextG
        rw [if_neg hsame, hG1]
        exact ⟨j2, fun hy => absurd hy hyl⟩
  · rename_i h0
    refine ⟨G, ?_⟩
    have hnear : ∀ x y c, x ≤ o.length → y ≤ f.length → Near f st G x y c → Near f { op := popR st.op, turns := st.turns, led := st.led } G x y c := by
      intro x y c hx hy hn
      rcases hn with h1 | ⟨q, hq, e1, e2, e3⟩
      · exact .inl h1
      · rcases (hmem q).1 hq with hq' | rfl
        · exact .inr ⟨q, hq', e1, e2, e3⟩
        · left
          subst e1 e2
          exact ⟨h0, by have := pm _ _ hx hy h0; omega⟩
    refine ⟨hh, fun x y hx hy hr q hq => h.mono x y hx hy hr q ((hmem q).2 (.inl hq)), fun q hq => h.spots q ((hmem q).2 (.inl hq)), h.known, hnear 0 0 0 (by omega) (by omega) h.start, ?_, h.top⟩
    intro x y hx hy hr _
    have := h.next x y hx hy hr (by simp)
    unfold NextG at this ⊢
    split at this
    · rename_i hs'
      have hlt := same_lt o f hs'
      rw [if_pos hs']
      exact hnear _ _ _ (by omega) (by omega) this
    · rename_i hs'
      rw [if_neg hs']
      exact ⟨fun a => hnear _ _ _ (by omega) hy (this.1 a), fun a => hnear _ _ _ hx (by omega) (this.2 a)⟩

theorem startG : InvG o f (dist o f) none (startM o f) (fun _ _ => 0) := by
  have h0 : ∀ x y, (startM o f).at f.length x y = 0 := by
    intro x y
    simp [startM, Srch.at, List.getD, List.getElem?_replicate]
    split <;> rfl
  refine ⟨?_, fun x y _ _ hr => absurd (h0 x y) hr, ?_, fun x y _ _ hr => absurd (h0 x y) hr, .inr ⟨⟨0, 0, 0, 0, 46⟩, by simp [startM], rfl, rfl, Nat.le_refl _⟩, fun x y _ _ hr => absurd (h0 x y) hr, fun x y _ _ hr => absurd (h0 x y) hr⟩
  · intro i hi hl; simp [startM] at hl; omega
  · intro s hs
    simp [startM] at hs
    subst hs
    exact .inl ⟨rfl, rfl, rfl, rfl⟩
theorem searchM_G : ∀ (k : Nat) (st : Srch) (G : Nat → Nat → Nat), Inv o f st → InvG o f (dist o f) none st G → ∃ G', InvG o f (dist o f) none (searchM o f k st) G' := by
  intro k
  induction k with
  | zero => intro st G _ hG; exact ⟨G, hG⟩
  | succ k ih =>
    intro st G hi hG
    by_cases he : st.at f.length o.length f.length = 0
    · simp only [searchM, he, if_true]
      obtain ⟨G1, hG1⟩ := hG.round o f hi he
      exact ih _ G1 (hi.round (hi.open_ne he)).1 hG1
    · rw [searchM_done he]; exact ⟨G, hG⟩
/-- drops and adds of a way -/
def costW (l : List (StepM α)) : Nat := (l.filter (fun s => s.kind != 32)).length
theorem backM_cost [Inhabited α] {st : Srch} {G : Nat → Nat → Nat} (h : InvG o f (dist o f) none st G) : ∀ (k x y : Nat), x + y ≤ k → x ≤ o.length → y ≤ f.length → st.at f.length x y ≠ 0 →
    costW (backM o f st k x y) ≤ G x y := by
  intro k
  induction k with
  | zero => intro x y _ _ _ _; simp [backM, costW]
  | succ k ih =>
    intro x y hk hx hy hr
    unfold backM
    split
    · simp [costW]
    · rename_i hne
      have hc := h.known x y hx hy hr
      rcases hc with ⟨_, h1, h2, _⟩ | ⟨h1, h2, h3, h4, h5⟩ | ⟨h1, h2, h3, h4⟩ | ⟨h1, h2, h3, h4⟩
      · exact absurd ⟨h1, h2⟩ hne
      · rw [if_pos h1]
        have := ih (x - 1) (y - 1) (by omega) (by omega) (by omega) h4
        rw [h5]
        simpa [costW] using this
      · rw [if_neg (by omega), if_pos h1]
        have := ih (x - 1) y (by omega) (by omega) (by omega) h3
        rw [h4]
        unfold costW at this ⊢
        rw [List.filter_cons_of_pos (by simp), List.length_cons]; omega
      · rw [if_neg (by omega), if_neg (by omega)]
        have := ih x (y - 1) (by omega) (by omega) (by omega) h3
        rw [h4]
        unfold costW at this ⊢
        rw [List.filter_cons_of_pos (by simp [h1]), List.length_cons]; omega
/-- no way is shorter -/
theorem wayM_dist [Inhabited α] : costW (wayM o f) ≤ dist o f := by
  obtain ⟨hi, he⟩ := foundM_inv o f
  obtain ⟨G, hG⟩ := searchM_G o f (mu (startM o f)) (startM o f) _ (startM_inv o f) (startG o f)
  have hG' : InvG o f (dist o f) none (foundM o f) G := hG
  have h1 := backM_cost o f hG' (o.length + f.length) o.length f.length (Nat.le_refl _) (Nat.le_refl _) (Nat.le_refl _) he
  have h2 := hG'.top o.length f.length (Nat.le_refl _) (Nat.le_refl _) he
  have h3 : costW (wayM o f) = costW (backM o f (foundM o f) (o.length + f.length) o.length f.length) := by unfold wayM costW; rw [List.filter_reverse, List.length_reverse]
  omega
theorem wayM_shortest [Inhabited α] {k : Nat} (h : Ed o f k) : costW (wayM o f) ≤ k := Nat.le_trans (wayM_dist o f) h.dist_le
end
end Dn

namespace Dn
section
variable {α : Type} [DecidableEq α]

/-- the shortest way that keeps where it can, else drops where a shortest way does -/
def spec : List α → List α → List (StepM α)
  | [], [] => []
  | [], b :: r => ⟨43, b⟩ :: spec [] r
  | a :: l, [] => ⟨45, a⟩ :: spec l []
  | a :: l, b :: r => if a = b then ⟨32, a⟩ :: spec l r else if dist l (b :: r) ≤ dist (a :: l) r then ⟨45, a⟩ :: spec l (b :: r) else ⟨43, b⟩ :: spec (a :: l) r
termination_by l r => l.length + r.length
/-- its drops (0) and adds (1), as a binary number -/
def key : List α → List α → Nat
  | [], [] => 0
  | [], _ :: r => 2 ^ r.length + key [] r
  | _ :: l, [] => key l []
  | a :: l, b :: r => if a = b then key l r else if dist l (b :: r) ≤ dist (a :: l) r then key l (b :: r) else 2 ^ dist (a :: l) r + key (a :: l) r
termination_by l r => l.length + r.length

theorem pw1 (k r : Nat) : k * 2 ^ (r + 1) = 2 * (k * 2 ^ r) := by rw [Nat.pow_succ, ← Nat.mul_assoc, Nat.mul_comm]
theorem pw2 (k p : Nat) : 2 * k * p = 2 * (k * p) := Nat.mul_assoc _ _ _
theorem pw3 (k p : Nat) : (2 * k + 1) * p = 2 * (k * p) + p := by rw [Nat.add_mul, Nat.mul_assoc, Nat.one_mul]

theorem key_lt : ∀ (n : Nat) (l r : List α), l.length + r.length ≤ n → key l r < 2 ^ dist l r := by
  intro n
  induction n with
  | zero =>
    intro l r h
    have h1 : l = [] := List.eq_nil_of_length_eq_zero (by omega)
    have h2 : r = [] := List.eq_nil_of_length_eq_zero (by omega)
    subst h1 h2
    simp [key]
    exact Nat.two_pow_pos _
  | succ n ih =>
    intro l r h
    cases l with
    | nil =>
      cases r with
      | nil => simp [key]; exact Nat.two_pow_pos _
      | cons b r =>
        simp only [List.length_cons] at h
        have := ih [] r (by simp at h ⊢; omega)
        rw [dist_nil_l] at this
        rw [key, dist_nil_l, List.length_cons, Nat.pow_succ]
        omega
    | cons a l =>
      simp only [List.length_cons] at h
      cases r with
      | nil =>
        have := ih l [] (by simp at h ⊢; omega)
        rw [dist_nil_r] at this
        rw [key, dist_nil_r, List.length_cons, Nat.pow_succ]
        omega
      | cons b r =>
        simp only [List.length_cons] at h
        by_cases e : a = b
        · subst e
          rw [key, if_pos rfl, dist_same]
          exact ih l r (by omega)
        · rw [key, if_neg e, dist_ne e]
          split
          · rename_i hle
            have := ih l (b :: r) (by simp; omega)
            rw [Nat.min_eq_left hle, Nat.add_comm, Nat.pow_succ]
            omega
          · rename_i hle
            have := ih (a :: l) r (by simp; omega)
            rw [Nat.min_eq_right (by omega), Nat.add_comm 1, Nat.pow_succ]
            omega

variable (o f : List α)
def kb (x y : Nat) : Nat := key (o.drop x) (f.drop y)
def sp (x y : Nat) : List (StepM α) := spec (o.drop x) (f.drop y)
def Drops (x y : Nat) : Prop := x < o.length ∧ (f.length ≤ y ∨ rd o f (x + 1) y ≤ rd o f x (y + 1))
theorem kb_lt (x y : Nat) : kb o f x y < 2 ^ rd o f x y := key_lt _ _ _ (Nat.le_refl _)
theorem at_same [Inhabited α] {x y : Nat} (h : same o f x y = true) : kb o f x y = kb o f (x + 1) (y + 1) ∧ sp o f x y = ⟨32, o.getD x default⟩ :: sp o f (x + 1) (y + 1) := by
  obtain ⟨hx, hy⟩ := same_lt o f h
  unfold same at h
  simp only [decide_eq_true_eq] at h
  have e := h.2.2
  unfold kb sp
  rw [List.drop_eq_getElem_cons hx, List.drop_eq_getElem_cons hy]
  rw [List.getElem?_eq_getElem hx, List.getElem?_eq_getElem hy] at e
  rw [← Option.some.inj e, key, if_pos rfl, spec, if_pos rfl]
  simp [List.getD, hx]
theorem at_drop [Inhabited α] {x y : Nat} (h : same o f x y = false) (hy : y ≤ f.length) (hd : Drops o f x y) : rd o f x y = rd o f (x + 1) y + 1 ∧ kb o f x y = kb o f (x + 1) y ∧ sp o f x y = ⟨45, o.getD x default⟩ :: sp o f (x + 1) y := by
  obtain ⟨hx, hd⟩ := hd
  by_cases ey : y < f.length
  · have hd' : rd o f (x + 1) y ≤ rd o f x (y + 1) := by omega
    refine ⟨by rw [rd_ne o f h hx ey]; omega, ?_⟩
    unfold same at h
    simp only [decide_eq_false_iff_not, not_and] at h
    have e := h hx ey
    unfold rd at hd'
    unfold kb sp
    rw [List.drop_eq_getElem_cons hx, List.drop_eq_getElem_cons ey] at *
    rw [List.getElem?_eq_getElem hx, List.getElem?_eq_getElem ey] at e
    have e' : o[x] ≠ f[y] := fun e' => e (by rw [e'])
    rw [key, if_neg e', if_pos hd', spec, if_neg e', if_pos hd']
    simp [List.getD, hx]
  · obtain rfl : y = f.length := by omega
    refine ⟨by rw [rd_endy o f hx]; omega, ?_⟩
    unfold kb sp
    rw [List.drop_length, List.drop_eq_getElem_cons hx, key, spec]
    simp [List.getD, hx]
theorem at_add [Inhabited α] {x y : Nat} (h : same o f x y = false) (hx : x ≤ o.length) (hy : y < f.length) (hd : ¬ Drops o f x y) :
    rd o f x y = rd o f x (y + 1) + 1 ∧ kb o f x y = 2 ^ rd o f x (y + 1) + kb o f x (y + 1) ∧ sp o f x y = ⟨43, f.getD y default⟩ :: sp o f x (y + 1) ∧ (x < o.length → rd o f x y < rd o f (x + 1) y + 1) := by
  by_cases ex : x < o.length
  · have hd' : ¬ rd o f (x + 1) y ≤ rd o f x (y + 1) := fun e => hd ⟨ex, .inr e⟩
    have hr := rd_ne o f h ex hy
    refine ⟨by rw [hr]; omega, ?_⟩
    rw [← and_assoc]
    refine ⟨?_, fun _ => by rw [hr]; omega⟩
    unfold same at h
    simp only [decide_eq_false_iff_not, not_and] at h
    have e := h ex hy
    clear hr
    unfold rd at hd'
    unfold kb sp rd
    rw [List.drop_eq_getElem_cons ex, List.drop_eq_getElem_cons hy] at *
    rw [List.getElem?_eq_getElem ex, List.getElem?_eq_getElem hy] at e
    have e' : o[x] ≠ f[y] := fun e' => e (by rw [e'])
    rw [key, if_neg e', if_neg hd', spec, if_neg e', if_neg hd']
    simp [List.getD, hy]
  · obtain rfl : x = o.length := by omega
    refine ⟨by rw [rd_endx o f hy]; omega, ?_⟩
    rw [← and_assoc]
    refine ⟨?_, fun h => absurd h (by omega)⟩
    unfold kb sp rd
    rw [List.drop_length, List.drop_eq_getElem_cons hy, key, spec, dist_nil_l]
    simp [List.getD, hy]
theorem rd_x {x : Nat} (y : Nat) (h : x < o.length) : rd o f x y ≤ rd o f (x + 1) y + 1 := by
  unfold rd; rw [List.drop_eq_getElem_cons h]; exact dist_l1 _ _ _
theorem rd_y {y : Nat} (x : Nat) (h : y < f.length) : rd o f x y ≤ rd o f x (y + 1) + 1 := by
  unfold rd; rw [List.drop_eq_getElem_cons h]; exact dist_r1 _ _ _

/-- no way through here is better than the best -/
def Low (x y c k : Nat) : Prop := dist o f ≤ c + rd o f x y ∧ (c + rd o f x y = dist o f → key o f ≤ k * 2 ^ rd o f x y + kb o f x y)
variable [Inhabited α]
theorem Low.keep {x y c k : Nat} (h : Low o f x y c k) (hs : same o f x y = true) : Low o f (x + 1) (y + 1) c k := by
  unfold Low at *
  rw [← (at_same o f hs).1, ← rd_same o f hs]
  exact h
theorem Low.drop {x y c k : Nat} (h : Low o f x y c k) (hs : same o f x y = false) (hx : x < o.length) (hy : y ≤ f.length) : Low o f (x + 1) y (c + 1) (2 * k) := by
  obtain ⟨h1, h2⟩ := h
  have hr := rd_x o f y hx
  refine ⟨by omega, fun e => ?_⟩
  have h3 := h2 (by omega)
  have hd : Drops o f x y := by
    by_cases hd : Drops o f x y
    · exact hd
    · have hy' : y < f.length := by
        by_cases ey : y < f.length
        · exact ey
        · exact absurd ⟨hx, .inl (by omega)⟩ hd
      have := (at_add o f hs (by omega) hy' hd).2.2.2 hx
      omega
  obtain ⟨e1, e2, _⟩ := at_drop o f hs hy hd
  rw [e1, e2, pw1] at h3
  rw [pw2]
  exact h3
theorem Low.add {x y c k : Nat} (h : Low o f x y c k) (hs : same o f x y = false) (hx : x ≤ o.length) (hy : y < f.length) : Low o f x (y + 1) (c + 1) (2 * k + 1) := by
  obtain ⟨h1, h2⟩ := h
  have hr := rd_y o f x hy
  refine ⟨by omega, fun e => ?_⟩
  have h3 := h2 (by omega)
  have e0 : rd o f x y = rd o f x (y + 1) + 1 := by omega
  rw [pw3]
  rw [e0, pw1] at h3
  by_cases hd : Drops o f x y
  · obtain ⟨e1, e2, _⟩ := at_drop o f hs (by omega) hd
    have h4 := kb_lt o f (x + 1) y
    rw [show rd o f (x + 1) y = rd o f x (y + 1) by omega] at h4
    omega
  · obtain ⟨_, e2, _⟩ := at_add o f hs hx hy hd
    omega

def le2 (a b c d : Nat) : Prop := a < c ∨ (a = c ∧ b ≤ d)
def CostK (st : Srch) (G Q : Nat → Nat → Nat) (x y kind c k : Nat) : Prop :=
  (kind = 46 ∧ x = 0 ∧ y = 0 ∧ c = 0 ∧ k = 0) ∨
  (kind = 32 ∧ 0 < x ∧ 0 < y ∧ st.at f.length (x - 1) (y - 1) ≠ 0 ∧ same o f (x - 1) (y - 1) = true ∧ c = G (x - 1) (y - 1) ∧ k = Q (x - 1) (y - 1)) ∨
  (kind = 45 ∧ 0 < x ∧ st.at f.length (x - 1) y ≠ 0 ∧ same o f (x - 1) y = false ∧ c = G (x - 1) y + 1 ∧ k = 2 * Q (x - 1) y) ∨
  (kind = 43 ∧ 0 < y ∧ st.at f.length x (y - 1) ≠ 0 ∧ same o f x (y - 1) = false ∧ c = G x (y - 1) + 1 ∧ k = 2 * Q x (y - 1) + 1)
def NearK (st : Srch) (G Q : Nat → Nat → Nat) (κ : Nat → Nat) (x y c k : Nat) : Prop :=
  (st.at f.length x y ≠ 0 ∧ le2 (G x y) (Q x y) c k) ∨ ∃ s ∈ st.op, s.x = x ∧ s.y = y ∧ le2 s.far (κ s.turn) c k
def NextK (st : Srch) (G Q : Nat → Nat → Nat) (κ : Nat → Nat) (x y : Nat) : Prop :=
  if same o f x y = true then NearK f st G Q κ (x + 1) (y + 1) (G x y) (Q x y)
  else (x < o.length → NearK f st G Q κ (x + 1) y (G x y + 1) (2 * Q x y)) ∧ (y < f.length → NearK f st G Q κ x (y + 1) (G x y + 1) (2 * Q x y + 1))
structure InvK (hole : Option (Nat × Nat)) (st : Srch) (G Q : Nat → Nat → Nat) (κ : Nat → Nat) : Prop where
  heap : heapL st.op
  uniq : (st.op.map (·.turn)).Nodup
  tle : ∀ s ∈ st.op, s.turn ≤ st.turns
  far : ∀ s1 ∈ st.op, ∀ s2 ∈ st.op, s1.far ≤ s2.far + 1
  ord : ∀ s1 ∈ st.op, ∀ s2 ∈ st.op, s1.far = s2.far → s1.turn < s2.turn → κ s1.turn < κ s2.turn
  ord2 : ∀ s1 ∈ st.op, ∀ s2 ∈ st.op, s1.far = s2.far + 1 → κ s1.turn < 2 * κ s2.turn
  mono : ∀ x y, x ≤ o.length → y ≤ f.length → st.at f.length x y ≠ 0 → ∀ s ∈ st.op, le2 (G x y) (Q x y) s.far (κ s.turn)
  spots : ∀ s ∈ st.op, CostK o f st G Q s.x s.y s.kind s.far (κ s.turn)
  known : ∀ x y, x ≤ o.length → y ≤ f.length → st.at f.length x y ≠ 0 → CostK o f st G Q x y (st.at f.length x y) (G x y) (Q x y)
  start : NearK f st G Q κ 0 0 0 0
  next : ∀ x y, x ≤ o.length → y ≤ f.length → st.at f.length x y ≠ 0 → hole ≠ some (x, y) → NextK o f st G Q κ x y
  low : ∀ x y, x ≤ o.length → y ≤ f.length → st.at f.length x y ≠ 0 → Low o f x y (G x y) (Q x y)
  lowS : ∀ s ∈ st.op, Low o f s.x s.y s.far (κ s.turn)
  top : st.at f.length o.length f.length ≠ 0 → G o.length f.length = dist o f ∧ Q o.length f.length ≤ key o f

def GoodS (x y c k : Nat) : Prop := c + rd o f x y = dist o f ∧ k * 2 ^ rd o f x y + kb o f x y ≤ key o f
theorem goodK_from {st : Srch} {G Q : Nat → Nat → Nat} {κ : Nat → Nat} (h : InvK o f none st G Q κ) (he : st.at f.length o.length f.length = 0) :
    ∀ n x y, x ≤ o.length → y ≤ f.length → (o.length - x) + (f.length - y) = n → st.at f.length x y ≠ 0 → GoodS o f x y (G x y) (Q x y) → ∃ s ∈ st.op, GoodS o f s.x s.y s.far (κ s.turn) := by
  intro n
  induction n using Nat.strongRecOn with
  | ind n ih =>
    intro x y hx hy hk hr hD
    have hn := h.next x y hx hy hr (by simp)
    have go : ∀ x' y' c k, x' ≤ o.length → y' ≤ f.length → (o.length - x') + (f.length - y') < n → GoodS o f x' y' c k → NearK f st G Q κ x' y' c k → ∃ s ∈ st.op, GoodS o f s.x s.y s.far (κ s.turn) := by
      intro x' y' c k hx' hy' hlt hc hnear
      rcases hnear with ⟨h1, h2⟩ | ⟨s, hs, e1, e2, h2⟩
      · have hl := (h.low x' y' hx' hy' h1).1
        have hc1 := hc.1
        refine ih _ hlt x' y' hx' hy' rfl h1 ?_
        rcases h2 with h2 | ⟨h2, h3⟩
        · omega
        · refine ⟨by omega, ?_⟩
          have := Nat.mul_le_mul_right (2 ^ rd o f x' y') h3
          have := hc.2
          omega
      · have hl := (h.lowS s hs).1
        have hc1 := hc.1
        rw [← e1, ← e2] at hc1
        refine ⟨s, hs, ?_⟩
        rcases h2 with h2 | ⟨h2, h3⟩
        · omega
        · rw [e1, e2]
          rw [e1, e2] at hc1
          refine ⟨by omega, ?_⟩
          have := Nat.mul_le_mul_right (2 ^ rd o f x' y') h3
          have := hc.2
          omega
    obtain ⟨hD1, hD2⟩ := hD
    unfold NextK at hn
    split at hn
    · rename_i hs
      have hlt := same_lt o f hs
      refine go _ _ _ _ (by omega) (by omega) (by omega) ⟨?_, ?_⟩ hn
      · rw [← rd_same o f hs]; exact hD1
      · rw [← rd_same o f hs, ← (at_same o f hs).1]; exact hD2
    · rename_i hs
      have hs' : same o f x y = false := by simpa using hs
      by_cases hd : Drops o f x y
      · obtain ⟨e1, e2, _⟩ := at_drop o f hs' hy hd
        refine go _ _ _ _ (by have := hd.1; omega) (by omega) (by have := hd.1; omega) ⟨by omega, ?_⟩ (hn.1 hd.1)
        rw [e1, e2, pw1] at hD2
        rw [pw2]
        exact hD2
      · have ey : y < f.length := by
          by_cases ey : y < f.length
          · exact ey
          · obtain rfl : y = f.length := by omega
            by_cases ex : x < o.length
            · exact absurd ⟨ex, .inl (Nat.le_refl _)⟩ hd
            · obtain rfl : x = o.length := by omega
              exact absurd he hr
        obtain ⟨e1, e2, _⟩ := at_add o f hs' hx ey hd
        refine go _ _ _ _ (by omega) (by omega) (by omega) ⟨by omega, ?_⟩ (hn.2 ey)
        rw [e1, e2, pw1] at hD2
        rw [pw3]
        omega
theorem goodK {st : Srch} {G Q : Nat → Nat → Nat} {κ : Nat → Nat} (h : InvK o f none st G Q κ) (he : st.at f.length o.length f.length = 0) : ∃ s ∈ st.op, GoodS o f s.x s.y s.far (κ s.turn) := by
  have e1 : rd o f 0 0 = dist o f := by simp [rd]
  have e2 : kb o f 0 0 = key o f := by simp [kb]
  rcases h.start with ⟨h1, h2⟩ | ⟨s, hs, x0, y0, h2⟩
  · have h2' : G 0 0 = 0 ∧ Q 0 0 = 0 := by unfold le2 at h2; omega
    exact goodK_from o f h he _ 0 0 (by omega) (by omega) rfl h1 ⟨by rw [h2'.1, e1]; omega, by rw [h2'.2, e2]; omega⟩
  · have h2' : s.far = 0 ∧ κ s.turn = 0 := by unfold le2 at h2; omega
    exact ⟨s, hs, by rw [x0, y0]; exact ⟨by rw [h2'.1, e1]; omega, by rw [h2'.2, e2]; omega⟩⟩
end
end Dn

namespace Dn
section
variable {α : Type} [DecidableEq α] (o f : List α) [Inhabited α]

omit [DecidableEq α] [Inhabited α] in
theorem NearK.kap {st : Srch} {G Q : Nat → Nat → Nat} {κ κ' : Nat → Nat} {x y c k : Nat} (h : NearK f st G Q κ x y c k) (ht : ∀ s ∈ st.op, s.turn ≤ st.turns) (hk : ∀ t, t ≤ st.turns → κ' t = κ t) : NearK f st G Q κ' x y c k := by
  rcases h with h | ⟨s, hs, e1, e2, e3⟩
  · exact .inl h
  · exact .inr ⟨s, hs, e1, e2, by rw [hk _ (ht s hs)]; exact e3⟩
omit [Inhabited α] in
theorem InvK.kap {hole : Option (Nat × Nat)} {st : Srch} {G Q : Nat → Nat → Nat} {κ κ' : Nat → Nat} (h : InvK o f hole st G Q κ) (hk : ∀ t, t ≤ st.turns → κ' t = κ t) : InvK o f hole st G Q κ' := by
  have e : ∀ s ∈ st.op, κ' s.turn = κ s.turn := fun s hs => hk _ (h.tle s hs)
  refine ⟨h.heap, h.uniq, h.tle, h.far, ?_, ?_, ?_, ?_, h.known, h.start.kap f h.tle hk, ?_, h.low, ?_, h.top⟩
  · intro s1 h1 s2 h2 a b; rw [e s1 h1, e s2 h2]; exact h.ord s1 h1 s2 h2 a b
  · intro s1 h1 s2 h2 a; rw [e s1 h1, e s2 h2]; exact h.ord2 s1 h1 s2 h2 a
  · intro x y hx hy hr s hs; rw [e s hs]; exact h.mono x y hx hy hr s hs
  · intro s hs; rw [e s hs]; exact h.spots s hs
  · intro x y hx hy hr hh
    have := h.next x y hx hy hr hh
    unfold NextK at this ⊢
    split at this
    · rename_i hs; rw [if_pos hs]; exact this.kap f h.tle hk
    · rename_i hs; rw [if_neg hs]; exact ⟨fun a => (this.1 a).kap f h.tle hk, fun a => (this.2 a).kap f h.tle hk⟩
  · intro s hs; rw [e s hs]; exact h.lowS s hs
omit [DecidableEq α] [Inhabited α] in
theorem NearK.push {st : Srch} {G Q : Nat → Nat → Nat} {κ : Nat → Nat} {x y c k : Nat} (h : NearK f st G Q κ x y c k) (s : Spot) (t : Nat) : NearK f { op := pushM st.op s, turns := t, led := st.led } G Q κ x y c k := by
  rcases h with h | ⟨q, hq, e⟩
  · exact .inl h
  · exact .inr ⟨q, (pushM_perm st.op s).mem_iff.2 (by simp [hq]), e⟩
omit [Inhabited α] in
theorem InvK.push {hole : Option (Nat × Nat)} {st : Srch} {G Q : Nat → Nat → Nat} {κ : Nat → Nat} (h : InvK o f hole st G Q κ) (s : Spot) (t : Nat) (hn : ∀ q ∈ st.op, q.turn ≠ s.turn) (ht1 : s.turn ≤ t) (ht2 : st.turns ≤ t)
    (hq : ∀ q ∈ st.op, s.far ≤ q.far + 1 ∧ q.far ≤ s.far + 1 ∧ (q.far = s.far → (q.turn < s.turn → κ q.turn < κ s.turn) ∧ (s.turn < q.turn → κ s.turn < κ q.turn)) ∧ (q.far = s.far + 1 → κ q.turn < 2 * κ s.turn) ∧ (s.far = q.far + 1 → κ s.turn < 2 * κ q.turn))
    (hm : ∀ x y, x ≤ o.length → y ≤ f.length → st.at f.length x y ≠ 0 → le2 (G x y) (Q x y) s.far (κ s.turn)) (hc : CostK o f st G Q s.x s.y s.kind s.far (κ s.turn)) (hl : Low o f s.x s.y s.far (κ s.turn)) :
    InvK o f hole { op := pushM st.op s, turns := t, led := st.led } G Q κ := by
  have hmem : ∀ q, q ∈ pushM st.op s ↔ q ∈ st.op ∨ q = s := by intro q; rw [(pushM_perm st.op s).mem_iff]; simp
  refine ⟨push_heap h.heap s, ?_, ?_, ?_, ?_, ?_, ?_, ?_, h.known, h.start.push f s t, ?_, h.low, ?_, h.top⟩
  · have hp := (pushM_perm st.op s).map (·.turn)
    rw [hp.nodup_iff, List.map_append, List.nodup_append]
    refine ⟨h.uniq, by simp, ?_⟩
    intro a ha b hb e
    obtain ⟨q, hq', rfl⟩ := List.mem_map.1 ha
    simp at hb
    exact hn q hq' (e.trans hb)
  · intro q hq'
    rcases (hmem q).1 hq' with h1 | rfl
    · exact Nat.le_trans (h.tle q h1) ht2
    · exact ht1
  · intro s1 h1 s2 h2
    rcases (hmem s1).1 h1 with g1 | g1 <;> rcases (hmem s2).1 h2 with g2 | g2
    · exact h.far s1 g1 s2 g2
    · rw [g2]; exact (hq s1 g1).2.1
    · rw [g1]; exact (hq s2 g2).1
    · rw [g1, g2]; omega
  · intro s1 h1 s2 h2 e1 e2
    rcases (hmem s1).1 h1 with g1 | g1 <;> rcases (hmem s2).1 h2 with g2 | g2
    · exact h.ord s1 g1 s2 g2 e1 e2
    · rw [g2] at e1 e2 ⊢; exact ((hq s1 g1).2.2.1 e1).1 e2
    · rw [g1] at e1 e2 ⊢; exact ((hq s2 g2).2.2.1 e1.symm).2 e2
    · rw [g1, g2] at e2; omega
  · intro s1 h1 s2 h2 e1
    rcases (hmem s1).1 h1 with g1 | g1 <;> rcases (hmem s2).1 h2 with g2 | g2
    · exact h.ord2 s1 g1 s2 g2 e1
    · rw [g2] at e1 ⊢; exact (hq s1 g1).2.2.2.1 e1
    · rw [g1] at e1 ⊢; exact (hq s2 g2).2.2.2.2 e1
    · rw [g1, g2] at e1; omega
  · intro x y hx hy hr q hq'
    rcases (hmem q).1 hq' with h1 | rfl
    · exact h.mono x y hx hy hr q h1
    · exact hm x y hx hy hr
  · intro q hq'
    rcases (hmem q).1 hq' with h1 | rfl
    · exact h.spots q h1
    · exact hc
  · intro x y hx hy hr hh
    have := h.next x y hx hy hr hh
    unfold NextK at this ⊢
    split at this
    · rename_i hs; rw [if_pos hs]; exact this.push f s t
    · rename_i hs; rw [if_neg hs]; exact ⟨fun a => (this.1 a).push f s t, fun a => (this.2 a).push f s t⟩
  · intro q hq'
    rcases (hmem q).1 hq' with h1 | rfl
    · exact h.lowS q h1
    · exact hl
omit [Inhabited α] in
theorem InvK.change {hole : Option (Nat × Nat)} {st : Srch} {G Q : Nat → Nat → Nat} {κ : Nat → Nat} (h : InvK o f hole st G Q κ) (p : Spot) (dx dy kind nk : Nat) (hpt : p.turn ≤ st.turns)
    (hx : p.x + dx ≤ o.length) (hy : p.y + dy ≤ f.length) (hnk : nk ≤ 2 * κ p.turn + 1)
    (hq : ∀ q ∈ st.op, p.far ≤ q.far ∧ q.far ≤ p.far + 1 ∧ (q.far = p.far → κ p.turn < κ q.turn) ∧ (q.far = p.far + 1 → κ q.turn < nk))
    (hm : ∀ x y, x ≤ o.length → y ≤ f.length → st.at f.length x y ≠ 0 → le2 (G x y) (Q x y) p.far (κ p.turn))
    (hc : CostK o f st G Q (p.x + dx) (p.y + dy) kind (p.far + 1) nk) (hl : Low o f (p.x + dx) (p.y + dy) (p.far + 1) nk) :
    ∃ κ', (∀ t, t ≤ st.turns → κ' t = κ t) ∧ InvK o f hole (changeM f.length st p dx dy kind) G Q κ' ∧ NearK f (changeM f.length st p dx dy kind) G Q κ' (p.x + dx) (p.y + dy) (p.far + 1) nk ∧
      (changeM f.length st p dx dy kind).led = st.led ∧ st.turns ≤ (changeM f.length st p dx dy kind).turns ∧ (∀ x y c k, NearK f st G Q κ x y c k → NearK f (changeM f.length st p dx dy kind) G Q κ' x y c k) ∧
      (∀ q ∈ (changeM f.length st p dx dy kind).op, p.far ≤ q.far ∧ q.far ≤ p.far + 1 ∧ (q.far = p.far → κ' p.turn < κ' q.turn) ∧ (q.far = p.far + 1 → κ' q.turn < nk + 1)) := by
  unfold changeM
  split
  · have hk : ∀ t, t ≤ st.turns → (fun t => if t = st.turns + 1 then nk else κ t) t = κ t := by intro t ht; simp only; rw [if_neg (by omega)]
    have hnew : (fun t => if t = st.turns + 1 then nk else κ t) (st.turns + 1) = nk := by simp
    generalize (fun t => if t = st.turns + 1 then nk else κ t) = κ' at hk hnew
    have h' := h.kap o f hk
    have hpush := h'.push o f ⟨p.x + dx, p.y + dy, p.far + 1, st.turns + 1, kind⟩ (st.turns + 1) (fun q hq' => by have := h.tle q hq'; show q.turn ≠ st.turns + 1; omega) (Nat.le_refl _) (by omega) (by
        intro q hq'
        obtain ⟨a, b, c, d⟩ := hq q hq'
        have ht := h.tle q hq'
        simp only [hnew, hk _ ht]
        refine ⟨by omega, by omega, fun e => ⟨fun _ => d e, fun hlt => by omega⟩, fun e => by omega, fun e => ?_⟩
        have := c (by omega)
        omega) (by
        intro x y hx' hy' hr
        have := hm x y hx' hy' hr
        unfold le2 at *
        simp only [hnew]
        omega) (by simp only [hnew]; exact hc) (by simp only [hnew]; exact hl)
    refine ⟨κ', hk, hpush, .inr ⟨⟨p.x + dx, p.y + dy, p.far + 1, st.turns + 1, kind⟩, (pushM_perm st.op _).mem_iff.2 (by simp), rfl, rfl, by simp only [hnew]; exact .inr ⟨rfl, Nat.le_refl _⟩⟩, rfl, by simp, fun x y c k hn => (hn.kap f h.tle hk).push f _ _, ?_⟩
    intro q hq'
    rw [(pushM_perm st.op _).mem_iff, List.mem_append] at hq'
    rcases hq' with hq' | hq'
    · obtain ⟨a, b, c, d⟩ := hq q hq'
      rw [hk _ hpt, hk _ (h.tle q hq')]
      exact ⟨a, b, c, fun e => Nat.lt_succ_of_lt (d e)⟩
    · simp at hq'
      subst hq'
      simp only [hnew]
      exact ⟨by omega, by omega, fun e => by omega, fun _ => by omega⟩
  · rename_i h0
    refine ⟨κ, fun _ _ => rfl, h, .inl ⟨h0, ?_⟩, rfl, Nat.le_refl _, fun _ _ _ _ hn => hn, fun q hq' => ?_⟩
    · have := hm _ _ hx hy h0
      unfold le2 at *
      omega
    · obtain ⟨a, b, c, d⟩ := hq q hq'
      exact ⟨a, b, c, fun e => Nat.lt_succ_of_lt (d e)⟩

theorem InvK.round {st : Srch} {G Q : Nat → Nat → Nat} {κ : Nat → Nat} (hi : Inv o f st) (h : InvK o f none st G Q κ) (he : st.at f.length o.length f.length = 0) : ∃ G' Q' κ', InvK o f none (roundM o f st) G' Q' κ' := by
  have hne := hi.open_ne he
  have hperm := pop_perm st.op hne
  have hmem : ∀ q, q ∈ st.op ↔ q ∈ popR st.op ∨ q = popS st.op := by intro q; rw [← hperm.mem_iff]; simp
  have hu := h.uniq
  rw [← (hperm.map (·.turn)).nodup_iff, List.map_append, List.nodup_append] at hu
  obtain ⟨hu1, _, hu2⟩ := hu
  have hut : ∀ q ∈ popR st.op, q.turn ≠ (popS st.op).turn := fun q hq => hu2 _ (List.mem_map.2 ⟨q, hq, rfl⟩) _ (by simp)
  obtain ⟨hh, _, hmin⟩ := pop_heap h.heap hne
  have pmem : popS st.op ∈ st.op := (hmem _).2 (.inr rfl)
  have hmin1 : ∀ s ∈ st.op, (popS st.op).far ≤ s.far ∧ ((popS st.op).far = s.far → (popS st.op).turn ≤ s.turn) := by
    intro s hs
    have := hmin s hs
    unfold Spot.lt at this
    omega
  have hmin2 : ∀ s ∈ st.op, le2 (popS st.op).far (κ (popS st.op).turn) s.far (κ s.turn) := by
    intro s hs
    obtain ⟨a, b⟩ := hmin1 s hs
    by_cases e : (popS st.op).far = s.far
    · refine .inr ⟨e, ?_⟩
      by_cases e2 : (popS st.op).turn = s.turn
      · rw [e2]; exact Nat.le_refl _
      · have := h.ord _ pmem s hs e (by have := b e; omega)
        omega
    · exact .inl (by omega)
  obtain ⟨px, py, _, ptn, pl⟩ := hi.spots _ pmem
  have pc := h.spots _ pmem
  have plow := h.lowS _ pmem
  have pm : ∀ x y, x ≤ o.length → y ≤ f.length → st.at f.length x y ≠ 0 → le2 (G x y) (Q x y) (popS st.op).far (κ (popS st.op).turn) := fun x y a b c => h.mono x y a b c _ pmem
  have hrel : ∀ q ∈ popR st.op, (popS st.op).far ≤ q.far ∧ q.far ≤ (popS st.op).far + 1 ∧ (q.far = (popS st.op).far → κ (popS st.op).turn < κ q.turn) ∧ (q.far = (popS st.op).far + 1 → κ q.turn < 2 * κ (popS st.op).turn) := by
    intro q hq
    have hq' := (hmem q).2 (.inl hq)
    refine ⟨(hmin1 q hq').1, h.far q hq' _ pmem, fun e => ?_, fun e => h.ord2 q hq' _ pmem e⟩
    have := (hmin1 q hq').2 e.symm
    have := hut q hq
    exact h.ord _ pmem q hq' e.symm (by omega)
  have ptop : (popS st.op).x = o.length → (popS st.op).y = f.length → (popS st.op).far = dist o f ∧ κ (popS st.op).turn ≤ key o f := by
    intro e1 e2
    obtain ⟨s, hs, g1, g2⟩ := goodK o f h he
    have h1 := hmin2 s hs
    have h2 := plow.1
    have e3 : rd o f o.length f.length = 0 := by unfold rd; simp [dist_nil_l]
    rw [e1, e2, e3] at h2
    unfold le2 at h1
    have e4 : rd o f s.x s.y = 0 := by omega
    rw [e4] at g2
    simp at g2
    omega
  unfold roundM settleM
  simp only
  generalize hs : popS st.op = s at *
  have hat : ∀ x y, Srch.at { op := popR st.op, turns := st.turns, led := st.led } f.length x y = st.at f.length x y := fun _ _ => rfl
  rw [hat]
  split
  · rename_i h0
    have hset := fun x y (hy : y ≤ f.length) => at_set (st := st) (n := o.length) (m := f.length) (x0 := s.x) (y0 := s.y) (x := x) (y := y) (k := s.kind) hi.len px py hy (popR st.op) st.turns
    generalize hG : (fun x y => if x = s.x ∧ y = s.y then s.far else G x y) = G'
    generalize hQ : (fun x y => if x = s.x ∧ y = s.y then κ s.turn else Q x y) = Q'
    have hG1 : G' s.x s.y = s.far := by rw [← hG]; simp
    have hQ1 : Q' s.x s.y = κ s.turn := by rw [← hQ]; simp
    have hG2 : ∀ x y, ¬ (x = s.x ∧ y = s.y) → G' x y = G x y ∧ Q' x y = Q x y := by intro x y hn; rw [← hG, ← hQ]; simp only; rw [if_neg hn, if_neg hn]; exact ⟨rfl, rfl⟩
    have hG3 : ∀ x y, st.at f.length x y ≠ 0 → G' x y = G x y ∧ Q' x y = Q x y := by
      intro x y hr
      refine hG2 x y ?_
      rintro ⟨rfl, rfl⟩
      exact hr h0
    have hmono : ∀ x y, y ≤ f.length → st.at f.length x y ≠ 0 → Srch.at { op := popR st.op, turns := st.turns, led := st.led.set (idx f.length s.x s.y) s.kind } f.length x y ≠ 0 := by
      intro x y hy hr
      rw [hset x y hy]
      split
      · exact pl.pos
      · exact hr
    have hcost : ∀ x y k c d, y ≤ f.length → CostK o f st G Q x y k c d → CostK o f { op := popR st.op, turns := st.turns, led := st.led.set (idx f.length s.x s.y) s.kind } G' Q' x y k c d := by
      intro x y k c d hy hc
      rcases hc with hc | ⟨h1, h2, h3, h4, h5, h6, h7⟩ | ⟨h1, h2, h3, h4, h5, h6⟩ | ⟨h1, h2, h3, h4, h5, h6⟩
      · exact .inl hc
      · exact .inr (.inl ⟨h1, h2, h3, hmono _ _ (by omega) h4, h5, by rw [(hG3 _ _ h4).1]; exact h6, by rw [(hG3 _ _ h4).2]; exact h7⟩)
      · exact .inr (.inr (.inl ⟨h1, h2, hmono _ _ hy h3, h4, by rw [(hG3 _ _ h3).1]; exact h5, by rw [(hG3 _ _ h3).2]; exact h6⟩))
      · exact .inr (.inr (.inr ⟨h1, h2, hmono _ _ (by omega) h3, h4, by rw [(hG3 _ _ h3).1]; exact h5, by rw [(hG3 _ _ h3).2]; exact h6⟩))
    have hnear : ∀ x y c k, y ≤ f.length → NearK f st G Q κ x y c k → NearK f { op := popR st.op, turns := st.turns, led := st.led.set (idx f.length s.x s.y) s.kind } G' Q' κ x y c k := by
      intro x y c k hy hn
      rcases hn with ⟨h1, h2⟩ | ⟨q, hq, e1, e2, e3⟩
      · exact .inl ⟨hmono x y hy h1, by rw [(hG3 _ _ h1).1, (hG3 _ _ h1).2]; exact h2⟩
      · by_cases e : x = s.x ∧ y = s.y
        · left
          obtain ⟨rfl, rfl⟩ := e
          refine ⟨by rw [hset _ _ hy, if_pos ⟨rfl, rfl⟩]; exact pl.pos, ?_⟩
          rw [hG1, hQ1]
          have := hmin2 q hq
          unfold le2 at *
          omega
        · rcases (hmem q).1 hq with hq | rfl
          · exact .inr ⟨q, hq, e1, e2, e3⟩
          · exact absurd ⟨e1.symm, e2.symm⟩ e
    have hGle : ∀ x y, x ≤ o.length → y ≤ f.length → Srch.at { op := popR st.op, turns := st.turns, led := st.led.set (idx f.length s.x s.y) s.kind } f.length x y ≠ 0 → le2 (G' x y) (Q' x y) s.far (κ s.turn) := by
      intro x y hx hy hr
      by_cases e : x = s.x ∧ y = s.y
      · rw [e.1, e.2, hG1, hQ1]; exact .inr ⟨rfl, Nat.le_refl _⟩
      · rw [hset x y hy, if_neg e] at hr
        rw [(hG2 x y e).1, (hG2 x y e).2]
        exact pm x y hx hy hr
    have hhere : Srch.at { op := popR st.op, turns := st.turns, led := st.led.set (idx f.length s.x s.y) s.kind } f.length s.x s.y ≠ 0 := by rw [hset _ _ py, if_pos ⟨rfl, rfl⟩]; exact pl.pos
    have i0 : InvK o f (some (s.x, s.y)) { op := popR st.op, turns := st.turns, led := st.led.set (idx f.length s.x s.y) s.kind } G' Q' κ := by
      refine ⟨hh, hu1, fun q hq => h.tle q ((hmem q).2 (.inl hq)), fun q1 h1 q2 h2 => h.far q1 ((hmem q1).2 (.inl h1)) q2 ((hmem q2).2 (.inl h2)), fun q1 h1 q2 h2 => h.ord q1 ((hmem q1).2 (.inl h1)) q2 ((hmem q2).2 (.inl h2)), fun q1 h1 q2 h2 => h.ord2 q1 ((hmem q1).2 (.inl h1)) q2 ((hmem q2).2 (.inl h2)), ?_, ?_, ?_, hnear 0 0 0 0 (by omega) h.start, ?_, ?_, fun q hq => h.lowS q ((hmem q).2 (.inl hq)), ?_⟩
      · intro x y hx hy hr q hq
        have h1 := hGle x y hx hy hr
        have h2 := hmin2 q ((hmem q).2 (.inl hq))
        unfold le2 at *
        omega
      · intro q hq
        have hq' := (hmem q).2 (.inl hq)
        exact hcost _ _ _ _ _ (hi.spots q hq').2.1 (h.spots q hq')
      · intro x y hx hy hr
        by_cases e : x = s.x ∧ y = s.y
        · rw [hset x y hy, if_pos e, e.1, e.2, hG1, hQ1]
          exact hcost _ _ _ _ _ py pc
        · rw [hset x y hy, if_neg e] at hr ⊢
          rw [(hG2 x y e).1, (hG2 x y e).2]
          exact hcost _ _ _ _ _ hy (h.known x y hx hy hr)
      · intro x y hx hy hr hne'
        have e : ¬ (x = s.x ∧ y = s.y) := by rintro ⟨rfl, rfl⟩; exact hne' rfl
        rw [hset x y hy, if_neg e] at hr
        have := h.next x y hx hy hr (by simp)
        unfold NextK at this ⊢
        rw [(hG2 x y e).1, (hG2 x y e).2]
        split at this
        · rename_i hs'
          have hlt := same_lt o f hs'
          rw [if_pos hs']
          exact hnear _ _ _ _ (by omega) this
        · rename_i hs'
          rw [if_neg hs']
          exact ⟨fun a => hnear _ _ _ _ hy (this.1 a), fun a => hnear _ _ _ _ (by omega) (this.2 a)⟩
      · intro x y hx hy hr
        by_cases e : x = s.x ∧ y = s.y
        · rw [e.1, e.2, hG1, hQ1]; exact plow
        · rw [hset x y hy, if_neg e] at hr
          rw [(hG2 x y e).1, (hG2 x y e).2]
          exact h.low x y hx hy hr
      · intro hr
        by_cases e : o.length = s.x ∧ f.length = s.y
        · have h1 : G' o.length f.length = s.far := by rw [e.1, e.2]; exact hG1
          have h2 : Q' o.length f.length = κ s.turn := by rw [e.1, e.2]; exact hQ1
          rw [h1, h2]
          exact ptop e.1.symm e.2.symm
        · rw [hset _ _ (Nat.le_refl _), if_neg e] at hr
          exact absurd he hr
    have close : ∀ (S : Srch) (K : Nat → Nat), InvK o f (some (s.x, s.y)) S G' Q' K → NextK o f S G' Q' K s.x s.y → InvK o f none S G' Q' K := by
      intro S K hS hN
      refine ⟨hS.heap, hS.uniq, hS.tle, hS.far, hS.ord, hS.ord2, hS.mono, hS.spots, hS.known, hS.start, ?_, hS.low, hS.lowS, hS.top⟩
      intro x y hx hy hr _
      by_cases e : x = s.x ∧ y = s.y
      · rw [e.1, e.2]; exact hN
      · exact hS.next x y hx hy hr (by simp only [ne_eq, Option.some.injEq, Prod.mk.injEq]; intro hh; exact e ⟨hh.1.symm, hh.2.symm⟩)
    split
    · rename_i hsame
      have hlt := same_lt o f hsame
      refine ⟨G', Q', κ, close _ _ (i0.push o f ⟨s.x + 1, s.y + 1, s.far, s.turn, 32⟩ st.turns hut ptn (Nat.le_refl _) ?_ hGle (.inr (.inl ⟨rfl, by simp, by simp, by simpa using hhere, by simpa using hsame, by simp [hG1], by simp [hQ1]⟩)) (plow.keep o f hsame)) ?_⟩
      · intro q hq
        obtain ⟨a, b, c, d⟩ := hrel q hq
        have hq' := (hmem q).2 (.inl hq)
        refine ⟨by simp only; omega, by simp only; omega, fun e => ⟨fun e2 => ?_, fun e2 => ?_⟩, fun e => d e, fun e => by simp only at e; omega⟩
        · have := (hmin1 q hq').2 e.symm
          simp only at e2
          omega
        · exact c e
      · unfold NextK
        rw [if_pos hsame]
        exact .inr ⟨⟨s.x + 1, s.y + 1, s.far, s.turn, 32⟩, (pushM_perm _ _).mem_iff.2 (by simp), rfl, rfl, by rw [hG1, hQ1]; exact .inr ⟨rfl, Nat.le_refl _⟩⟩
    · rename_i hsame
      have hsf : same o f s.x s.y = false := by simpa using hsame
      have key1 : ∃ (st2 : Srch) (κ2 : Nat → Nat), st2 = (if s.x < o.length then changeM f.length { op := popR st.op, turns := st.turns, led := st.led.set (idx f.length s.x s.y) s.kind } s 1 0 45 else { op := popR st.op, turns := st.turns, led := st.led.set (idx f.length s.x s.y) s.kind }) ∧
          κ2 s.turn = κ s.turn ∧ st.turns ≤ st2.turns ∧ InvK o f (some (s.x, s.y)) st2 G' Q' κ2 ∧ (s.x < o.length → NearK f st2 G' Q' κ2 (s.x + 1) s.y (s.far + 1) (2 * κ s.turn)) ∧ st2.led = st.led.set (idx f.length s.x s.y) s.kind ∧
          (∀ q ∈ st2.op, s.far ≤ q.far ∧ q.far ≤ s.far + 1 ∧ (q.far = s.far → κ2 s.turn < κ2 q.turn) ∧ (q.far = s.far + 1 → κ2 q.turn < 2 * κ s.turn + 1)) := by
        split
        · rename_i hxl
          obtain ⟨κ2, c1, c2, c3, c4, c5, c6, c7⟩ := i0.change o f s 1 0 45 (2 * κ s.turn) ptn (by omega) (by omega) (by omega) hrel hGle (.inr (.inr (.inl ⟨rfl, by omega, by simpa using hhere, by simpa using hsf, by simp [hG1], by simp [hQ1]⟩))) (by simpa using plow.drop o f hsf hxl py)
          exact ⟨_, κ2, rfl, c1 _ ptn, c5, c2, fun _ => by simpa using c3, c4, c7⟩
        · exact ⟨_, κ, rfl, rfl, Nat.le_refl _, i0, fun hh => absurd hh (by assumption), rfl, fun q hq => by
            obtain ⟨a, b, c, d⟩ := hrel q hq
            exact ⟨a, b, c, fun e => Nat.lt_succ_of_lt (d e)⟩⟩
      obtain ⟨st2, κ2, hst2, k1, k2, j1, j2, j3, j4⟩ := key1
      rw [← hst2]
      have hat2 : ∀ x y, st2.at f.length x y = Srch.at { op := popR st.op, turns := st.turns, led := st.led.set (idx f.length s.x s.y) s.kind } f.length x y := by intro x y; unfold Srch.at; rw [j3]
      split
      · rename_i hyl
        obtain ⟨κ3, c1, c2, c3, c4, c5, c6, c7⟩ := j1.change o f s 0 1 43 (2 * κ s.turn + 1) (by omega) (by omega) (by omega) (by omega) j4 (fun x y hx hy hr => by rw [k1]; exact hGle x y hx hy (by rw [← hat2]; exact hr)) (.inr (.inr (.inr ⟨rfl, by omega, by rw [hat2]; simpa using hhere, by simpa using hsf, by simp [hG1], by simp [hQ1]⟩))) (by simpa using plow.add o f hsf px hyl)
        refine ⟨G', Q', κ3, close _ _ c2 ?_⟩
        unfold NextK
        rw [if_neg hsame, hG1, hQ1]
        exact ⟨fun hx => c6 _ _ _ _ (j2 hx), fun _ => by simpa using c3⟩
      · rename_i hyl
        refine ⟨G', Q', κ2, close _ _ j1 ?_⟩
        unfold NextK
        rw [if_neg hsame, hG1, hQ1]
        exact ⟨j2, fun hy => absurd hy hyl⟩
  · rename_i h0
    refine ⟨G, Q, κ, ?_⟩
    have hnear : ∀ x y c k, x ≤ o.length → y ≤ f.length → NearK f st G Q κ x y c k → NearK f { op := popR st.op, turns := st.turns, led := st.led } G Q κ x y c k := by
      intro x y c k hx hy hn
      rcases hn with h1 | ⟨q, hq, e1, e2, e3⟩
      · exact .inl h1
      · rcases (hmem q).1 hq with hq' | rfl
        · exact .inr ⟨q, hq', e1, e2, e3⟩
        · left
          subst e1 e2
          refine ⟨h0, ?_⟩
          have := pm _ _ hx hy h0
          unfold le2 at *
          omega
    refine ⟨hh, hu1, fun q hq => h.tle q ((hmem q).2 (.inl hq)), fun q1 h1 q2 h2 => h.far q1 ((hmem q1).2 (.inl h1)) q2 ((hmem q2).2 (.inl h2)), fun q1 h1 q2 h2 => h.ord q1 ((hmem q1).2 (.inl h1)) q2 ((hmem q2).2 (.inl h2)), fun q1 h1 q2 h2 => h.ord2 q1 ((hmem q1).2 (.inl h1)) q2 ((hmem q2).2 (.inl h2)),
      fun x y hx hy hr q hq => h.mono x y hx hy hr q ((hmem q).2 (.inl hq)), fun q hq => h.spots q ((hmem q).2 (.inl hq)), h.known, hnear 0 0 0 0 (by omega) (by omega) h.start, ?_, h.low, fun q hq => h.lowS q ((hmem q).2 (.inl hq)), h.top⟩
    intro x y hx hy hr _
    have := h.next x y hx hy hr (by simp)
    unfold NextK at this ⊢
    split at this
    · rename_i hs'
      have hlt := same_lt o f hs'
      rw [if_pos hs']
      exact hnear _ _ _ _ (by omega) (by omega) this
    · rename_i hs'
      rw [if_neg hs']
      exact ⟨fun a => hnear _ _ _ _ (by omega) hy (this.1 a), fun a => hnear _ _ _ _ hx (by omega) (this.2 a)⟩

omit [Inhabited α] in
theorem startK : InvK o f none (startM o f) (fun _ _ => 0) (fun _ _ => 0) (fun _ => 0) := by
  have h0 : ∀ x y, (startM o f).at f.length x y = 0 := by
    intro x y
    simp [startM, Srch.at, List.getD, List.getElem?_replicate]
    split <;> rfl
  have hop : ∀ s ∈ (startM o f).op, s = ⟨0, 0, 0, 0, 46⟩ := by intro s hs; simpa [startM] using hs
  refine ⟨?_, by simp [startM], ?_, ?_, ?_, ?_, fun x y _ _ hr => absurd (h0 x y) hr, ?_, fun x y _ _ hr => absurd (h0 x y) hr, .inr ⟨⟨0, 0, 0, 0, 46⟩, by simp [startM], rfl, rfl, .inr ⟨rfl, Nat.le_refl _⟩⟩, fun x y _ _ hr => absurd (h0 x y) hr, fun x y _ _ hr => absurd (h0 x y) hr, ?_, fun hr => absurd (h0 _ _) hr⟩
  · intro i hi hl; simp [startM] at hl; omega
  · intro s hs; rw [hop s hs]; exact Nat.zero_le _
  · intro s hs q hq; rw [hop s hs, hop q hq]; simp
  · intro s hs q hq _ hlt; rw [hop s hs, hop q hq] at hlt; simp at hlt
  · intro s hs q hq e; rw [hop s hs, hop q hq] at e; simp at e
  · intro s hs; rw [hop s hs]; exact .inl ⟨rfl, rfl, rfl, rfl, rfl⟩
  · intro s hs; rw [hop s hs]; exact ⟨by simp [rd], fun _ => by simp [kb]⟩
theorem searchM_K : ∀ (k : Nat) (st : Srch) (G Q : Nat → Nat → Nat) (κ : Nat → Nat), Inv o f st → InvK o f none st G Q κ → ∃ G' Q' κ', InvK o f none (searchM o f k st) G' Q' κ' := by
  intro k
  induction k with
  | zero => intro st G Q κ _ hG; exact ⟨G, Q, κ, hG⟩
  | succ k ih =>
    intro st G Q κ hi hG
    by_cases he : st.at f.length o.length f.length = 0
    · simp only [searchM, he, if_true]
      obtain ⟨G1, Q1, κ1, hG1⟩ := hG.round o f hi he
      exact ih _ G1 Q1 κ1 (hi.round (hi.open_ne he)).1 hG1
    · rw [searchM_done he]; exact ⟨G, Q, κ, hG⟩
theorem backM_spec {st : Srch} {G Q : Nat → Nat → Nat} {κ : Nat → Nat} (h : InvK o f none st G Q κ) : ∀ (k x y : Nat), x + y ≤ k → x ≤ o.length → y ≤ f.length → st.at f.length x y ≠ 0 →
    G x y + rd o f x y = dist o f → Q x y * 2 ^ rd o f x y + kb o f x y = key o f → (backM o f st k x y).reverse ++ sp o f x y = spec o f := by
  intro k
  induction k with
  | zero =>
    intro x y hk _ _ _ _ _
    obtain rfl : x = 0 := by omega
    obtain rfl : y = 0 := by omega
    simp [backM, sp]
  | succ k ih =>
    intro x y hk hx hy hr hD hK
    unfold backM
    split
    · rename_i e
      rw [e.1, e.2]
      simp [sp]
    · rename_i hne
      have hc := h.known x y hx hy hr
      rcases hc with ⟨_, h1, h2, _⟩ | ⟨h1, h2, h3, h4, h5, h6, h7⟩ | ⟨h1, h2, h3, h4, h5, h6⟩ | ⟨h1, h2, h3, h4, h5, h6⟩
      · exact absurd ⟨h1, h2⟩ hne
      · rw [if_pos h1]
        obtain ⟨x, rfl⟩ : ∃ x', x = x' + 1 := ⟨x - 1, by omega⟩
        obtain ⟨y, rfl⟩ : ∃ y', y = y' + 1 := ⟨y - 1, by omega⟩
        simp only [Nat.add_sub_cancel] at *
        have hs := at_same o f h5
        have := ih x y (by omega) (by omega) (by omega) h4 (by rw [rd_same o f h5, ← h6]; exact hD) (by rw [rd_same o f h5, hs.1, ← h7]; exact hK)
        rw [hs.2] at this
        simpa using this
      · rw [if_neg (by omega), if_pos h1]
        obtain ⟨x, rfl⟩ : ∃ x', x = x' + 1 := ⟨x - 1, by omega⟩
        simp only [Nat.add_sub_cancel] at *
        have hl := (h.low x y (by omega) hy h3).1
        have hr1 := rd_x o f y (show x < o.length by omega)
        have hd : Drops o f x y := by
          by_cases hd : Drops o f x y
          · exact hd
          · have hy' : y < f.length := by
              by_cases ey : y < f.length
              · exact ey
              · exact absurd ⟨by omega, .inl (by omega)⟩ hd
            have := (at_add o f h4 (by omega) hy' hd).2.2.2 (by omega)
            omega
        obtain ⟨e1, e2, e3⟩ := at_drop o f h4 hy hd
        have := ih x y (by omega) (by omega) (by omega) h3 (by omega) (by rw [e1, e2, pw1, ← pw2, ← h6]; exact hK)
        rw [e3] at this
        simpa using this
      · rw [if_neg (by omega), if_neg (by omega), h1]
        obtain ⟨y, rfl⟩ : ∃ y', y = y' + 1 := ⟨y - 1, by omega⟩
        simp only [Nat.add_sub_cancel] at *
        have hl := h.low x y hx (by omega) h3
        have hl1 := hl.1
        have hr1 := rd_y o f x (show y < f.length by omega)
        have e0 : rd o f x y = rd o f x (y + 1) + 1 := by omega
        have hl2 := hl.2 (by omega)
        rw [e0, pw1] at hl2
        rw [h6, pw3] at hK
        have hd : ¬ Drops o f x y := by
          intro hd
          obtain ⟨e1, e2, _⟩ := at_drop o f h4 (by omega) hd
          have h8 := kb_lt o f (x + 1) y
          rw [show rd o f (x + 1) y = rd o f x (y + 1) by omega] at h8
          omega
        obtain ⟨e1, e2, e3, _⟩ := at_add o f h4 hx (by omega) hd
        have := ih x y (by omega) (by omega) (by omega) h3 (by omega) (by rw [e1, e2, pw1]; omega)
        rw [e3] at this
        simpa using this
/-- the way that is found is the one that the document asks for -/
theorem wayM_spec : wayM o f = spec o f := by
  obtain ⟨_, he⟩ := foundM_inv o f
  obtain ⟨G, Q, κ, hG⟩ := searchM_K o f (mu (startM o f)) (startM o f) _ _ _ (startM_inv o f) (startK o f)
  have hK : InvK o f none (foundM o f) G Q κ := hG
  have e3 : rd o f o.length f.length = 0 := by unfold rd; simp [dist_nil_l]
  have e4 : kb o f o.length f.length = 0 := by unfold kb; simp [key]
  have e5 : sp o f o.length f.length = [] := by unfold sp; simp [spec]
  obtain ⟨t1, t2⟩ := hK.top he
  have hl := hK.low o.length f.length (Nat.le_refl _) (Nat.le_refl _) he
  have hl2 := hl.2 (by rw [e3, t1]; omega)
  rw [e3, e4] at hl2
  have := backM_spec o f hK (o.length + f.length) o.length f.length (Nat.le_refl _) (Nat.le_refl _) (Nat.le_refl _) he (by rw [e3, t1]; omega) (by rw [e3, e4]; simp at hl2 ⊢; omega)
  rw [e5] at this
  unfold wayM
  simpa using this
end
end Dn

namespace Go.Proofs.YtcclgodahlinbaaDoor
open Go.RowKit Go
set_option maxRecDepth 100000

/-! ### ways between texts whose lines are all different -/
section
variable {α : Type} [DecidableEq α]
theorem dist_new_r : ∀ (l r : List α) (b : α), b ∉ l → Dn.dist l (b :: r) = Dn.dist l r + 1
  | [], r, b, _ => by rw [Dn.dist_nil_l, Dn.dist_nil_l]; simp
  | c :: l, r, b, h => by
    have hne : c ≠ b := fun e => h (by simp [e])
    have ih := dist_new_r l r b (fun e => h (List.mem_cons_of_mem _ e))
    have h1 := Dn.dist_l1 c l r
    rw [Dn.dist_ne hne, ih]
    omega
theorem dist_new_l (l r : List α) (a : α) (h : a ∉ r) : Dn.dist (a :: l) r = Dn.dist l r + 1 := by
  rw [Dn.dist_comm _ _ _ (Nat.le_refl _), dist_new_r r l a h, Dn.dist_comm _ _ _ (Nat.le_refl _)]
theorem dist_self (l : List α) : Dn.dist l l = 0 := by
  induction l with
  | nil => rw [Dn.dist_nil_l]; rfl
  | cons a l ih => rw [Dn.dist_same, ih]
theorem spec_keep (a : α) (l r : List α) : Dn.spec (a :: l) (a :: r) = ⟨32, a⟩ :: Dn.spec l r := by rw [Dn.spec, if_pos rfl]
theorem spec_keeps (A l r : List α) : Dn.spec (A ++ l) (A ++ r) = A.map (fun a => ⟨32, a⟩) ++ Dn.spec l r := by
  induction A with
  | nil => rfl
  | cons a A ih => rw [List.cons_append, List.cons_append, spec_keep, ih]; rfl
theorem spec_self (l : List α) : Dn.spec l l = l.map (fun a => ⟨32, a⟩) := by
  have := spec_keeps l [] []
  rw [List.append_nil] at this
  rw [this, Dn.spec, List.append_nil]
theorem spec_drop {a b : α} {l r : List α} (h : a ≠ b) (hd : Dn.dist l (b :: r) ≤ Dn.dist (a :: l) r) : Dn.spec (a :: l) (b :: r) = ⟨45, a⟩ :: Dn.spec l (b :: r) := by rw [Dn.spec, if_neg h, if_pos hd]
theorem spec_add {a b : α} {l r : List α} (h : a ≠ b) (hd : ¬ Dn.dist l (b :: r) ≤ Dn.dist (a :: l) r) : Dn.spec (a :: l) (b :: r) = ⟨43, b⟩ :: Dn.spec (a :: l) r := by rw [Dn.spec, if_neg h, if_neg hd]
/-- a line in another's place -/
theorem spec_change {a b m : α} {l r : List α} (h1 : a ≠ b) (h2 : a ∉ m :: r) (h3 : b ∉ m :: l) (h4 : m ∉ l) : Dn.spec (a :: m :: l) (b :: m :: r) = ⟨45, a⟩ :: ⟨43, b⟩ :: Dn.spec (m :: l) (m :: r) := by
  rw [spec_drop h1 (by rw [dist_new_r _ _ _ h3, dist_new_l _ _ _ h2]; exact Nat.le_refl _)]
  rw [spec_add (fun e => h3 (by simp [e])) (by rw [dist_new_r _ _ _ (fun e => h3 (List.mem_cons_of_mem _ e)), dist_new_r _ _ _ h4, Dn.dist_same]; omega)]
theorem spec_last {a b : α} (h : a ≠ b) : Dn.spec [a] [b] = [⟨45, a⟩, ⟨43, b⟩] := by
  rw [spec_drop h (by rw [Dn.dist_nil_l, Dn.dist_nil_r]; exact Nat.le_refl _), Dn.spec, Dn.spec]
/-- a line more -/
theorem spec_more {m : α} {B : List α} (h : m ∉ B) (hn : B.Nodup) : Dn.spec B (m :: B) = ⟨43, m⟩ :: B.map (fun a => ⟨32, a⟩) := by
  cases B with
  | nil => rw [Dn.spec, Dn.spec]; rfl
  | cons b B =>
    rw [List.nodup_cons] at hn
    rw [spec_add (fun e => h (by simp [e])) (by rw [dist_new_r _ _ _ (fun e => h (List.mem_cons_of_mem _ e)), dist_new_r _ _ _ hn.1, dist_self, dist_self]; omega), spec_self]
/-- a line less -/
theorem spec_less {c : α} {B : List α} (h : c ∉ B) : Dn.spec (c :: B) B = ⟨45, c⟩ :: B.map (fun a => ⟨32, a⟩) := by
  cases B with
  | nil => rw [Dn.spec, Dn.spec]; rfl
  | cons b B =>
    rw [spec_drop (fun e => h (by simp [e])) (by rw [dist_self]; omega), spec_self]
end

/-! ### Diff and Apply of lines -/
theorem diff_text {L R : List ByteArray} {c : Nat} {m : Int} {w : World} (h : Plain L) (h1 : L.length ≤ 200) (h2 : (textL L).length ≤ 8000) (g : Plain R) (g1 : R.length ≤ 200) (g2 : (textL R).length ≤ 8000) (hc : c ≤ 10)
    (hm : w.cell? ⟨0, 0, none⟩ = some (.int .i64 m)) :
    Calls Tryd.prog 14 #[.string (textB L), .string (textB R), .int .i64 c] w fun e w' =>
      ∃ a cap, e = .returned (.tuple #[.agg #[.slice a (hunksM (Dn.wayM L R) c).length cap], .int .i64 0]) ∧ HunksAt w'.heap.size w' (.slice a (hunksM (Dn.wayM L R) c).length cap) (hunksM (Dn.wayM L R) c) ∧ Below w.heap.size w w' := by
  have e1 : (textB L).size = (textL L).length := rfl
  have e2 : (textB R).size = (textL R).length := rfl
  have := diff_at (checkB_text h h1 h2 g g1 g2 hc) (by omega) (by omega) hm
  unfold diffM at this
  rw [linesB_text h, linesB_text g] at this
  exact this
theorem apply_text {T : List ByteArray} {hs : List HunkM} {fz : Nat} {a : Option Addr} {cap : Nat} {m : Int} {w : World} (h : Plain T) (h1 : T.length ≤ 200) (h2 : (textL T).length ≤ 8000) (hf : fz ≤ 10)
    (hH : HunksAt w.heap.size w (.slice a hs.length cap) hs) (hr : rightM 0 0 hs = true) (hl : hs.length ≤ 1000) (hh : hs.all hunkOkB = true) (hm : w.cell? ⟨0, 0, none⟩ = some (.int .i64 m)) (hm0 : 0 < w.heap.size) :
    Calls Tryd.prog 17 #[.string (textB T), .agg #[.slice a hs.length cap], .int .i64 fz] w fun e w' =>
      ∃ a' c', e = .returned (.tuple #[.string (applyT T fz hs), .slice a' hs.length c', .int .i64 0]) ∧ SeamsAt w' (.slice a' hs.length c') (applyS T fz hs) ∧ Below w.heap.size w w' := by
  have e1 : (textB T).size = (textL T).length := rfl
  rw [List.all_eq_true] at hh
  have := apply_at (isTextB_text T) (largeB_text h h1 h2) hf hH hr hl (by omega) hm hm0 (fun x hx => hunkOk_of (hh x hx)) (by rw [linesB_text h]; omega) (by rw [linesB_text h]; omega)
  rw [linesB_text h] at this
  exact this

/-! ### fuzz beyond the keeps at the ends changes nothing -/
theorem sewM_rounds {T : List ByteArray} {s : SewS} {h : HunkM} {f g : Nat} (e : sewRounds h f = sewRounds h g) : sewM T s h f = sewM T s h g := by
  unfold sewM sewFind
  rw [e]
theorem applyFrom_rounds {T : List ByteArray} {f g : Nat} : ∀ (hs : List HunkM) (s : SewS), (∀ h ∈ hs, sewRounds h f = sewRounds h g) → applyFrom T f s hs = applyFrom T g s hs
  | [], _, _ => rfl
  | h :: hs, s, e => by
    unfold applyFrom
    simp only
    rw [sewM_rounds (e h (by simp)), applyFrom_rounds hs _ (fun x hx => e x (List.mem_cons_of_mem _ hx))]
theorem apply_rounds {T : List ByteArray} {f g : Nat} {hs : List HunkM} (e : ∀ h ∈ hs, sewRounds h f = sewRounds h g) : applyT T f hs = applyT T g hs ∧ applyS T f hs = applyS T g hs := by
  unfold applyT applyS applyK
  rw [List.take_length, applyFrom_rounds hs _ e]
  exact ⟨rfl, rfl⟩

/-! ### the lines of Left and Apart -/
def lineB (i : Nat) : ByteArray := ⟨#[108, 105, 110, 101, 32, UInt8.ofNat (97 + i / 10), UInt8.ofNat (48 + i % 10)]⟩
def lineOk (i : Nat) : Bool := !(lineB i).data.toList.contains 10
def lineNe (i : Nat) : Bool := (List.range 60).all fun j => decide (i = j) || decide (lineB i ≠ lineB j)
theorem lines_ok : (List.range 60).all lineOk = true := by kernel_rfl
theorem lines_ne : (List.range 60).all lineNe = true := by kernel_rfl
theorem lineB_ok {i : Nat} (h : i < 60) : (10 : UInt8) ∉ (lineB i).data.toList := by
  have h1 := (List.all_eq_true.1 lines_ok) i (List.mem_range.2 h)
  unfold lineOk at h1
  simpa using h1
theorem lineB_inj {i j : Nat} (hi : i < 60) (hj : j < 60) (e : lineB i = lineB j) : i = j := by
  have h1 := (List.all_eq_true.1 lines_ne) i (List.mem_range.2 hi)
  unfold lineNe at h1
  have h2 := (List.all_eq_true.1 h1) j (List.mem_range.2 hj)
  simp only [Bool.or_eq_true, decide_eq_true_eq] at h2
  rcases h2 with h2 | h2
  · exact h2
  · exact absurd e h2
def xL (n : Nat) : List ByteArray := (List.range n).map lineB
theorem xL_length (n : Nat) : (xL n).length = n := by simp [xL]
theorem xL_succ (n : Nat) : xL (n + 1) = xL n ++ [lineB n] := by unfold xL; rw [List.range_succ, List.map_append]; rfl
theorem xL_plain {n : Nat} (h : n ≤ 60) : Plain (xL n) := by
  intro s hs
  obtain ⟨i, hi, rfl⟩ := List.mem_map.1 hs
  exact lineB_ok (by have := List.mem_range.1 hi; omega)
theorem textL_bound (L : List ByteArray) (k : Nat) (h : ∀ s ∈ L, s.size ≤ k) : (textL L).length ≤ L.length * (k + 1) := by
  induction L with
  | nil => simp [textL]
  | cons x l ih =>
    have e : textL (x :: l) = (x.data.toList ++ [10]) ++ textL l := rfl
    have h1 := ih (fun s hs => h s (List.mem_cons_of_mem _ hs))
    have h2 : x.data.toList.length = x.size := rfl
    have h3 := h x (by simp)
    rw [e]
    simp only [List.length_append, List.length_cons, List.length_nil, Nat.add_mul]
    omega
end Go.Proofs.YtcclgodahlinbaaDoor

namespace Go.Proofs.YtcclgodahlinbaaDoor
open Go.RowKit Go
set_option maxRecDepth 100000

def firstB : ByteArray := ⟨#[102, 105, 114, 115, 116]⟩
def lastB : ByteArray := ⟨#[108, 97, 115, 116]⟩
def goneB : ByteArray := ⟨#[103, 111, 110, 101]⟩
def yL (n : Nat) : List ByteArray := ((xL n).set 0 firstB).set (n - 1) lastB
def leftZ (g n : Nat) : List ByteArray := if g = 0 then (xL n).set 0 goneB else (xL n).set (n - 1) goneB
def leftT (g n : Nat) : List ByteArray := if g = 0 then (yL n).set 0 goneB else (yL n).set (n - 1) goneB
def leftM (n : Nat) : List ByteArray := (List.range (n - 3)).map fun i => lineB (i + 2)
def leftW (n : Nat) : List StepB := ⟨45, lineB 0⟩ :: ⟨43, firstB⟩ :: ((lineB 1 :: leftM n).map (fun a => ⟨32, a⟩) ++ [⟨45, lineB (n - 1)⟩, ⟨43, lastB⟩])
def leftH (n : Nat) : List HunkM := [⟨1, 2, 1, 2, [⟨45, lineB 0⟩, ⟨43, firstB⟩, ⟨32, lineB 1⟩]⟩, ⟨n - 1, 2, n - 1, 2, [⟨32, lineB (n - 2)⟩, ⟨45, lineB (n - 1)⟩, ⟨43, lastB⟩]⟩]
def leftS (g : Nat) : List SeamM := if g = 0 then [⟨false, 0, 0⟩, ⟨true, 0, 0⟩] else [⟨true, 0, 0⟩, ⟨false, 0, 0⟩]

def eqS (a b : StepB) : Bool := decide (a.kind = b.kind) && decide (a.text = b.text)
def eqLs : List StepB → List StepB → Bool
  | [], [] => true
  | a :: l, b :: r => eqS a b && eqLs l r
  | _, _ => false
def eqH (a b : HunkM) : Bool := decide (a.fr = b.fr) && decide (a.fc = b.fc) && decide (a.tr = b.tr) && decide (a.tc = b.tc) && eqLs a.lines b.lines
def eqHs : List HunkM → List HunkM → Bool
  | [], [] => true
  | a :: l, b :: r => eqH a b && eqHs l r
  | _, _ => false
theorem eqS_of {a b : StepB} (h : eqS a b = true) : a = b := by
  obtain ⟨k, t⟩ := a
  obtain ⟨k', t'⟩ := b
  unfold eqS at h
  simp only [Bool.and_eq_true, decide_eq_true_eq] at h
  rw [h.1, h.2]
theorem eqLs_of : ∀ {l r : List StepB}, eqLs l r = true → l = r
  | [], [], _ => rfl
  | [], _ :: _, h => by simp [eqLs] at h
  | _ :: _, [], h => by simp [eqLs] at h
  | a :: l, b :: r, h => by
    simp only [eqLs, Bool.and_eq_true] at h
    rw [eqS_of h.1, eqLs_of h.2]
theorem eqH_of {a b : HunkM} (h : eqH a b = true) : a = b := by
  obtain ⟨a1, a2, a3, a4, a5⟩ := a
  obtain ⟨b1, b2, b3, b4, b5⟩ := b
  unfold eqH at h
  simp only [Bool.and_eq_true, decide_eq_true_eq] at h
  obtain ⟨⟨⟨⟨h1, h2⟩, h3⟩, h4⟩, h5⟩ := h
  rw [h1, h2, h3, h4, eqLs_of h5]
theorem eqHs_of : ∀ {l r : List HunkM}, eqHs l r = true → l = r
  | [], [], _ => rfl
  | [], _ :: _, h => by simp [eqHs] at h
  | _ :: _, [], h => by simp [eqHs] at h
  | a :: l, b :: r, h => by
    simp only [eqHs, Bool.and_eq_true] at h
    rw [eqH_of h.1, eqHs_of h.2]

def outB (a : ByteArray) (L : List ByteArray) : Bool := L.all fun x => decide (x ≠ a)
theorem out_of {a : ByteArray} {L : List ByteArray} (h : outB a L = true) : a ∉ L := by
  intro ha
  have := (List.all_eq_true.1 h) a ha
  simp at this
def plainB (L : List ByteArray) : Bool := L.all fun s => !s.data.toList.contains 10
theorem plain_of {L : List ByteArray} (h : plainB L = true) : Plain L := by
  intro s hs
  have := (List.all_eq_true.1 h) s hs
  simpa using this
def fitB (L : List ByteArray) : Bool := plainB L && decide (L.length ≤ 200) && decide ((textL L).length ≤ 8000)
/-- the text that Apply makes, as bytes -/
def applyL (T : List ByteArray) (fz : Nat) (hs : List HunkM) : List UInt8 := (applyK T fz hs hs.length).1.t ++ textL (T.drop (applyK T fz hs hs.length).1.en)
theorem applyT_of {T : List ByteArray} {fz : Nat} {hs : List HunkM} {L : List ByteArray} (h : applyL T fz hs = textL L) : applyT T fz hs = textB L := by
  unfold applyT textB
  rw [← h]
  rfl
def eqU : List UInt8 → List UInt8 → Bool
  | [], [] => true
  | a :: l, b :: r => decide (a = b) && eqU l r
  | _, _ => false
theorem eqU_of : ∀ {l r : List UInt8}, eqU l r = true → l = r
  | [], [], _ => rfl
  | [], _ :: _, h => by simp [eqU] at h
  | _ :: _, [], h => by simp [eqU] at h
  | a :: l, b :: r, h => by
    simp only [eqU, Bool.and_eq_true, decide_eq_true_eq] at h
    rw [h.1, eqU_of h.2]
/-- one case of Left, but for the fuzz -/
def leftOne (n : Nat) : Bool :=
  decide (xL n = lineB 0 :: lineB 1 :: (leftM n ++ [lineB (n - 1)])) && decide (yL n = firstB :: lineB 1 :: (leftM n ++ [lastB])) &&
  outB (lineB 0) (lineB 1 :: (leftM n ++ [lastB])) && outB firstB (lineB 1 :: (leftM n ++ [lineB (n - 1)])) && outB (lineB 1) (leftM n ++ [lineB (n - 1)]) && decide (lineB (n - 1) ≠ lastB) && decide (lineB 0 ≠ firstB) &&
  eqHs (hunksM (leftW n) 1) (leftH n) && fitB (xL n) && fitB (yL n) && rightM 0 0 (leftH n) && (leftH n).all hunkOkB && (leftH n).all (fun h => decide (max (keepsK h.lines h.lines.length).1 (keepsK h.lines h.lines.length).2.1 ≤ 1)) &&
  (List.range 2).all fun g => fitB (leftZ g n) && decide ((textL (leftT g n)).length ≤ 8000) && (List.range 2).all fun f => eqU (applyL (leftZ g n) f (leftH n)) (textL (leftT g n)) && decide (applyS (leftZ g n) f (leftH n) = leftS g)
theorem left_all : ((List.range 30).all fun i => leftOne (i + 8)) = true := by kernel_rfl
theorem fit_of {L : List ByteArray} (h : fitB L = true) : Plain L ∧ L.length ≤ 200 ∧ (textL L).length ≤ 8000 := by
  unfold fitB at h
  simp only [Bool.and_eq_true, decide_eq_true_eq] at h
  exact ⟨plain_of h.1.1, h.1.2, h.2⟩
structure LeftFacts (n g f : Nat) : Prop where
  way : hunksM (Dn.wayM (xL n) (yL n)) 1 = leftH n
  fx : Plain (xL n) ∧ (xL n).length ≤ 200 ∧ (textL (xL n)).length ≤ 8000
  fy : Plain (yL n) ∧ (yL n).length ≤ 200 ∧ (textL (yL n)).length ≤ 8000
  fz : Plain (leftZ g n) ∧ (leftZ g n).length ≤ 200 ∧ (textL (leftZ g n)).length ≤ 8000
  ft : (textL (leftT g n)).length ≤ 8000
  right : rightM 0 0 (leftH n) = true
  ok : (leftH n).all hunkOkB = true
  text : applyT (leftZ g n) f (leftH n) = textB (leftT g n)
  seams : applyS (leftZ g n) f (leftH n) = leftS g
theorem left_facts {i g f : Nat} (hi : i < 30) (hg : g < 2) : LeftFacts (8 + i) g f := by
  have h := (List.all_eq_true.1 left_all) i (List.mem_range.2 hi)
  rw [Nat.add_comm i 8] at h
  generalize 8 + i = n at h ⊢
  unfold leftOne at h
  simp only [Bool.and_eq_true, decide_eq_true_eq] at h
  obtain ⟨⟨⟨⟨⟨⟨⟨⟨⟨⟨⟨⟨⟨h1, h2⟩, h3⟩, h4⟩, h5⟩, h6⟩, h7⟩, h8⟩, h9⟩, h10⟩, h11⟩, h12⟩, h13⟩, h14⟩ := h
  have h15 := (List.all_eq_true.1 h14) g (List.mem_range.2 hg)
  simp only [Bool.and_eq_true, decide_eq_true_eq] at h15
  obtain ⟨⟨k1, k2⟩, k3⟩ := h15
  have k4 := (List.all_eq_true.1 k3) (min f 1) (List.mem_range.2 (by omega))
  simp only [Bool.and_eq_true, decide_eq_true_eq] at k4
  have hr : ∀ h ∈ leftH n, sewRounds h f = sewRounds h (min f 1) := by
    intro h hh
    have := (List.all_eq_true.1 h13) h hh
    simp only [decide_eq_true_eq] at this
    unfold sewRounds
    omega
  obtain ⟨r1, r2⟩ := apply_rounds (T := leftZ g n) hr
  refine ⟨?_, fit_of h9, fit_of h10, fit_of k1, k2, h11, h12, by rw [r1]; exact applyT_of (eqU_of k4.1), by rw [r2]; exact k4.2⟩
  have hw : Dn.wayM (xL n) (yL n) = leftW n := by
    rw [Dn.wayM_spec, h1, h2, spec_change h7 (out_of h3) (out_of h4) (out_of h5)]
    have := spec_keeps (lineB 1 :: leftM n) [lineB (n - 1)] [lastB]
    rw [spec_last h6] at this
    unfold leftW
    rw [← this]
    rfl
  rw [hw]
  exact eqHs_of h8
end Go.Proofs.YtcclgodahlinbaaDoor

namespace Go.Proofs.YtcclgodahlinbaaDoor
open Go.RowKit Go
set_option maxRecDepth 100000

/-! ### hunks as windows of a way -/
def cO (l : List StepB) : Nat := (Dn.oldOf l).length
def cN (l : List StepB) : Nat := (Dn.newOf l).length
theorem cO_append (a b : List StepB) : cO (a ++ b) = cO a + cO b := by unfold cO; rw [Dn.oldOf_append, List.length_append]
theorem cN_append (a b : List StepB) : cN (a ++ b) = cN a + cN b := by unfold cN; rw [Dn.newOf_append, List.length_append]
theorem cO_one (s : StepB) : cO [s] = if s.kind = 43 then 0 else 1 := by
  unfold cO Dn.oldOf
  by_cases h : s.kind = 43
  · simp [h]
  · simp [h]
theorem cN_one (s : StepB) : cN [s] = if s.kind = 45 then 0 else 1 := by
  unfold cN Dn.newOf
  by_cases h : s.kind = 45
  · simp [h]
  · simp [h]
def mkH (og fg : Nat) (M : List StepB) : HunkM := ⟨og, cO M, fg, cN M, M⟩
theorem addL_mk (og fg : Nat) (M : List StepB) (s : StepB) : addL (mkH og fg M) s = mkH og fg (M ++ [s]) := by
  unfold addL mkH
  simp only [cO_append, cN_append, cO_one, cN_one]
theorem foldH_gone (L : List StepB) (nb : List Bool) : ∀ k, k ≤ L.length → (foldH L nb k).og = cO (L.take k) ∧ (foldH L nb k).fg = cN (L.take k) := by
  intro k
  induction k with
  | zero => intro _; exact ⟨rfl, rfl⟩
  | succ k ih =>
    intro hk
    obtain ⟨i1, i2⟩ := ih (by omega)
    rw [foldH_succ (by omega), List.take_succ_eq_append_getElem (by omega), cO_append, cN_append, cO_one, cN_one, ← i1, ← i2]
    exact ⟨rfl, rfl⟩
theorem foldH_quiet {L : List StepB} {nb : List Bool} {i : Nat} : ∀ k, i ≤ k → k ≤ L.length → (∀ j, i ≤ j → j < k → nb.getD j false = false) → (foldH L nb k).hs = (foldH L nb i).hs := by
  intro k
  induction k with
  | zero => intro h _ _; obtain rfl : i = 0 := by omega
            rfl
  | succ k ih =>
    intro h1 h2 h3
    by_cases e : i = k + 1
    · rw [e]
    · rw [← ih (by omega) (by omega) (fun j a b => h3 j a (by omega)), foldH_succ (by omega)]
      show stepHs _ _ _ _ = _
      unfold stepHs
      rw [h3 k (by omega) (by omega), if_neg (by simp)]
theorem foldH_run {L : List StepB} {nb : List Bool} {i : Nat} (h0 : i = 0 ∨ nb.getD (i - 1) false = false) : ∀ k, i < k → k ≤ L.length → (∀ j, i ≤ j → j < k → nb.getD j false = true) →
    (foldH L nb k).hs = (foldH L nb i).hs ++ [mkH (cO (L.take i)) (cN (L.take i)) ((L.take k).drop i)] := by
  intro k
  induction k with
  | zero => intro h _ _; omega
  | succ k ih =>
    intro h1 h2 h3
    have hk : k < L.length := by omega
    obtain ⟨g1, g2⟩ := foldH_gone L nb k (by omega)
    rw [foldH_succ hk]
    show stepHs _ _ _ _ = _
    unfold stepHs
    rw [h3 k (by omega) (by omega), if_pos rfl]
    have e1 : (L.take (k + 1)).drop i = (L.take k).drop i ++ [L[k]] := by
      rw [List.take_succ_eq_append_getElem hk, List.drop_append_of_le_length (by rw [List.length_take]; omega)]
    by_cases e : i = k
    · subst e
      have hpb : (decide (0 < i) && nb.getD (i - 1) false) = false := by
        rcases h0 with h0 | h0
        · subst h0; rfl
        · rw [h0, Bool.and_false]
      rw [hpb, if_neg (by simp), lastAdd_append, g1, g2, e1, List.drop_eq_nil_of_le (by rw [List.length_take]; omega)]
      have : newHunk (cO (L.take i)) (cN (L.take i)) = mkH (cO (L.take i)) (cN (L.take i)) [] := rfl
      rw [this, addL_mk]
    · have hpb : (decide (0 < k) && nb.getD (k - 1) false) = true := by rw [h3 (k - 1) (by omega) (by omega)]; simp; omega
      rw [hpb, if_pos rfl, ih (by omega) (by omega) (fun j a b => h3 j a (by omega)), lastAdd_append, addL_mk, e1]

def keeps (l : List ByteArray) : List StepB := l.map fun a => ⟨32, a⟩
theorem keeps_append (a b : List ByteArray) : keeps (a ++ b) = keeps a ++ keeps b := List.map_append
theorem keeps_length (a : List ByteArray) : (keeps a).length = a.length := List.length_map _
theorem keeps_kind {l : List ByteArray} {s : StepB} (h : s ∈ keeps l) : s.kind = 32 := by
  obtain ⟨a, _, rfl⟩ := List.mem_map.1 h
  rfl
theorem oldOf_keeps (a : List ByteArray) : Dn.oldOf (keeps a) = a := by
  induction a with
  | nil => rfl
  | cons x a ih => have e : keeps (x :: a) = [⟨32, x⟩] ++ keeps a := rfl
                   rw [e, Dn.oldOf_append, ih]; rfl
theorem newOf_keeps (a : List ByteArray) : Dn.newOf (keeps a) = a := by
  induction a with
  | nil => rfl
  | cons x a ih => have e : keeps (x :: a) = [⟨32, x⟩] ++ keeps a := rfl
                   rw [e, Dn.newOf_append, ih]; rfl
theorem cO_keeps (a : List ByteArray) : cO (keeps a) = a.length := by unfold cO; rw [oldOf_keeps]
theorem cN_keeps (a : List ByteArray) : cN (keeps a) = a.length := by unfold cN; rw [newOf_keeps]

theorem nearU_one {L : List StepB} {c t j : Nat} (hc : c < L.length) (h1 : L[c].kind ≠ 32) (h2 : ∀ i (h : i < L.length), L[i].kind ≠ 32 → i = c) : nearU L t L.length j = decide (c ≤ j + t ∧ j ≤ c + t) := by
  unfold nearU
  rw [List.take_length]
  by_cases hd : c ≤ j + t ∧ j ≤ c + t
  · rw [decide_eq_true hd, List.any_eq_true]
    refine ⟨(L[c], c), ?_, by simp [h1, hd.1, hd.2]⟩
    rw [List.mem_zipIdx_iff_getElem?]
    simp [hc]
  · rw [decide_eq_false hd, List.any_eq_false]
    rintro ⟨s, i⟩ hs
    rw [List.mem_zipIdx_iff_getElem?] at hs
    obtain ⟨hi, e⟩ := List.getElem?_eq_some_iff.1 hs
    simp only at e hi
    by_cases hk : s.kind = 32
    · simp [hk]
    · have := h2 i hi (by rw [e]; exact hk)
      subst this
      simp only [Bool.and_eq_true, decide_eq_true_eq, not_and]
      rintro ⟨_, h3⟩ h4
      exact hd ⟨h3, h4⟩
/-- a way with one change has one hunk: the change and two keeps at each side, where there are two -/
theorem hunks_one {P K1 K2 S : List ByteArray} {ch : StepB} (hch : ch.kind ≠ 32) (h1 : K1.length = 2 ∨ (K1.length ≤ 2 ∧ P = [])) (h2 : K2.length = 2 ∨ (K2.length ≤ 2 ∧ S = [])) :
    hunksM (keeps (P ++ K1) ++ ch :: keeps (K2 ++ S)) 2 = [numL (mkH P.length P.length (keeps K1 ++ ch :: keeps K2))] := by
  generalize hL : keeps (P ++ K1) ++ ch :: keeps (K2 ++ S) = L
  have hlen : L.length = P.length + K1.length + 1 + K2.length + S.length := by rw [← hL]; simp [keeps]; omega
  have hcl : P.length + K1.length < L.length := by omega
  have hLc : L[P.length + K1.length] = ch := by
    subst hL
    rw [List.getElem_append_right (by rw [keeps_length]; simp)]
    simp [keeps]
  have hLo : ∀ i (h : i < L.length), L[i].kind ≠ 32 → i = P.length + K1.length := by
    intro i hi hk
    by_cases e : i = P.length + K1.length
    · exact e
    · exfalso
      apply hk
      subst hL
      by_cases e2 : i < P.length + K1.length
      · rw [List.getElem_append_left (by rw [keeps_length]; simpa using e2)]
        exact keeps_kind (List.getElem_mem _)
      · rw [List.getElem_append_right (by rw [keeps_length]; simp; omega)]
        obtain ⟨t, ht⟩ : ∃ t, i - (keeps (P ++ K1)).length = t + 1 := ⟨i - (P.length + K1.length) - 1, by rw [keeps_length, List.length_append]; omega⟩
        simp only [ht, List.getElem_cons_succ]
        exact keeps_kind (List.getElem_mem _)
  have hnear : ∀ j, j < L.length → (nearB L 2).getD j false = decide (P.length + K1.length ≤ j + 2 ∧ j ≤ P.length + K1.length + 2) := by
    intro j hj
    have e : (nearB L 2).getD j false = nearU L 2 L.length j := by simp [nearB, List.getD, hj]
    rw [e, nearU_one hcl (by rw [hLc]; exact hch) hLo]
  have ha : ∀ j, j < P.length → (nearB L 2).getD j false = false := by
    intro j hj
    rw [hnear j (by omega)]
    have : P ≠ [] := by intro e; rw [e] at hj; simp at hj
    have hK : K1.length = 2 := by rcases h1 with h1 | h1
                                  · exact h1
                                  · exact absurd h1.2 this
    simp
    omega
  have hb : ∀ j, P.length ≤ j → j < P.length + K1.length + 1 + K2.length → (nearB L 2).getD j false = true := by
    intro j hj hj2
    rw [hnear j (by omega)]
    simp
    omega
  have hc : ∀ j, P.length + K1.length + 1 + K2.length ≤ j → j < L.length → (nearB L 2).getD j false = false := by
    intro j hj hj2
    rw [hnear j hj2]
    have : S ≠ [] := by intro e; rw [e] at hlen; simp at hlen; omega
    have hK : K2.length = 2 := by rcases h2 with h2 | h2
                                  · exact h2
                                  · exact absurd h2.2 this
    simp
    omega
  have q1 := foldH_quiet (L := L) (nb := nearB L 2) (i := 0) P.length (Nat.zero_le _) (by omega) (fun j _ h => ha j h)
  have q2 := foldH_run (L := L) (nb := nearB L 2) (i := P.length) (by
    by_cases e : P.length = 0
    · exact .inl e
    · exact .inr (ha _ (by omega))) (P.length + K1.length + 1 + K2.length) (by omega) (by omega) hb
  have q3 := foldH_quiet (L := L) (nb := nearB L 2) (i := P.length + K1.length + 1 + K2.length) L.length (by omega) (Nat.le_refl _) hc
  have t1 : L.take P.length = keeps P := by
    subst hL
    rw [keeps_append, List.append_assoc, List.take_append_of_le_length (by rw [keeps_length]; exact Nat.le_refl _), ← keeps_length P, List.take_length]
  have t2 : (L.take (P.length + K1.length + 1 + K2.length)).drop P.length = keeps K1 ++ ch :: keeps K2 := by
    have e : L = keeps P ++ ((keeps K1 ++ ch :: keeps K2) ++ keeps S) := by rw [← hL]; simp [keeps]
    have e2 : P.length + K1.length + 1 + K2.length = (keeps P).length + (keeps K1 ++ ch :: keeps K2).length := by simp [keeps]; omega
    rw [e2, e, List.take_length_add_append, List.take_append_of_le_length (Nat.le_refl _), List.take_length]
    conv => lhs; rw [show P.length = (keeps P).length from (keeps_length P).symm]
    rw [List.drop_left']
    rfl
  unfold hunksM
  rw [q3, q2, q1, t1, t2, cO_keeps, cN_keeps]
  rfl
end Go.Proofs.YtcclgodahlinbaaDoor

namespace Go.Proofs.YtcclgodahlinbaaDoor
open Go.RowKit Go
set_option maxRecDepth 100000

theorem pieceO_zero (L : List StepB) : pieceO L 0 = Dn.oldOf L := by unfold pieceO; simp
theorem pieceF_zero (L : List StepB) : pieceF L 0 = Dn.newOf L := by unfold pieceF; simp
theorem sewRounds_zero (h : HunkM) : sewRounds h 0 = 1 := by unfold sewRounds; simp
/-- one hunk sewn in with no fuzz -/
theorem apply_one {T : List ByteArray} {h : HunkM} {x : Nat} (hx : sewAt T 0 0 h 0 = some (x : Int)) :
    applyL T 0 [h] = textL (T.take x) ++ textL (Dn.newOf h.lines) ++ textL (T.drop (x + (Dn.oldOf h.lines).length)) ∧ applyS T 0 [h] = [⟨true, (x : Int) - (placeM h.fr h.fc : Nat), 0⟩] := by
  have e : sewM T ⟨[], 0, 0⟩ h 0 = (sewTo T ⟨[], 0, 0⟩ h 0 x, ⟨true, (x : Int) - (placeM h.fr h.fc : Nat), 0⟩) := by
    unfold sewM sewFind
    rw [sewRounds_zero]
    unfold sewFrom
    simp only [hx]
  have e2 : applyK T 0 [h] [h].length = (sewTo T ⟨[], 0, 0⟩ h 0 x, [⟨true, (x : Int) - (placeM h.fr h.fc : Nat), 0⟩]) := by
    unfold applyK applyFrom
    simp only [List.take_length, e]
    rfl
  unfold applyL applyS
  rw [e2]
  unfold sewTo
  rw [pieceF_zero, pieceO_zero]
  simp
theorem stand_yes {P O Q : List ByteArray} : standM (P ++ O ++ Q) 0 O (P.length : Int) = true := by
  unfold standM
  rw [decide_eq_true_eq]
  refine ⟨by omega, by simp; omega, ?_⟩
  simp
theorem stand_no {P O Q : List ByteArray} {l o : ByteArray} (h : l ≠ o) : standM (P ++ l :: (o :: O ++ Q)) 0 (o :: O) (P.length : Int) = false := by
  unfold standM
  rw [decide_eq_false_iff_not]
  rintro ⟨_, _, h3⟩
  simp at h3
  exact h h3.1
theorem sew_here {T P O Q : List ByteArray} {h : HunkM} (hT : T = P ++ O ++ Q) (hO : Dn.oldOf h.lines = O) (hp : placeM h.fr h.fc = P.length) : sewAt T 0 0 h 0 = some (P.length : Int) := by
  unfold sewAt
  obtain ⟨r, hr⟩ := aroundL_prefix (((placeM h.fr h.fc : Nat) : Int) + 0) (Nat.zero_le T.length)
  rw [← hr]
  have e : aroundL (((placeM h.fr h.fc : Nat) : Int) + 0) 0 = [(P.length : Int)] := by unfold aroundL; rw [hp]; simp
  rw [e, List.singleton_append, List.find?_cons_of_pos]
  rw [pieceO_zero, hO, hT]
  simpa using stand_yes (P := P) (O := O) (Q := Q)
theorem sew_next {T P O Q : List ByteArray} {l o : ByteArray} {h : HunkM} (hT : T = P ++ l :: (o :: O ++ Q)) (hO : Dn.oldOf h.lines = o :: O) (hp : placeM h.fr h.fc = P.length) (hne : l ≠ o) : sewAt T 0 0 h 0 = some ((P.length + 1 : Nat) : Int) := by
  unfold sewAt
  have h1 : 1 ≤ T.length := by rw [hT]; simp; omega
  obtain ⟨r, hr⟩ := aroundL_prefix (((placeM h.fr h.fc : Nat) : Int) + 0) h1
  rw [← hr]
  have e : aroundL (((placeM h.fr h.fc : Nat) : Int) + 0) 1 = [(P.length : Int), ((P.length + 1 : Nat) : Int), (P.length : Int) - 1] := by
    unfold aroundL aroundL
    rw [hp]
    simp
  rw [e, List.cons_append, List.find?_cons_of_neg, List.cons_append, List.find?_cons_of_pos]
  · rw [pieceO_zero, hO, hT]
    have := stand_yes (P := P ++ [l]) (O := o :: O) (Q := Q)
    simpa using this
  · rw [pieceO_zero, hO, hT]
    have := stand_no (P := P) (O := O) (Q := Q) hne
    simpa using this

theorem indexByte_none : ∀ (l : List UInt8), (10 : UInt8) ∉ l → Lib.indexByte l 10 = -1
  | [], _ => rfl
  | b :: l, h => by
    have hb : b ≠ 10 := by intro e; exact h (by simp [e])
    have ih := indexByte_none l (fun e => h (List.mem_cons_of_mem _ e))
    rw [Lib.indexByte, ih]
    simp [hb]
theorem matchM_of : ∀ (L : List StepB) (b : Bool), (∀ s ∈ L, (s.kind = 32 ∨ s.kind = 45 ∨ s.kind = 43) ∧ (10 : UInt8) ∉ s.text.data.toList) → (b = true ∨ ∃ s ∈ L, s.kind ≠ 32) → matchM (cO L) (cN L) b L = true
  | [], b, _, h => by
    have hb : b = true := by simpa using h
    subst hb
    rfl
  | s :: L, b, hs, h => by
    obtain ⟨hk, ht⟩ := hs s (by simp)
    have e1 : cO (s :: L) = kf s.kind + cO L := by
      have : s :: L = [s] ++ L := rfl
      rw [this, cO_append, cO_one]; rfl
    have e2 : cN (s :: L) = kt s.kind + cN L := by
      have : s :: L = [s] ++ L := rfl
      rw [this, cN_append, cN_one]; rfl
    unfold matchM
    rw [e1, e2, Nat.add_sub_cancel_left, Nat.add_sub_cancel_left, indexByte_none _ ht]
    rw [matchM_of L _ (fun x hx => hs x (List.mem_cons_of_mem _ hx)) (by
      rcases h with h | ⟨x, hx, hxk⟩
      · left; rw [h]; rfl
      · rcases List.mem_cons.1 hx with rfl | hx
        · left; simp [hxk]
        · right; exact ⟨x, hx, hxk⟩)]
    simp
    exact hk

/-- a hunk of few plain lines with one change, at a place -/
theorem one_right {p : Nat} {A B : List ByteArray} {ch : StepB} (hk : ch.kind = 45 ∨ ch.kind = 43) (hA : Plain A) (hB : Plain B) (ht : (10 : UInt8) ∉ ch.text.data.toList) (hp : p ≤ 1000) (hlA : A.length ≤ 2) (hlB : B.length ≤ 2) (hpos : 0 < A.length + B.length)
    (hs : ∀ s ∈ A ++ [ch.text] ++ B, s.size ≤ 7) :
    rightM 0 0 [numL (mkH p p (keeps A ++ ch :: keeps B))] = true ∧ [numL (mkH p p (keeps A ++ ch :: keeps B))].all hunkOkB = true ∧ placeM (numL (mkH p p (keeps A ++ ch :: keeps B))).fr (numL (mkH p p (keeps A ++ ch :: keeps B))).fc = p := by
  have e0 : keeps A ++ ch :: keeps B = keeps A ++ [ch] ++ keeps B := by simp
  have eO : cO (keeps A ++ ch :: keeps B) = A.length + (if ch.kind = 43 then 0 else 1) + B.length := by rw [e0, cO_append, cO_append, cO_keeps, cO_keeps, cO_one]
  have eN : cN (keeps A ++ ch :: keeps B) = A.length + (if ch.kind = 45 then 0 else 1) + B.length := by rw [e0, cN_append, cN_append, cN_keeps, cN_keeps, cN_one]
  have hlen : (keeps A ++ ch :: keeps B).length ≤ 5 := by simp [keeps]; omega
  have hmem : ∀ s ∈ keeps A ++ ch :: keeps B, (s.kind = 32 ∨ s.kind = 45 ∨ s.kind = 43) ∧ (10 : UInt8) ∉ s.text.data.toList := by
    intro s hs
    rw [e0] at hs
    simp only [List.mem_append, List.mem_singleton] at hs
    rcases hs with (hs | hs) | hs
    · obtain ⟨a, ha, rfl⟩ := List.mem_map.1 hs
      exact ⟨.inl rfl, hA a ha⟩
    · subst hs
      exact ⟨.inr hk, ht⟩
    · obtain ⟨a, ha, rfl⟩ := List.mem_map.1 hs
      exact ⟨.inl rfl, hB a ha⟩
  have hm := matchM_of (keeps A ++ ch :: keeps B) false hmem (.inr ⟨ch, by simp, by omega⟩)
  have hx : (textL (Dn.newOf (keeps A ++ ch :: keeps B))).length ≤ 10000 := by
    have h1 := textL_bound (Dn.newOf (keeps A ++ ch :: keeps B)) 7 (by
      intro s hs'
      apply hs
      have e1 : Dn.newOf (keeps A ++ ch :: keeps B) = A ++ Dn.newOf [ch] ++ B := by rw [e0, Dn.newOf_append, Dn.newOf_append, newOf_keeps, newOf_keeps]
      rw [e1] at hs'
      simp only [List.mem_append] at hs' ⊢
      rcases hs' with (h | h) | h
      · exact .inl (.inl h)
      · left; right
        obtain ⟨x, hx, rfl⟩ := List.mem_map.1 h
        have := (List.mem_filter.1 hx).1
        simp at this
        simp [this]
      · exact .inr h)
    have h2 : (Dn.newOf (keeps A ++ ch :: keeps B)).length ≤ 5 := by
      have : (Dn.newOf (keeps A ++ ch :: keeps B)).length = cN (keeps A ++ ch :: keeps B) := rfl
      rw [this, eN]
      split <;> omega
    have := Nat.mul_le_mul_right 8 h2
    omega
  generalize keeps A ++ ch :: keeps B = M at *
  have hO : 0 < cO M := by rw [eO]; split <;> omega
  have hN : 0 < cN M := by rw [eN]; split <;> omega
  have hO2 : cO M ≤ 5 := by rw [eO]; split <;> omega
  have hN2 : cN M ≤ 5 := by rw [eN]; split <;> omega
  have eh : numL (mkH p p M) = ⟨p + 1, cO M, p + 1, cN M, M⟩ := by
    unfold numL mkH
    simp only
    rw [if_neg (by omega), if_neg (by omega)]
  rw [eh]
  refine ⟨?_, ?_, ?_⟩
  · unfold rightM rightM fitsM placeM
    simp only [hm, Bool.and_true, Bool.and_eq_true, decide_eq_true_eq]
    rw [if_neg (by omega), if_neg (by omega)]
    simp
    omega
  · simp only [List.all_cons, List.all_nil, Bool.and_true]
    unfold hunkOkB
    simp only [Bool.and_eq_true, decide_eq_true_eq, List.all_eq_true, Bool.or_eq_true, beq_iff_eq]
    refine ⟨⟨⟨⟨fun x hx' => ?_, by omega⟩, by omega⟩, by omega⟩, hx⟩
    have := (hmem x hx').1
    omega
  · unfold placeM
    simp only
    rw [if_neg (by omega)]
    omega
end Go.Proofs.YtcclgodahlinbaaDoor

namespace Go.Proofs.YtcclgodahlinbaaDoor
open Go.RowKit Go
set_option maxRecDepth 100000

def moreB : ByteArray := ⟨#[109, 111, 114, 101]⟩
def apartY (x : List ByteArray) (low : Nat) : List ByteArray := x.take low ++ moreB :: x.drop low
def apartZ (x : List ByteArray) (high : Nat) : List ByteArray := x.take high ++ x.drop (high + 1)
theorem cut_at {α : Type} (x : List α) (k : Nat) (h : k ≤ x.length) : ∃ A B, x = A ++ B ∧ A.length = k := ⟨x.take k, x.drop k, (List.take_append_drop k x).symm, by rw [List.length_take]; omega⟩
/-- everything of Apart that is asked of the two patches -/
structure ApartFacts (x : List ByteArray) (low high : Nat) (p q : HunkM) : Prop where
  dp : hunksM (Dn.wayM x (apartY x low)) 2 = [p]
  dq : hunksM (Dn.wayM x (apartZ x high)) 2 = [q]
  rp : rightM 0 0 [p] = true
  rq : rightM 0 0 [q] = true
  kp : [p].all hunkOkB = true
  kq : [q].all hunkOkB = true
  sq : applyS (apartY x low) 0 [q] = [⟨true, 1, 0⟩]
  sp : applyS (apartZ x high) 0 [p] = [⟨true, 0, 0⟩]
  tt : applyT (apartY x low) 0 [q] = applyT (apartZ x high) 0 [p]
theorem apart_facts {x : List ByteArray} {low high : Nat} (hn : x.Nodup) (hm : moreB ∉ x) (hp : Plain x) (hs : ∀ s ∈ x, s.size ≤ 7) (hl : x.length ≤ 1000) (h1 : low + 9 ≤ high) (h2 : high < x.length) : ∃ p q, ApartFacts x low high p q := by
  obtain ⟨A, B, hx, hA⟩ := cut_at x low (by omega)
  obtain ⟨P, K1, hPK, hP⟩ := cut_at A (low - 2) (by omega)
  have hlx : x.length = A.length + B.length := by rw [hx, List.length_append]
  obtain ⟨B1, B2, hB, hB1⟩ := cut_at B (high - low) (by omega)
  have hlB : B.length = B1.length + B2.length := by rw [hB, List.length_append]
  obtain ⟨K2, B3, hB1e, hK2⟩ := cut_at B1 2 (by omega)
  have hlB1 : B1.length = K2.length + B3.length := by rw [hB1e, List.length_append]
  obtain ⟨R, E1, hB3, hR⟩ := cut_at B3 (high - low - 4) (by omega)
  have hlB3 : B3.length = R.length + E1.length := by rw [hB3, List.length_append]
  have hlA : A.length = P.length + K1.length := by rw [hPK, List.length_append]
  cases B2 with
  | nil => simp at hlB; omega
  | cons h B4 =>
  obtain ⟨E2, S, hB4, hE2⟩ := cut_at B4 (min 2 B4.length) (by omega)
  have hlB4 : B4.length = E2.length + S.length := by rw [hB4, List.length_append]
  subst hB4 hB3
  subst hB1e
  subst hB
  subst hPK
  have ey : apartY x low = P ++ K1 ++ moreB :: (K2 ++ (R ++ E1) ++ h :: (E2 ++ S)) := by
    unfold apartY
    rw [hx, List.take_left' hA, List.drop_left' hA]
  have ez : apartZ x high = P ++ K1 ++ (K2 ++ (R ++ E1)) ++ (E2 ++ S) := by
    have e : x = (P ++ K1 ++ (K2 ++ (R ++ E1)) ++ [h]) ++ (E2 ++ S) := by rw [hx]; simp
    have e2 : x = (P ++ K1 ++ (K2 ++ (R ++ E1))) ++ ([h] ++ (E2 ++ S)) := by rw [hx]; simp
    unfold apartZ
    conv => lhs; rw [show List.drop (high + 1) x = List.drop (high + 1) ((P ++ K1 ++ (K2 ++ (R ++ E1)) ++ [h]) ++ (E2 ++ S)) by rw [← e]]
    rw [List.drop_left' (by simp at *; omega)]
    conv => lhs; rw [show List.take high x = List.take high ((P ++ K1 ++ (K2 ++ (R ++ E1))) ++ ([h] ++ (E2 ++ S))) by rw [← e2]]
    rw [List.take_left' (by simp at *; omega)]
  have hK1 : K1.length = 2 ∨ (K1.length ≤ 2 ∧ P = []) := by
    by_cases e : 2 ≤ low
    · left; omega
    · right
      exact ⟨by omega, List.eq_nil_of_length_eq_zero (by omega)⟩
  have hE2' : E2.length = 2 ∨ (E2.length ≤ 2 ∧ S = []) := by
    by_cases e : 2 ≤ E2.length + S.length
    · left; omega
    · right
      exact ⟨by omega, List.eq_nil_of_length_eq_zero (by omega)⟩
  have hE1 : E1.length = 2 := by omega
  -- the two ways
  have hmB : moreB ∉ K2 ++ (R ++ E1) ++ h :: (E2 ++ S) := fun e => hm (by rw [hx]; exact List.mem_append_right _ e)
  have hnB : (K2 ++ (R ++ E1) ++ h :: (E2 ++ S)).Nodup := by rw [hx] at hn; exact (List.nodup_append.1 hn).2.1
  have hnh : h ∉ E2 ++ S := by
    have := (List.nodup_append.1 hnB).2.1
    exact (List.nodup_cons.1 this).1
  have wp : Dn.wayM x (apartY x low) = keeps (P ++ K1) ++ ⟨43, moreB⟩ :: keeps (K2 ++ ((R ++ E1) ++ h :: (E2 ++ S))) := by
    rw [Dn.wayM_spec, ey, hx, spec_keeps, spec_more hmB hnB]
    simp [keeps]
  have wq : Dn.wayM x (apartZ x high) = keeps ((P ++ K1 ++ K2 ++ R) ++ E1) ++ ⟨45, h⟩ :: keeps (E2 ++ S) := by
    have e1 : x = (P ++ K1 ++ (K2 ++ (R ++ E1))) ++ h :: (E2 ++ S) := by rw [hx]; simp
    rw [Dn.wayM_spec, ez]
    conv => lhs; rw [e1]
    rw [spec_keeps, spec_less hnh]
    simp [keeps]
  have dp := wp ▸ hunks_one (P := P) (K1 := K1) (K2 := K2) (S := (R ++ E1) ++ h :: (E2 ++ S)) (ch := ⟨43, moreB⟩) (by decide) hK1 (.inl hK2)
  have dq := wq ▸ hunks_one (P := P ++ K1 ++ K2 ++ R) (K1 := E1) (K2 := E2) (S := S) (ch := ⟨45, h⟩) (by simp) (.inl hE1) hE2'
  have hin : ∀ s, s ∈ P ∨ s ∈ K1 ∨ s ∈ K2 ∨ s ∈ R ∨ s ∈ E1 ∨ s = h ∨ s ∈ E2 ∨ s ∈ S → s ∈ x := by
    intro s hs'
    rw [hx]
    simp only [List.mem_append, List.mem_cons]
    rcases hs' with h | h | h | h | h | h | h | h <;> simp [h]
  have hmore : (10 : UInt8) ∉ moreB.data.toList := by decide
  obtain ⟨rp, kp, pp⟩ := one_right (p := P.length) (A := K1) (B := K2) (ch := ⟨43, moreB⟩) (.inr rfl) (fun s hs' => hp s (hin s (by simp [hs']))) (fun s hs' => hp s (hin s (by simp [hs']))) hmore (by omega) (by omega) (by omega) (by omega) (by
    intro s hs'
    simp only [List.mem_append, List.mem_singleton] at hs'
    rcases hs' with (h | h) | h
    · exact hs s (hin s (by simp [h]))
    · rw [h]; decide
    · exact hs s (hin s (by simp [h])))
  obtain ⟨rq, kq, pq⟩ := one_right (p := (P ++ K1 ++ K2 ++ R).length) (A := E1) (B := E2) (ch := ⟨45, h⟩) (.inl rfl) (fun s hs' => hp s (hin s (by simp [hs']))) (fun s hs' => hp s (hin s (by simp [hs']))) (hp h (hin h (by simp))) (by simp; omega) (by omega) (by omega) (by omega) (by
    intro s hs'
    simp only [List.mem_append, List.mem_singleton] at hs'
    rcases hs' with (h | h) | h
    · exact hs s (hin s (by simp [h]))
    · exact hs s (hin s (by simp [h]))
    · exact hs s (hin s (by simp [h])))
  generalize hhp : numL (mkH P.length P.length (keeps K1 ++ ⟨43, moreB⟩ :: keeps K2)) = p at dp rp kp pp
  generalize hhq : numL (mkH (P ++ K1 ++ K2 ++ R).length (P ++ K1 ++ K2 ++ R).length (keeps E1 ++ ⟨45, h⟩ :: keeps E2)) = q at dq rq kq pq
  have lp : p.lines = keeps K1 ++ ⟨43, moreB⟩ :: keeps K2 := by rw [← hhp]; rfl
  have lq : q.lines = keeps E1 ++ ⟨45, h⟩ :: keeps E2 := by rw [← hhq]; rfl
  have op : Dn.oldOf p.lines = K1 ++ K2 := by
    rw [lp, show keeps K1 ++ (⟨43, moreB⟩ : StepB) :: keeps K2 = keeps K1 ++ [⟨43, moreB⟩] ++ keeps K2 by simp, Dn.oldOf_append, Dn.oldOf_append, oldOf_keeps, oldOf_keeps]
    simp [Dn.oldOf]
  have np : Dn.newOf p.lines = K1 ++ [moreB] ++ K2 := by
    rw [lp, show keeps K1 ++ (⟨43, moreB⟩ : StepB) :: keeps K2 = keeps K1 ++ [⟨43, moreB⟩] ++ keeps K2 by simp, Dn.newOf_append, Dn.newOf_append, newOf_keeps, newOf_keeps]
    simp [Dn.newOf]
  have oq : Dn.oldOf q.lines = E1 ++ [h] ++ E2 := by
    rw [lq, show keeps E1 ++ (⟨45, h⟩ : StepB) :: keeps E2 = keeps E1 ++ [⟨45, h⟩] ++ keeps E2 by simp, Dn.oldOf_append, Dn.oldOf_append, oldOf_keeps, oldOf_keeps]
    rfl
  have nq : Dn.newOf q.lines = E1 ++ E2 := by
    rw [lq, show keeps E1 ++ (⟨45, h⟩ : StepB) :: keeps E2 = keeps E1 ++ [⟨45, h⟩] ++ keeps E2 by simp, Dn.newOf_append, Dn.newOf_append, newOf_keeps, newOf_keeps]
    simp [Dn.newOf]
  -- p into z
  obtain ⟨ap1, ap2⟩ := apply_one (sew_here (T := apartZ x high) (P := P) (O := K1 ++ K2) (Q := R ++ E1 ++ (E2 ++ S)) (by rw [ez]; simp) op pp)
  -- q into y: the line at its own place is another one
  obtain ⟨F, l, hF⟩ : ∃ F l, K2 ++ R = F ++ [l] := ⟨(K2 ++ R).dropLast, (K2 ++ R).getLast (by intro e; simp at e; rw [e.1] at hK2; simp at hK2), (List.dropLast_concat_getLast _).symm⟩
  cases E1 with
  | nil => simp at hE1
  | cons o1 E1' =>
  have hlo : l ≠ o1 := by
    intro e
    have e1 : K2 ++ (R ++ o1 :: E1') ++ h :: (E2 ++ S) = (K2 ++ R) ++ (o1 :: E1' ++ h :: (E2 ++ S)) := by simp
    rw [e1] at hnB
    exact (List.nodup_append.1 hnB).2.2 l (by rw [hF]; simp) o1 (by simp) e
  have hFl : F.length + 1 = K2.length + R.length := by have := congrArg List.length hF; simpa using this.symm
  have hsn := sew_next (T := apartY x low) (P := P ++ K1 ++ moreB :: F) (O := E1' ++ [h] ++ E2) (Q := S) (l := l) (o := o1) (h := q) (by
    rw [ey]
    have e1 : K2 ++ (R ++ o1 :: E1') ++ h :: (E2 ++ S) = (K2 ++ R) ++ (o1 :: E1' ++ h :: (E2 ++ S)) := by simp
    rw [e1, hF]
    simp) (by rw [oq]; simp) (by rw [pq]; simp; omega) hlo
  obtain ⟨aq1, aq2⟩ := apply_one hsn
  refine ⟨p, q, dp, dq, rp, rq, kp, kq, ?_, ?_, ?_⟩
  · rw [aq2, pq]
    simp
    omega
  · rw [ap2, pp]
    simp
  · have et : applyL (apartY x low) 0 [q] = applyL (apartZ x high) 0 [p] := by
      rw [ap1, aq1, np, nq, op, oq, ey, ez]
      have c1 : (P ++ K1 ++ moreB :: (K2 ++ (R ++ o1 :: E1') ++ h :: (E2 ++ S))).take ((P ++ K1 ++ moreB :: F).length + 1) = P ++ K1 ++ moreB :: (K2 ++ R) := by
        have e1 : P ++ K1 ++ moreB :: (K2 ++ (R ++ o1 :: E1') ++ h :: (E2 ++ S)) = (P ++ K1 ++ moreB :: (K2 ++ R)) ++ (o1 :: E1' ++ h :: (E2 ++ S)) := by simp
        rw [e1, List.take_left' (by simp; omega)]
      have c2 : (P ++ K1 ++ moreB :: (K2 ++ (R ++ o1 :: E1') ++ h :: (E2 ++ S))).drop ((P ++ K1 ++ moreB :: F).length + 1 + (o1 :: E1' ++ [h] ++ E2).length) = S := by
        have e1 : P ++ K1 ++ moreB :: (K2 ++ (R ++ o1 :: E1') ++ h :: (E2 ++ S)) = (P ++ K1 ++ moreB :: (K2 ++ R) ++ (o1 :: E1' ++ [h] ++ E2)) ++ S := by simp
        rw [e1, List.drop_left' (by simp; omega)]
      have c3 : (P ++ K1 ++ (K2 ++ (R ++ o1 :: E1')) ++ (E2 ++ S)).take P.length = P := by
        have e1 : P ++ K1 ++ (K2 ++ (R ++ o1 :: E1')) ++ (E2 ++ S) = P ++ (K1 ++ (K2 ++ (R ++ o1 :: E1')) ++ (E2 ++ S)) := by simp
        rw [e1, List.take_left' rfl]
      have c4 : (P ++ K1 ++ (K2 ++ (R ++ o1 :: E1')) ++ (E2 ++ S)).drop (P.length + (K1 ++ K2).length) = R ++ o1 :: E1' ++ (E2 ++ S) := by
        have e1 : P ++ K1 ++ (K2 ++ (R ++ o1 :: E1')) ++ (E2 ++ S) = (P ++ (K1 ++ K2)) ++ (R ++ o1 :: E1' ++ (E2 ++ S)) := by simp
        rw [e1, List.drop_left' (by simp)]
      rw [c1, c2, c3, c4]
      simp only [← textL_append]
      congr 1
      simp
    unfold applyL at et
    unfold applyT
    rw [et]
end Go.Proofs.YtcclgodahlinbaaDoor

namespace Go.Proofs.YtcclgodahlinbaaDoor
open Go.RowKit Go
set_option maxRecDepth 100000

/-- a row of strings in a block of its own -/
def RowN (base : Nat) (w : World) (g cap n : Nat) (L : List ByteArray) : Prop := L.length = n ∧ w.ownsRow base 9 1 (.slice (some ⟨g, 0, none⟩) n cap) n (strCells L)
theorem strCells_set (L : List ByteArray) (j : Nat) (s : ByteArray) : (strCells L).set j (.string s) = strCells (L.set j s) := by unfold strCells; rw [List.map_set]
theorem strCells_one (L : List ByteArray) : ∀ u ∈ strCells L, u.oneCell' = true := by
  intro u hu
  obtain ⟨s, _, rfl⟩ := List.mem_map.1 hu
  rfl
theorem strCells_length (L : List ByteArray) : (strCells L).length = L.length := by simp [strCells]
theorem RowN.rowS {base : Nat} {w : World} {g cap n : Nat} {L : List ByteArray} (h : RowN base w g cap n L) : RowS w (.slice (some ⟨g, 0, none⟩) n cap) L := by
  obtain ⟨rfl, h⟩ := h
  exact RowS.of_owns h
theorem RowN.cell {base : Nat} {w : World} {g cap n : Nat} {L : List ByteArray} (h : RowN base w g cap n L) {j : Nat} (hj : j < n) : w.cell? ⟨g, j, none⟩ = some (.string (L.getD j ByteArray.empty)) := by
  rw [h.2.cellAt j (by omega)]
  have := h.1
  simp [strCells, List.getD, show j < L.length by omega]
theorem RowN.frozen {base : Nat} {w : World} {g cap n : Nat} {L : List ByteArray} (h : RowN base w g cap n L) (j : Nat) : w.frozen? ⟨g, j, none⟩ = false := h.2.frozenAt j
theorem RowN.store {base : Nat} {w : World} {g cap n : Nat} {L : List ByteArray} (h : RowN base w g cap n L) (j : Nat) (s : ByteArray) : RowN base (w.setCell ⟨g, j, none⟩ (.string s)) g cap n (L.set j s) :=
  ⟨by rw [List.length_set]; exact h.1, by rw [← strCells_set]; exact (h.2.stored j (.string s)).1⟩
theorem RowN.lt {base : Nat} {w : World} {g cap n : Nat} {L : List ByteArray} (h : RowN base w g cap n L) : base ≤ g ∧ g < w.heap.size := h.2.lt g rfl
theorem RowN.below {base B : Nat} {w w' : World} {g cap n : Nat} {L : List ByteArray} (h : RowN base w g cap n L) (hb : Below B w w') (hg : g < B) : RowN base w' g cap n L := by
  refine ⟨h.1, h.2.1, ?_⟩
  rcases h.2.2 with ⟨e, _⟩ | ⟨g', cap', cur, e, h1, h2, h3⟩
  · cases e
  · cases e
    exact .inr ⟨g, cap, cur, rfl, h1, (hb.block g hg).trans h2, h3⟩
theorem RowN.alloc {base : Nat} {w : World} {g cap n : Nat} {L : List ByteArray} (h : RowN base w g cap n L) (ob : Obj) : RowN base (w.alloc ob) g cap n L := ⟨h.1, h.2.alloc ob⟩
/-- a store into another block -/
theorem RowN.other {base : Nat} {w : World} {g cap n : Nat} {L : List ByteArray} (h : RowN base w g cap n L) {a : Addr} (hne : a.block ≠ g) (u : Value) : RowN base (w.setCell a u) g cap n L := by
  refine ⟨h.1, h.2.1, ?_⟩
  rcases h.2.2 with ⟨e, _⟩ | ⟨g', cap', cur, e, h1, h2, h3⟩
  · cases e
  · cases e
    exact .inr ⟨g, cap, cur, rfl, h1, (Below.heap_setCell w a u g (fun e => hne e.symm)).trans h2, h3⟩
theorem textN_any {base : Nat} {w : World} {g cap n : Nat} {L : List ByteArray} (h : RowN base w g cap n L) (hl : (textL L).length ≤ 100000) :
    Calls Tryd.prog 15 #[.slice (some ⟨g, 0, none⟩) n cap] w fun e w' => e = .returned (.string (textB L)) ∧ w = w' := by
  obtain ⟨rfl, h⟩ := h
  exact ktext_any (RowS.of_owns h) hl

/-- append(nil, x...) -/
theorem wpList_copyN {ops : Array Oper} {rest : List Oper} {o : Oper} {a : Act} {w : World} {Q : Exit → Act → World → Prop} (hgd : o.guard = none) (s x : Operand)
    (ho : o.op = .call { callee := .builtin .append, args := #[s, x], argTypes := #[31, 31] }) (hs : a.eval s = .slice none 0 0)
    {base gx cx n : Nat} {L : List ByteArray} (hx : a.eval x = .slice (some ⟨gx, 0, none⟩) n cx) (hX : RowN base w gx cx n L) (hp : 0 < n) (hn : n ≤ 1000)
    (h : ∀ gy cy w', w.heap.size ≤ gy → gy < w'.heap.size → RowN w.heap.size w' gy cy n L → Below w.heap.size w w' → wpList Tryd.prog ops Q rest (a.put o.dst (.slice (some ⟨gy, 0, none⟩) n cy)) w') : wpList Tryd.prog ops Q (o :: rest) a w := by
  obtain ⟨i0, hi, hz0, hz1, hz2⟩ := info_parts info_str
  refine wpList_append_own2 hgd s x 31 ho w.heap.size 9 i0 _ 1 16 Tryd.underlying31 hi hz0 hz1 hz2 rfl (by decide) (.slice none 0 0) 0 [] hs (World.ownsRow_nil _ _ _ _) ⟨gx, 0, none⟩ n cx (strCells L) hx
    (by rw [strCells_length, hX.1]; omega) (hX.2.cells rfl) (strCells_one L) (by unfold maxLen; omega) (by omega) (Nat.le_refl _) ?_
  intro v' w' hown hgr hnew
  rw [Nat.zero_add, List.nil_append] at hown
  obtain ⟨gy, cy, rfl, h1, h2, _⟩ := owns_slice hown hp
  exact h gy cy w' h1 h2 ⟨hX.1, hown⟩ ⟨hgr.os, hgr.tape, hgr.output, hgr.size, fun k hk => hgr.block k hk (by simp [Value.ownBlock])⟩
end Go.Proofs.YtcclgodahlinbaaDoor

namespace Go.Proofs.YtcclgodahlinbaaDoor
open Go.RowKit Go
set_option maxRecDepth 100000

/-- a piece of a row, as it is read -/
theorem RowN.piece {base : Nat} {w : World} {g cap n lo hi : Nat} {L : List ByteArray} (h : RowN base w g cap n L) (h1 : lo ≤ hi) (h2 : hi ≤ n) :
    ∃ ad, sliced (some ⟨g, 0, none⟩) lo hi cap 1 = .slice (some ad) (hi - lo) (cap - lo) ∧ ∀ j u, (strCells ((L.drop lo).take (hi - lo)))[j]? = some u → w.cell? (ad.add j) = some u := by
  have hl := h.1
  by_cases e : cap = lo
  · refine ⟨⟨g, 0, none⟩, by unfold sliced; rw [if_pos e], ?_⟩
    have hc : n ≤ cap := by
      rcases h.2.2 with ⟨e', _⟩ | ⟨_, _, _, e', _, _, hh, _⟩
      · cases e'
      · cases e'; exact hh
    have : hi - lo = 0 := by omega
    rw [this]
    intro j u hu
    simp [strCells] at hu
  · refine ⟨⟨g, lo, none⟩, by unfold sliced; rw [if_neg e]; simp [Addr.add]; omega, ?_⟩
    intro j u hu
    have hj : j < hi - lo := by
      have := (List.getElem?_eq_some_iff.1 hu).1
      rw [strCells_length, List.length_take] at this
      omega
    have hadd : (⟨g, lo, none⟩ : Addr).add j = ⟨g, lo + j, none⟩ := by simp [Addr.add]
    rw [hadd, h.2.cellAt (lo + j) (by omega)]
    rw [← hu]
    simp [strCells, hj]
/-- append(v, x[lo:hi]...) -/
theorem wpList_joinN {ops : Array Oper} {rest : List Oper} {o : Oper} {a : Act} {w : World} {Q : Exit → Act → World → Prop} (hgd : o.guard = none) (s x : Operand)
    (ho : o.op = .call { callee := .builtin .append, args := #[s, x], argTypes := #[31, 31] }) {base : Nat} {v : Value} {A : List ByteArray} {nA : Nat} (hs : a.eval s = v) (hA : w.ownsRow base 9 1 v nA (strCells A))
    {B gx cx n lo hi : Nat} {L : List ByteArray} (hx : a.eval x = sliced (some ⟨gx, 0, none⟩) lo hi cx 1) (hX : RowN B w gx cx n L) (h1 : lo ≤ hi) (h2 : hi ≤ n) (hn : nA + n ≤ 1000) (hb : base ≤ w.heap.size)
    (h : ∀ v' w', w'.ownsRow base 9 1 v' (nA + (hi - lo)) (strCells (A ++ (L.drop lo).take (hi - lo))) → w.grownBy w' v.ownBlock → (v'.ownBlock = v.ownBlock ∨ ∀ g, v'.ownBlock = some g → w.heap.size ≤ g) →
      wpList Tryd.prog ops Q rest (a.put o.dst v') w') : wpList Tryd.prog ops Q (o :: rest) a w := by
  obtain ⟨i0, hi0, hz0, hz1, hz2⟩ := info_parts info_str
  obtain ⟨ad, e, hc⟩ := hX.piece h1 h2
  have hl := hX.1
  have hlen : ((L.drop lo).take (hi - lo)).length = hi - lo := sub_length L lo _ (by omega)
  refine wpList_append_own2 hgd s x 31 ho base 9 i0 _ 1 16 Tryd.underlying31 hi0 hz0 hz1 hz2 rfl (by decide) v nA (strCells A) hs hA ad (hi - lo) (cx - lo) (strCells ((L.drop lo).take (hi - lo))) (hx.trans e)
    (by rw [strCells_length, hlen]; omega) hc (strCells_one _) (by unfold maxLen; omega) (by omega) hb ?_
  intro v' w' r1 r2 r3
  rw [← strCells_append] at r1
  exact h v' w' r1 r2 r3
theorem run_head {a : Option Addr} {n c : Nat} {hi : Int} {k : Nat} (hk : hi = k) (h2 : k ≤ c) {v : Value} (hv : v = sliced a 0 k c 1) (w : World) :
    (Instr.slice 31 (.slice a n c) none (some (.int .i64 hi)) none).run Tryd.prog w = .ok v w := by
  rw [run_slice_h (P := Tryd.prog) (w := w) 31 a n c Tryd.underlying31 .i64 hi (by omega) (by omega), hv, hk]
  simp [go_sem]
theorem run_tail {a : Option Addr} {n c : Nat} {lo : Int} {k : Nat} (hk : lo = k) (h2 : k ≤ n) {v : Value} (hv : v = sliced a k n c 1) (w : World) :
    (Instr.slice 31 (.slice a n c) (some (.int .i64 lo)) none none).run Tryd.prog w = .ok v w := by
  rw [hk, run_sub_l h2, hv]
end Go.Proofs.YtcclgodahlinbaaDoor

namespace Go.Proofs.YtcclgodahlinbaaDoor
open Go.RowKit Go
set_option maxRecDepth 100000

theorem SeamsAt.at {w : World} {a : Option Addr} {n c : Nat} {l : List SeamM} (h : SeamsAt w (.slice a n c) l) {i : Nat} (hi : i < l.length) :
    ∃ g, a = some ⟨g, 0, none⟩ ∧ w.cell? ⟨g, i * 3, none⟩ = some (.bool l[i].done) ∧ w.cell? ⟨g, i * 3 + 1, none⟩ = some (.int .i64 l[i].at') ∧ w.cell? ⟨g, i * 3 + 2, none⟩ = some (.int .i64 (l[i].fz : Nat)) := by
  rcases h with ⟨rfl, _⟩ | ⟨g, cap, e, _, hc⟩
  · simp at hi
  · cases e
    exact ⟨g, rfl, hc i hi⟩
theorem SeamsAt.below {w w' : World} {v : Value} {l : List SeamM} (h : SeamsAt w v l) (hb : Below w.heap.size w w') : SeamsAt w' v l := by
  rcases h with h | ⟨g, cap, e, hg, hc⟩
  · exact .inl h
  · exact .inr ⟨g, cap, e, Nat.lt_of_lt_of_le hg hb.size, fun i hi => ⟨(hb.cell (p := ⟨g, i * 3, none⟩) hg).trans (hc i hi).1, (hb.cell (p := ⟨g, i * 3 + 1, none⟩) hg).trans (hc i hi).2.1, (hb.cell (p := ⟨g, i * 3 + 2, none⟩) hg).trans (hc i hi).2.2⟩⟩
set_option maxHeartbeats 2000000 in
/-- all hunks are sewn in, moved by so much, with no fuzz -/
theorem still_yes {w : World} {a : Option Addr} {c : Nat} {l : List SeamM} {b : Int} (h : SeamsAt w (.slice a l.length c) l) (hl : l.length ≤ 100000) (hs : ∀ s ∈ l, s = ⟨true, b, 0⟩) :
    Calls Tryd.prog 18 #[.slice a l.length c, .int .i64 (l.length : Int), .int .i64 b] w fun e w' => e = .returned (.bool true) ∧ w = w' := by
  go_enter Tryd.func18, Tryd.ntmps18
  go_wp2_with fail
  go_loopg [7] l.length (fun g x wr => ∃ k : Nat, g = l.length - k ∧ k ≤ l.length ∧ x = .int .i64 k ∧ wr = w)
  case atStart => exact ⟨0, by omega, by omega, rfl, rfl⟩
  case round =>
    obtain ⟨k, hgk, hkl, rfl, rfl⟩ := hrel
    by_cases hk : k < l.length
    · have hkI : (k : Int) < l.length := by omega
      obtain ⟨g, rfl, c0, c1, c2⟩ := h.at hk
      rw [hs _ (List.getElem_mem hk)] at c0 c1 c2
      have c2' : wr.cell? ⟨g, k * 3 + 2, none⟩ = some (.int .i64 0) := c2
      have hG : Hid (gk = l.length - k) := hgk
      clear hgk c2
      go_wp2_with fail
      go_roundg (l.length - (k + 1))
      · exact ⟨k + 1, rfl, by omega, by push_cast; rfl, rfl⟩
      · have := hG.out; omega
    · obtain rfl : k = l.length := by omega
      go_wp2_with fail
      go_ret
      exact ⟨rfl, rfl⟩
end Go.Proofs.YtcclgodahlinbaaDoor

namespace Go.Proofs.YtcclgodahlinbaaDoor
open Go.RowKit Go
set_option maxRecDepth 100000

def twoB (k : Nat) : ByteArray := ⟨#[UInt8.ofNat (97 + k / 10), UInt8.ofNat (48 + k % 10)]⟩
theorem conv_two (k : Nat) (hk : k < 60) (wr : World) : (convert 51 9 (.slice (some ⟨wr.heap.size, 0, none⟩) 2 2)).run Tryd.prog (wr.alloc (.cells #[.int .u8 (97 + (k : Int) / 10), .int .u8 (48 + (k : Int) % 10)] 5)) =
    .ok (.string (twoB k)) (wr.alloc (.cells #[.int .u8 (97 + (k : Int) / 10), .int .u8 (48 + (k : Int) % 10)] 5)) := by
  have h := run_convert_bytes_back (P := Tryd.prog) (wr.alloc (.cells #[.int .u8 (97 + (k : Int) / 10), .int .u8 (48 + (k : Int) % 10)] 5)) 51 9 5 ⟨wr.heap.size, 0, none⟩ 2 [UInt8.ofNat (97 + k / 10), UInt8.ofNat (48 + k % 10)] Tryd.underlying51 Tryd.underlying5 Tryd.underlying9 (by
    intro j hj
    have e1 : (97 + k / 10) % 256 = 97 + k / 10 := by omega
    have e2 : (48 + k % 10) % 256 = 48 + k % 10 := by omega
    obtain rfl | rfl : j = 0 ∨ j = 1 := by simp at hj; omega
    · refine cell_of (heap_alloc_new wr _) ?_
      simp
      omega
    · refine cell_of (heap_alloc_new wr _) ?_
      simp
      omega)
  exact h

theorem run_ktext (x : Value) (w : World) : (callFunc 15 #[x]).run Tryd.prog w = .ok (.enter 15 #[x]) w := by kernel_rfl
theorem run_kpick (x y : Value) (w : World) : (callFunc 12 #[x, y]).run Tryd.prog w = .ok (.enter 12 #[x, y]) w := by kernel_rfl
theorem run_kapply (x y z : Value) (w : World) : (callFunc 17 #[x, y, z]).run Tryd.prog w = .ok (.enter 17 #[x, y, z]) w := by kernel_rfl

theorem xL_nodup {n : Nat} (h : n ≤ 60) : (xL n).Nodup := by
  unfold xL
  rw [List.nodup_iff_pairwise_ne, List.pairwise_map]
  refine (List.nodup_iff_pairwise_ne.1 (List.nodup_range (n := n))).imp_of_mem ?_
  intro a b ha hb hne e
  have h1 := List.mem_range.1 ha
  have h2 := List.mem_range.1 hb
  exact hne (lineB_inj (by omega) (by omega) e)
theorem xL_size {n : Nat} : ∀ s ∈ xL n, s.size ≤ 7 := by
  intro s hs
  obtain ⟨i, _, rfl⟩ := List.mem_map.1 hs
  exact Nat.le_refl _
theorem xL_more {n : Nat} : moreB ∉ xL n := by
  intro h
  obtain ⟨i, _, e⟩ := List.mem_map.1 h
  have := congrArg ByteArray.size e
  have e1 : (lineB i).size = 7 := rfl
  have e2 : moreB.size = 4 := rfl
  omega
theorem apart_fit {x : List ByteArray} {low high : Nat} (hp : Plain x) (hs : ∀ s ∈ x, s.size ≤ 7) (hl : x.length ≤ 60) :
    ((textL x).length ≤ 8000) ∧ (Plain (apartY x low) ∧ (apartY x low).length ≤ 200 ∧ (textL (apartY x low)).length ≤ 8000) ∧ (Plain (apartZ x high) ∧ (apartZ x high).length ≤ 200 ∧ (textL (apartZ x high)).length ≤ 8000) := by
  have hY : ∀ s ∈ apartY x low, s ∈ x ∨ s = moreB := by
    intro s h
    unfold apartY at h
    rw [List.mem_append, List.mem_cons] at h
    rcases h with h | h | h
    · exact .inl (List.mem_of_mem_take h)
    · exact .inr h
    · exact .inl (List.mem_of_mem_drop h)
  have hZ : ∀ s ∈ apartZ x high, s ∈ x := by
    intro s h
    unfold apartZ at h
    rw [List.mem_append] at h
    rcases h with h | h
    · exact List.mem_of_mem_take h
    · exact List.mem_of_mem_drop h
  have lY : (apartY x low).length ≤ 61 := by unfold apartY; simp; omega
  have lZ : (apartZ x high).length ≤ 120 := by unfold apartZ; simp; omega
  have b0 := textL_bound x 7 hs
  have bY := textL_bound (apartY x low) 7 (fun s h => by
    rcases hY s h with h | h
    · exact hs s h
    · rw [h]; decide)
  have bZ := textL_bound (apartZ x high) 7 (fun s h => hs s (hZ s h))
  refine ⟨by omega, ⟨fun s h => ?_, by omega, by omega⟩, ⟨fun s h => hp s (hZ s h), by omega, by omega⟩⟩
  rcases hY s h with h | h
  · exact hp s h
  · rw [h]; decide

set_option maxHeartbeats 40000000 in
theorem apart_any (n0 o0 t0 : Int) {m : Int} {w : World} (hn : -9223372036854775808 ≤ n0 ∧ n0 ≤ 9223372036854775807) (ho : -9223372036854775808 ≤ o0 ∧ o0 ≤ 9223372036854775807) (ht : -9223372036854775808 ≤ t0 ∧ t0 ≤ 9223372036854775807) (hm : w.cell? ⟨0, 0, none⟩ = some (.int .i64 m)) (hm0 : 0 < w.heap.size) :
    Calls Tryd.prog 8 #[.int .i64 n0, .int .i64 o0, .int .i64 t0] w fun e w' => e = .returned (.bool true) ∧ Below w.heap.size w w' := by
  obtain ⟨i0, hi, hz0, hz1, hz2⟩ := info_parts info_str
  have hnl := pickN_lt n0 (n := 40) (by decide)
  have hp1 := fun w => pick_any n0 40 w hn (by decide) (by decide)
  generalize pickN n0 40 = d at *
  obtain ⟨N, hN⟩ : ∃ N, N = 20 + d := ⟨_, rfl⟩
  have hol := pickN_lt o0 (n := N / 2 - 4) (by omega)
  have htl := pickN_lt t0 (n := N / 2 - 4) (by omega)
  have hp2 := fun w => pick_any o0 (N / 2 - 4) w ho (by omega) (by omega)
  have hp3 := fun w => pick_any t0 (N / 2 - 4) w ht (by omega) (by omega)
  have hh : ((N / 2 - 4 : Nat) : Int) = (N : Int) / 2 - 4 := by omega
  rw [hh] at hp2 hp3
  clear hh
  generalize pickN o0 (N / 2 - 4) = low at *
  generalize pickN t0 (N / 2 - 4) = t at *
  obtain ⟨H, hH⟩ : ∃ H, H = N / 2 + 4 + t := ⟨_, rfl⟩
  have hHI : Hid ((N : Int) / 2 + 4 + (t : Int) = (H : Int)) := by show _ = _; omega
  have hF0 := apart_facts (x := xL N) (low := low) (high := H) (xL_nodup (by omega)) xL_more (xL_plain (by omega)) xL_size (by rw [xL_length]; omega) (by omega) (by rw [xL_length]; omega)
  have hfit : Hid (((textL (xL N)).length ≤ 8000) ∧ (Plain (apartY (xL N) low) ∧ (apartY (xL N) low).length ≤ 200 ∧ (textL (apartY (xL N) low)).length ≤ 8000) ∧ (Plain (apartZ (xL N) H) ∧ (apartZ (xL N) H).length ≤ 200 ∧ (textL (apartZ (xL N) H)).length ≤ 8000)) :=
    apart_fit (xL_plain (by omega)) xL_size (by rw [xL_length]; omega)
  obtain ⟨pp, qq, hF0⟩ := hF0
  have hF : Hid (ApartFacts (xL N) low H pp qq) := hF0
  clear hF0
  have hNI : (20 : Int) + (d : Int) = (N : Int) := by omega
  have hN1 : 20 ≤ N := by omega
  have hN2 : N ≤ 59 := by omega
  have hlow : low + 9 ≤ H := by omega
  have hH2 : H < N := by omega
  have haw := awake_any hm hm0
  have hlow2 : low ≤ 60 := by omega
  have ht2 : t ≤ 60 := by omega
  clear hN hH hol htl
  go_enter Tryd.func8, Tryd.ntmps8
  go_wp2_with fail
  refine haw.mono ?_
  clear haw
  rintro e w1 ⟨rfl, b1⟩
  have hz1' := b1.size
  have hm1 := (b1.cell (p := ⟨0, 0, none⟩) hm0).trans hm
  have hNI' : Hid ((20 : Int) + (d : Int) = (N : Int)) := hNI
  clear hNI
  go_wp2_with (go_at_call 12; refine (hp1 _).mono ?_; rintro e w' ⟨rfl, rfl⟩)
  rw [hNI'.out]
  clear hNI' hp1
  go_loopg [8, 9] N (fun g vx t wr => ∃ k : Nat, g = N - k ∧ k ≤ N ∧ t = .int .i64 k ∧ wr.ownsRow w1.heap.size 9 1 vx (xL k).length (strCells (xL k)) ∧ Below w1.heap.size w1 wr)
  case atStart => exact ⟨0, by omega, by omega, rfl, World.ownsRow_nil _ _ _ _, Below.refl _ _⟩
  case round =>
    obtain ⟨k, hgk, hkN, rfl, hox, hbel⟩ := hrel
    have hszr := hbel.size
    obtain ⟨ax, cx, rfl⟩ := owns_isSlice hox
    by_cases hk : k < N
    · have hkI : (k : Int) < N := by omega
      have hG : Hid (gk = N - k) := hgk
      clear hgk
      have x1 : IntKind.i64.wrap (97 + (k : Int) / 10) = 97 + (k : Int) / 10 := by rw [IntKind.wrap_i64]; omega
      have hconv := conv_two k (by omega) wr
      have hox1 := hox.alloc (.cells #[.int .u8 (97 + (k : Int) / 10), .int .u8 (48 + (k : Int) % 10)] 5)
      have hbel1 := hbel.alloc hszr (.cells #[.int .u8 (97 + (k : Int) / 10), .int .u8 (48 + (k : Int) % 10)] 5)
      have hlx := xL_length k
      have hb1 : (xL k).length + 1 ≤ maxLen := by unfold maxLen; omega
      have hb2 : ((xL k).length + 1) * 16 ≤ 140737488355328 := by omega
      clear hlx
      have hE : Hid (lineB k = ⟨#[108, 105, 110, 101, 32]⟩ ++ twoB k) := by show lineB k = _; rfl
      have hon : ∀ t : ByteArray, ∀ u ∈ [Value.string t], u.oneCell' = true := by intro t u hu; simp at hu; subst hu; rfl
      go_wp2_with (at_builtin; refine wpList_append_own2 rfl (.tmp 35) (.tmp 47) 31 rfl w1.heap.size 9 i0 _ 1 16 Tryd.underlying31 hi hz0 hz1 hz2 rfl (by decide) (.slice ax (xL k).length cx) (xL k).length (strCells (xL k)) rfl (hox1.alloc _) ⟨wr.heap.size + 1, 0, none⟩ 1 1 [.string (⟨#[108, 105, 110, 101, 32]⟩ ++ twoB k)] rfl rfl (cells_new' (W := wr.alloc (.cells #[.int .u8 (97 + (k : Int) / 10), .int .u8 (48 + (k : Int) % 10)] 5)) (by simp) [.string (⟨#[108, 105, 110, 101, 32]⟩ ++ twoB k)] 9) (hon _) hb1 hb2 (by simp; omega) ?_; intro vx' wx hownx hgrx hnewx; have hbx := (hbel1.alloc (by simp; omega) _).grown hgrx (by simp; omega) (fun j e => (hox1.lt j e).1))
      go_roundg (N - (k + 1))
      · exact ⟨k + 1, rfl, by omega, by push_cast; rfl, by rw [xL_succ, strCells_append, List.length_append, hE.out]; exact hownx, hbx⟩
      · have := hG.out; omega
    · obtain rfl : k = N := by omega
      rw [xL_length] at hox ⊢
      obtain ⟨gx, cx', e, hgx1, hgx2, hcx, _⟩ := owns_slice hox (by omega)
      cases e
      have hX : RowN w1.heap.size wr gx cx k (xL k) := ⟨xL_length k, hox⟩
      clear hox
      obtain ⟨V1, hV1⟩ : ∃ V, V = sliced (some ⟨gx, 0, none⟩) 0 low cx 1 := ⟨_, rfl⟩
      obtain ⟨V2, hV2⟩ : ∃ V, V = sliced (some ⟨gx, 0, none⟩) low k cx 1 := ⟨_, rfl⟩
      obtain ⟨V3, hV3⟩ : ∃ V, V = sliced (some ⟨gx, 0, none⟩) 0 H cx 1 := ⟨_, rfl⟩
      obtain ⟨V4, hV4⟩ : ∃ V, V = sliced (some ⟨gx, 0, none⟩) (H + 1) k cx 1 := ⟨_, rfl⟩
      have r1 := fun w => run_head (n := k) (hi := (low : Int)) rfl (by omega) hV1 w
      have r2 := fun w => run_tail (n := k) (lo := (low : Int)) rfl (by omega) hV2 w
      have r3 := fun w => run_head (n := k) (hi := (k : Int) / 2 + 4 + (t : Int)) hHI.out (by omega) hV3 w
      have r4 := fun w => run_tail (n := k) (lo := (k : Int) / 2 + 4 + (t : Int) + 1) (k := H + 1) (by have := hHI.out; omega) (by omega) hV4 w
      have wr1 : IntKind.i64.wrap ((k : Int) / 2 + 4 + (t : Int) + 1) = (k : Int) / 2 + 4 + (t : Int) + 1 := by rw [IntKind.wrap_i64]; have := hHI.out; omega
      have hV1' : Hid (V1 = sliced (some ⟨gx, 0, none⟩) 0 low cx 1 ∧ V2 = sliced (some ⟨gx, 0, none⟩) low k cx 1 ∧ V3 = sliced (some ⟨gx, 0, none⟩) 0 H cx 1 ∧ V4 = sliced (some ⟨gx, 0, none⟩) (H + 1) k cx 1) := ⟨hV1, hV2, hV3, hV4⟩
      clear hV1 hV2 hV3 hV4
      have hlx : (xL k).length = k := xL_length k
      have lA : ((xL k).drop 0).take (low - 0) = (xL k).take low := by simp
      have lB : ((xL k).drop low).take (k - low) = (xL k).drop low := List.take_of_length_le (by rw [List.length_drop, hlx]; exact Nat.le_refl _)
      have lC : ((xL k).drop 0).take (H - 0) = (xL k).take H := by simp
      have lD : ((xL k).drop (H + 1)).take (k - (H + 1)) = (xL k).drop (H + 1) := List.take_of_length_le (by rw [List.length_drop, hlx]; exact Nat.le_refl _)
      have n1 : ((xL k).take low).length = low := by rw [List.length_take, hlx]; omega
      have hLs : Hid ((((xL k).drop 0).take (low - 0) = (xL k).take low) ∧ (((xL k).drop low).take (k - low) = (xL k).drop low) ∧ (((xL k).drop 0).take (H - 0) = (xL k).take H) ∧ (((xL k).drop (H + 1)).take (k - (H + 1)) = (xL k).drop (H + 1)) ∧ (xL k).length = k) := ⟨lA, lB, lC, lD, hlx⟩
      clear lA lB lC lD n1 hlx
      have hon : ∀ t : ByteArray, ∀ u ∈ [Value.string t], u.oneCell' = true := by intro t u hu; simp at hu; subst hu; rfl
      go_wp2_with (first | (go_at_call 12; refine (hp2 _).mono ?_; clear hp2; rintro e w' ⟨rfl, rfl⟩) | (go_at_call 12; refine (hp3 _).mono ?_; rintro e w' ⟨rfl, rfl⟩) | (at_builtin; refine wpList_joinN rfl (.tmp 63) (.tmp 66) rfl (base := wr.heap.size) (v := .slice none 0 0) (A := []) rfl (World.ownsRow_nil _ _ _ _) hV1'.out.1 hX (by omega) (by omega) (by omega) (Nat.le_refl _) ?_; intro vy wa ya ga na; rw [List.nil_append, hLs.out.1, show 0 + (low - 0) = low by omega] at ya; have ba := (Below.refl wr.heap.size wr).grown ga (Nat.le_refl _) (fun j e => by simp [Value.ownBlock] at e); have hXa := hX.below ba hgx2; have sa := ba.size; obtain ⟨aa, ca, rfl⟩ := owns_isSlice ya) | (at_builtin; refine wpList_append_own2 rfl (.tmp 68) (.tmp 69) 31 rfl wr.heap.size 9 i0 _ 1 16 Tryd.underlying31 hi hz0 hz1 hz2 rfl (by decide) (.slice aa low ca) low (strCells ((xL k).take low)) rfl (ya.alloc _) ⟨wa.heap.size, 0, none⟩ 1 1 [.string ⟨#[109, 111, 114, 101]⟩] rfl rfl (cells_new wa [.string ⟨#[109, 111, 114, 101]⟩] 9) (hon _) (by unfold maxLen; omega) (by omega) (by simp; omega) ?_; intro vb wb yb gb nb; have bb := (ba.alloc sa _).grown gb (by simp; omega) (fun j e => (ya.lt j e).1); have hXb := hX.below bb hgx2; have sb := bb.size; obtain ⟨ab, cb, rfl⟩ := owns_isSlice yb) | (at_builtin; refine wpList_joinN rfl (.tmp 71) (.tmp 74) rfl (base := wr.heap.size) (v := .slice ab (low + 1) cb) (A := (xL k).take low ++ [moreB]) rfl (by rw [strCells_append]; exact yb) hV1'.out.2.1 hXb (by omega) (by omega) (by omega) sb ?_; intro vc wc yc gc nc; rw [hLs.out.2.1, show low + 1 + (k - low) = k + 1 by omega] at yc; have bc := bb.grown gc sb (fun j e => (yb.lt j e).1); have hXc := hX.below bc hgx2; have sc := bc.size; obtain ⟨gy, cy, rfl, hgy1, hgy2, _⟩ := owns_slice yc (by omega); have hY : RowN wr.heap.size wc gy cy (k + 1) (apartY (xL k) low) := ⟨by have := hLs.out.2.2.2.2; unfold apartY; simp; omega, by unfold apartY; simpa using yc⟩) | (at_builtin; refine wpList_joinN rfl (.tmp 76) (.tmp 79) rfl (base := wc.heap.size) (v := .slice none 0 0) (A := []) rfl (World.ownsRow_nil _ _ _ _) hV1'.out.2.2.1 hXc (by omega) (by omega) (by omega) (Nat.le_refl _) ?_; intro vd wd yd gd nd; rw [List.nil_append, hLs.out.2.2.1, show 0 + (H - 0) = H by omega] at yd; have bd := (Below.refl wc.heap.size wc).grown gd (Nat.le_refl _) (fun j e => by simp [Value.ownBlock] at e); have hXd := hXc.below bd hXc.lt.2; have sd := bd.size; obtain ⟨ad, cd, rfl⟩ := owns_isSlice yd) | (at_builtin; refine wpList_joinN rfl (.tmp 81) (.tmp 85) rfl (base := wc.heap.size) (v := .slice ad H cd) (A := (xL k).take H) rfl yd hV1'.out.2.2.2 hXd (by omega) (by omega) (by omega) sd ?_; intro ve we ye ge ne; rw [hLs.out.2.2.2.1, show H + (k - (H + 1)) = k - 1 by omega] at ye; have be := bd.grown ge sd (fun j e => (yd.lt j e).1); have hXe := hXc.below be hXc.lt.2; have se := be.size; obtain ⟨gz, cz, rfl, hgz1, hgz2, _⟩ := owns_slice ye (by omega); have hZ : RowN wc.heap.size we gz cz (k - 1) (apartZ (xL k) H) := ⟨by have := hLs.out.2.2.2.2; unfold apartZ; simp; omega, ye⟩; have hYe := hY.below be hgy2))
      clear hX hXa hXb hXc hXd hY ya yb yc yd ye ga na gb nb gc nc gd nd ge ne r1 r2 r3 r4 hV1' wr1 ba bb bd hp3 hLs hon hHI
      obtain ⟨T1, T2, T3⟩ := hfit.out
      obtain ⟨dp, dq, rp, rq, kp, kq, sq, sp, tt⟩ := hF.out
      clear hfit hF
      have hXp : Plain (xL k) := xL_plain (by omega)
      have hXn : (xL k).length ≤ 200 := by rw [xL_length]; omega
      have hm2 := (be.cell (p := ⟨0, 0, none⟩) (by show 0 < wc.heap.size; omega)).trans ((bc.cell (p := ⟨0, 0, none⟩) (by show 0 < wr.heap.size; omega)).trans ((hbel.cell (p := ⟨0, 0, none⟩) (by show 0 < w1.heap.size; omega)).trans hm1))
      have hbA : Below w.heap.size w we := b1.trans ((hbel.mono (by omega)).trans ((bc.mono (by omega)).trans (be.mono (by omega))))
      have hdf := diff_text (c := 2) hXp hXn T1 T2.1 T2.2.1 T2.2.2 (by omega) hm2
      rw [dp] at hdf
      have hdf' : Calls Tryd.prog 14 #[.string (textB (xL k)), .string (textB (apartY (xL k) low)), .int .i64 2] we fun e w' =>
        ∃ a cap, e = .returned (.tuple #[.agg #[.slice a 1 cap], .int .i64 0]) ∧ HunksAt w'.heap.size w' (.slice a 1 cap) [pp] ∧ Below we.heap.size we w' := hdf
      have ht1 := textN_any hXe (by omega)
      have ht2 := textN_any hYe (by omega)
      clear hdf b1 hbel bc be hm1 hm dp
      refine ht1.mono ?_
      rintro e w' ⟨rfl, rfl⟩
      go_wp2_with (go_at_call 15; refine ht2.mono ?_; rintro e w' ⟨rfl, rfl⟩)
      refine hdf'.mono ?_
      rintro e W3 ⟨a, cap, rfl, hHp, b3⟩
      clear hdf' ht1 ht2
      have hz3 := b3.size
      have hwe : w.heap.size ≤ we.heap.size := hbA.size
      have hX3 := (hXe.below b3 hXe.lt.2).alloc (.cells #[.slice a 1 cap] 37)
      have hY3 := (hYe.below b3 hYe.lt.2).alloc (.cells #[.slice a 1 cap] 37)
      have hZ3 := (hZ.below b3 hZ.lt.2).alloc (.cells #[.slice a 1 cap] 37)
      have hb3 := (Below.refl W3.heap.size W3).alloc (Nat.le_refl _) (.cells #[.slice a 1 cap] 37)
      have hp3' := heap_alloc_new W3 (.cells #[.slice a 1 cap] 37)
      have z3 : (W3.alloc (.cells #[.slice a 1 cap] 37)).heap.size = W3.heap.size + 1 := by simp
      have hH3 := (hHp.below hb3).mono hb3.size
      have hm3 := (hb3.cell (p := ⟨0, 0, none⟩) (by show 0 < W3.heap.size; omega)).trans ((b3.cell (p := ⟨0, 0, none⟩) (by show 0 < we.heap.size; omega)).trans hm2)
      have hbB : Below w.heap.size w (W3.alloc (.cells #[.slice a 1 cap] 37)) := hbA.trans ((b3.mono hwe).trans (hb3.mono (by omega)))
      have hdg := diff_text (c := 2) hXp hXn T1 T3.1 T3.2.1 T3.2.2 (by omega) hm3
      rw [dq] at hdg
      have hdg' : Calls Tryd.prog 14 #[.string (textB (xL k)), .string (textB (apartZ (xL k) H)), .int .i64 2] (W3.alloc (.cells #[.slice a 1 cap] 37)) fun e w' =>
        ∃ a2 cap2, e = .returned (.tuple #[.agg #[.slice a2 1 cap2], .int .i64 0]) ∧ HunksAt w'.heap.size w' (.slice a2 1 cap2) [qq] ∧ Below (W3.alloc (.cells #[.slice a 1 cap] 37)).heap.size (W3.alloc (.cells #[.slice a 1 cap] 37)) w' := hdg
      clear hdg hbA hb3 hHp b3 hm2 hXe hYe hZ dq
      go_wp2_with fail
      generalize W3.alloc (.cells #[.slice a 1 cap] 37) = U at hX3 hY3 hZ3 hp3' z3 hH3 hm3 hbB hdg' ⊢
      have ht3 := textN_any hX3 (by omega)
      have ht4 := textN_any hZ3 (by omega)
      refine ht3.mono ?_
      rintro e w' ⟨rfl, rfl⟩
      clear ht3
      go_wp2_with (go_at_call 15; refine ht4.mono ?_; rintro e w' ⟨rfl, rfl⟩)
      refine hdg'.mono ?_
      rintro e W4 ⟨a2, cap2, rfl, hHq, b4⟩
      clear hdg' ht4
      have hz4 := b4.size
      have hY4 := (hY3.below b4 hY3.lt.2).alloc (.cells #[.slice a2 1 cap2] 37)
      have hZ4 := (hZ3.below b4 hZ3.lt.2).alloc (.cells #[.slice a2 1 cap2] 37)
      have hb5 := (Below.refl W4.heap.size W4).alloc (Nat.le_refl _) (.cells #[.slice a2 1 cap2] 37)
      have hp5 := heap_alloc_new W4 (.cells #[.slice a2 1 cap2] 37)
      have z5 : (W4.alloc (.cells #[.slice a2 1 cap2] 37)).heap.size = W4.heap.size + 1 := by simp
      have hQ5 := (hHq.below hb5).mono hb5.size
      have hP5 := (((hH3.below b4).mono b4.size).below hb5).mono hb5.size
      have hm5 := (hb5.cell (p := ⟨0, 0, none⟩) (by show 0 < W4.heap.size; omega)).trans ((b4.cell (p := ⟨0, 0, none⟩) (by show 0 < U.heap.size; omega)).trans hm3)
      have c1 : (W4.alloc (.cells #[.slice a2 1 cap2] 37)).cell? ⟨W3.heap.size, 0, none⟩ = some (.slice a 1 cap) := cell_of ((hb5.block W3.heap.size (by omega)).trans ((b4.block W3.heap.size (by omega)).trans hp3')) rfl
      have c2 : (W4.alloc (.cells #[.slice a2 1 cap2] 37)).cell? ⟨W4.heap.size, 0, none⟩ = some (.slice a2 1 cap2) := cell_of hp5 rfl
      have hbC : Below w.heap.size w (W4.alloc (.cells #[.slice a2 1 cap2] 37)) := hbB.trans ((b4.mono (by omega)).trans (hb5.mono (by omega)))
      clear hX3 hY3 hZ3 hp3' hH3 hm3 hbB hHq b4 hb5 hp5
      go_wp2_with fail
      generalize W4.alloc (.cells #[.slice a2 1 cap2] 37) = W5 at hY4 hZ4 z5 hQ5 hP5 hm5 c1 c2 hbC ⊢
      have hkt : Calls Tryd.prog 15 #[.slice (some ⟨gy, 0, none⟩) (k + 1) cy] W5.drew fun e w' => e = .returned (.string (textB (apartY (xL k) low))) ∧ w' = W5.drew := (textN_any (w := W5.drew) hY4 (by omega)).mono fun _ _ h => ⟨h.1, h.2.symm⟩
      have hap := apply_text (fz := 0) (cap := cap2) (a := a2) (w := W5.drew) T2.1 T2.2.1 T2.2.2 (by omega) hQ5 rq (by simp) kq hm5 (by show 0 < W5.heap.size; omega)
      rw [sq, tt] at hap
      generalize hTT : applyT (apartZ (xL k) H) 0 [pp] = TT at hap
      have hap' : Calls Tryd.prog 17 #[.string (textB (apartY (xL k) low)), .agg #[.slice a2 1 cap2], .int .i64 0] W5.drew fun e w' =>
        ∃ a' c', e = .returned (.tuple #[.string TT, .slice a' 1 c', .int .i64 0]) ∧ SeamsAt w' (.slice a' 1 c') [⟨true, 1, 0⟩] ∧ Below W5.drew.heap.size W5.drew w' := hap
      have hTT' : Hid (applyT (apartZ (xL k) H) 0 [pp] = TT) := hTT
      clear hap hTT hQ5 rq kq sq tt
      go_cut [18, 19, 20] from 26 (fun vs vl ve wc => ∃ a' c', vs = .string TT ∧ vl = .slice a' 1 c' ∧ ve = .int .i64 0 ∧ SeamsAt wc (.slice a' 1 c') [⟨true, 1, 0⟩] ∧ Below W5.drew.heap.size W5.drew wc)
      case first =>
        clear hP5 hZ4 hm5 c1 rp kp sp T3 hTT'
        go_region_law (first | (refine step_call rfl 15 _ _ rfl #[.slice (some ⟨gy, 0, none⟩) (k + 1) cy] (by simp [Act.eval, Act.put]) (run_ktext _ _) (fun v w' => v = .string (textB (apartY (xL k) low)) ∧ w' = W5.drew) (hkt.mono (fun e w' h => ⟨_, h.1, rfl, h.2⟩)) ?_; rintro v w' ⟨rfl, rfl⟩) | (refine step_call rfl 17 _ _ rfl #[.string (textB (apartY (xL k) low)), .agg #[.slice a2 1 cap2], .int .i64 0] (by simp [Act.eval]) (run_kapply _ _ _ _) (fun v w' => ∃ a' c', v = .tuple #[.string TT, .slice a' 1 c', .int .i64 0] ∧ SeamsAt w' (.slice a' 1 c') [⟨true, 1, 0⟩] ∧ Below W5.drew.heap.size W5.drew w') (hap'.mono (by rintro e w' ⟨a', c', rfl, h1, h2⟩; exact ⟨_, rfl, a', c', rfl, h1, h2⟩)) ?_; rintro v w4 ⟨a', c', rfl, hS, b4⟩))
        all_goals
          go_wp2_with fail
          go_meet
          case rel => exact ⟨a', c', rfl, rfl, rfl, hS, b4⟩
      case rest =>
        obtain ⟨a', c', rfl, rfl, rfl, hS, b6⟩ := hcut
        rename World => U6
        have b6' : Below W5.heap.size W5 U6 := (Below.refl W5.heap.size W5).drew.trans b6
        clear hkt hap' b6 hY4 c2
        have hs6 := b6'.size
        have hP6 := (hP5.below b6').mono hs6
        have hZ6 := hZ4.below b6' hZ4.lt.2
        have hm6 := (b6'.cell (p := ⟨0, 0, none⟩) (by show 0 < W5.heap.size; omega)).trans hm5
        have c6 : U6.cell? ⟨W3.heap.size, 0, none⟩ = some (.slice a 1 cap) := (b6'.cell (p := ⟨W3.heap.size, 0, none⟩) (by show W3.heap.size < W5.heap.size; omega)).trans c1
        have hbD : Below w.heap.size w U6 := hbC.trans (b6'.mono hbC.size)
        have hwc : w.heap.size ≤ U6.heap.size := hbD.size
        clear hP5 hZ4 hm5 c1 hbC b6'
        have hkt : Calls Tryd.prog 15 #[.slice (some ⟨gz, 0, none⟩) (k - 1) cz] U6.drew fun e w' => e = .returned (.string (textB (apartZ (xL k) H))) ∧ w' = U6.drew := (textN_any (w := U6.drew) hZ6 (by omega)).mono fun _ _ h => ⟨h.1, h.2.symm⟩
        have hap := apply_text (fz := 0) (cap := cap) (a := a) (w := U6.drew) T3.1 T3.2.1 T3.2.2 (by omega) hP6 rp (by simp) kp hm6 (by show 0 < U6.heap.size; omega)
        rw [sp, hTT'.out] at hap
        have hap' : Calls Tryd.prog 17 #[.string (textB (apartZ (xL k) H)), .agg #[.slice a 1 cap], .int .i64 0] U6.drew fun e w' =>
          ∃ a3 c3, e = .returned (.tuple #[.string TT, .slice a3 1 c3, .int .i64 0]) ∧ SeamsAt w' (.slice a3 1 c3) [⟨true, 0, 0⟩] ∧ Below U6.drew.heap.size U6.drew w' := hap
        clear hap hP6 hZ6 hm6 rp kp sp hTT' T2 T3
        go_wp2_with fail
        go_cut [21, 22, 23] from 26 (fun vs vl ve w6 => ∃ a3 c3, vs = .string TT ∧ vl = .slice a3 1 c3 ∧ ve = .int .i64 0 ∧ SeamsAt w6 (.slice a3 1 c3) [⟨true, 0, 0⟩] ∧ Below U6.drew.heap.size U6.drew w6)
        case first =>
          go_region_law (first | (refine step_call rfl 15 _ _ rfl #[.slice (some ⟨gz, 0, none⟩) (k - 1) cz] (by simp [Act.eval, Act.put]) (run_ktext _ _) (fun v w' => v = .string (textB (apartZ (xL k) H)) ∧ w' = U6.drew) (hkt.mono (fun e w' h => ⟨_, h.1, rfl, h.2⟩)) ?_; rintro v w' ⟨rfl, rfl⟩) | (refine step_call rfl 17 _ _ rfl #[.string (textB (apartZ (xL k) H)), .agg #[.slice a 1 cap], .int .i64 0] (by simp [Act.eval]) (run_kapply _ _ _ _) (fun v w' => ∃ a3 c3, v = .tuple #[.string TT, .slice a3 1 c3, .int .i64 0] ∧ SeamsAt w' (.slice a3 1 c3) [⟨true, 0, 0⟩] ∧ Below U6.drew.heap.size U6.drew w') (hap'.mono (by rintro e w' ⟨a3, c3, rfl, h1, h2⟩; exact ⟨_, rfl, a3, c3, rfl, h1, h2⟩)) ?_; rintro v w4 ⟨a3, c3, rfl, hS3, b7⟩))
          all_goals
            go_wp2_with fail
            go_meet
            case rel => exact ⟨a3, c3, rfl, rfl, rfl, hS3, b7⟩
        case rest =>
          obtain ⟨a3, c3, rfl, rfl, rfl, hS3, b7⟩ := hcut
          have b7' : Below U6.heap.size U6 wc := (Below.refl U6.heap.size U6).drew.trans b7
          have hbE : Below w.heap.size w wc := hbD.trans (b7'.mono hwc)
          have hst1 : Calls Tryd.prog 18 #[.slice a' 1 c', .int .i64 1, .int .i64 1] wc fun e w' => e = .returned (.bool true) ∧ wc = w' := still_yes (l := [⟨true, 1, 0⟩]) (hS.below b7') (by simp) (by simp)
          have hst2 : Calls Tryd.prog 18 #[.slice a3 1 c3, .int .i64 1, .int .i64 0] wc fun e w' => e = .returned (.bool true) ∧ wc = w' := still_yes (l := [⟨true, 0, 0⟩]) hS3 (by simp) (by simp)
          clear hkt hap' b7 b7' hS hS3 c6
          go_wp2_with fail
          refine hst1.mono ?_
          rintro e w' ⟨rfl, rfl⟩
          go_wp2_with fail
          refine hst2.mono ?_
          rintro e w' ⟨rfl, rfl⟩
          go_wp2_with fail
          go_ret
          exact ⟨rfl, hbE⟩
end Go.Proofs.YtcclgodahlinbaaDoor

namespace Go.Proofs.YtcclgodahlinbaaDoor
open Go.ChangeShapes Go.WideShapes Go.ChangeAt Go.RowKit Go
set_option maxRecDepth 100000

theorem apart_witness (os : Os) {H : Type} (enc : TypeId × Value → H) :
    (OpenSpec.ofChange Rows.apartSpec).preRow enc Tryd.prog Tryd.f8 Rows.apartRow.domain false Rows.apartRow.laid ((laidWorld os).forCall (fun _ _ => 0) ⟨#[], #[.int .i64 0, .int .i64 0, .int .i64 0], []⟩).memory #[.int .i64 0, .int .i64 0, .int .i64 0] := by
  have hw : (DataW.whole enc Tryd.prog ((laidWorld os).forCall (fun _ _ => 0) ⟨#[], #[.int .i64 0, .int .i64 0, .int .i64 0], []⟩).memory Tryd.f8.params.toList (OpenSpec.ofChange Rows.apartSpec).vars false (#[.int .i64 0, .int .i64 0, .int .i64 0] : Array Value).toList 8).map (fun x => (x.1, x.2.1)) =
      some ([.lit (.int .i64 0), .lit (.int .i64 0), .lit (.int .i64 0)], []) := by kernel_rfl
  obtain ⟨⟨x1, x2, x3⟩, hx, hx1⟩ := Option.map_eq_some_iff.1 hw
  simp only [Prod.mk.injEq] at hx1
  obtain ⟨rfl, rfl⟩ := hx1
  exact OpenSpec.preRow_of_cond 8 hx (by kernel_rfl) (fun k hk => by cases hk) (by kernel_rfl) (laid_met os _)

theorem apart_lifted (os : Os) (started : os.Started) (H : Type) (enc : TypeId × Value → H) (F : Stop.Interp) :
    ReturnsInHanded {} Tryd.checked os 8 .any ((OpenSpec.ofChange Rows.apartSpec).preRow enc Tryd.prog Tryd.f8 Rows.apartRow.domain false Rows.apartRow.laid) (((OpenSpec.ofChange Rows.apartSpec).at F).post enc Tryd.prog Tryd.f8 false true false false) := by
  refine returnsInHanded_of_row (C := Tryd.checked) (s := OpenSpec.ofChange Rows.apartSpec) ownK started (by kernel_rfl) Tryd.func8
    (witness_row_atRef (enc := enc) (C := Tryd.checked) false (laidWorld os) #[.int .i64 0, .int .i64 0, .int .i64 0] rfl (by kernel_rfl) (by kernel_rfl) (by kernel_rfl) (apart_witness os enc)) ?_
  intro W base args ds gs before hval0 hW _ _ _ _ hsh _
  have hval : ∀ (j : Nat) t v, Tryd.f8.params[j]? = some t → args[j]? = some v → Value.okWide Tryd.prog W .any base t v := hval0
  have hW' := hW
  obtain ⟨p, q, hA0, hV, rfl, _, _⟩ := hW
  have hA : DataW.TrodAll enc Tryd.prog W 0 (fun _ => true) true Tryd.f8.params.toList args.toList ds p := hA0
  rw [Tryd.params8] at hA hval
  obtain ⟨v0, vs0, d0, ds0, p0, q0, hargs, rfl, rfl, h0, r0⟩ := trodAll_cons hA
  obtain ⟨v1, vs1, d1, ds1, p1, q1, rfl, rfl, rfl, h1, r1⟩ := trodAll_cons r0
  obtain ⟨v2, vs2, d2, ds2, p2, q2, rfl, rfl, rfl, h2, r2⟩ := trodAll_cons r1
  obtain ⟨rfl, rfl, rfl⟩ := trodAll_nil r2
  obtain rfl : args = #[v0, v1, v2] := by cases args; simp_all
  obtain ⟨rfl, rfl⟩ := trodVars_none hV
  obtain ⟨a0, rfl, rfl, rfl, w0⟩ := open_int Tryd.underlying3 (hval 0 3 v0 rfl rfl) h0
  obtain ⟨a1, rfl, rfl, rfl, w1⟩ := open_int Tryd.underlying3 (hval 1 3 v1 rfl rfl) h1
  obtain ⟨a2, rfl, rfl, rfl, w2⟩ := open_int Tryd.underlying3 (hval 2 3 v2 rfl rfl) h2
  clear hA0 hval0
  simp only [List.append_nil] at hW'
  obtain ⟨m, hm⟩ := maxlen_of hsh
  refine (apart_any a0 a1 a2 (i64_bounds w0) (i64_bounds w1) (i64_bounds w2) hm (cell_lt hm)).mono fun e W' ⟨he, hb⟩ => ?_
  subst he
  refine ⟨_, rfl, _, _, _, [], [], [], hW', ?_, ?_, ?_, hb.frame _, fun h => by cases h⟩
  · exact trodAll_mk1 (shut_bool Tryd.underlying4 true)
  · exact trodAll_cons_mk (shut_int Tryd.underlying3 w0) (trodAll_cons_mk (shut_int Tryd.underlying3 w1) (trodAll_cons_mk (shut_int Tryd.underlying3 w2) trodAll_mk0))
  · exact rfl

theorem apart_row : Rows.ApartSaid :=
  OpenClaim.holds_of_cond 8 Tryd.f8 rfl rfl rfl rfl rfl rfl rfl ⟨rfl, rfl, rfl, rfl, rfl⟩ rfl rfl rfl rfl rfl (by kernel_rfl) Tryd.func8 (by kernel_rfl)
    (of_decide_eq_true (by kernel_rfl)) (by unfold Func.isWrapper; rw [if_neg (of_decide_eq_false (by kernel_rfl))]; exact ⟨rfl, rfl⟩)
    (fun os started H enc _ F0 => by rw [OpenClaim.pre_eq_preRow]; exact apart_lifted os started H enc F0)

theorem apart_card : Rows.ApartCardSaid :=
  Claim7.holds_tied_plain_at .later [] [.data, .pinned] true (true, "3f8c4d030d35e1a046a922c0ffa55382a10e77318e3c368b2b9f9a212657129c") true
    apart_row (fun _ h => by cases h) (by kernel_rfl) (fun _ h => by cases h) apart_row_tie rfl ⟨rfl, rfl⟩ (by kernel_rfl) rfl
    (fun f fn hf hfn => by
      obtain rfl : f = 8 := Option.some.inj ((show Tryd.prog.funcNamed "darning/darningkeep.Apart" = some 8 by kernel_rfl).symm.trans hf) |>.symm
      obtain rfl : fn = Tryd.f8 := (Option.some.inj (Tryd.func8.symm.trans hfn)).symm
      exact ⟨by kernel_rfl, fun j t ht => by
        rw [Tryd.params8] at ht
        rcases j with _ | _ | _ | j
        · obtain rfl : t = 3 := by simpa using ht.symm
          exact wants_int
        · obtain rfl : t = 3 := by simpa using ht.symm
          exact wants_int
        · obtain rfl : t = 3 := by simpa using ht.symm
          exact wants_int
        · simp at ht⟩)
    (by kernel_rfl)
#print axioms apart_card
end Go.Proofs.YtcclgodahlinbaaDoor
