import Derived.Test.YtcclgodahlinbaaGreatDoorSewnAll1
import Derived.Test.YtcclgodahlinbaaGreatDoorWReader
import Derived.BigQuiet
import Derived.Deep.QuietTactic
import Derived.Test.YtcclgodahlinbaaGreatDoorWLineT
import Derived.Laws.IdiomStrings
import Derived.Test.YtcclgodahlinbaaGreatDoorRows
import Derived.Test.YtcclgodahlinbaaGreatDoorWNumC
import Derived.Deep.DeepHandedRow
import Derived.Deep.DeepWitnessRowRef
import Derived.Deep.DeepLaidRun
import Derived.LaidLaws
import Derived.LaidHandle
import Derived.LaidSub
import Derived.Stop.LaidErr
import Derived.ProofKit
import Derived.OpenShut
import Derived.Lib.LaidU8
import Derived.Shelf.Vars
import Derived.SevenTiedAt
import Derived.Test.YtcclgodahlinbaaGreatDoorCards
import Derived.Test.YtcclgodahlinbaaGreatDoorTie
import Derived.JoinedCond
import Derived.ChangeSame
import Derived.ChangeSlices
namespace Go.Proofs.YtcclgodahlinbaaGreatDoor
open Go.RowKit Go
set_option maxRecDepth 100000

/-! ### lines turned round -/
theorem old_one (s : StepB) : Dn.oldOf [s] = if s.kind = 43 then [] else [s.text] := by
  unfold Dn.oldOf
  by_cases h : s.kind = 43 <;> simp [h]
theorem new_one (s : StepB) : Dn.newOf [s] = if s.kind = 45 then [] else [s.text] := by
  unfold Dn.newOf
  by_cases h : s.kind = 45 <;> simp [h]
theorem revF_snoc (L : List StepB) (s : StepB) : revF (L ++ [s]) = revStep (revF L) s := by unfold revF; rw [List.foldl_append]; rfl
theorem list_snoc {α : Type} {p : List α → Prop} (h0 : p []) (h1 : ∀ l a, p l → p (l ++ [a])) : ∀ l, p l := by
  intro l
  rw [← List.reverse_reverse l]
  generalize l.reverse = r
  induction r with
  | nil => exact h0
  | cons a r ih => rw [List.reverse_cons]; exact h1 _ _ ih
def Kinds (L : List StepB) : Prop := ∀ s ∈ L, s.kind = 32 ∨ s.kind = 45 ∨ s.kind = 43
theorem rev_texts (L : List StepB) (hK : Kinds L) : Dn.oldOf (revF L).1 = Dn.newOf L ∧ Dn.oldOf (revF L).2 = [] ∧ Dn.newOf (revF L).1 ++ Dn.newOf (revF L).2 = Dn.oldOf L := by
  revert hK
  refine list_snoc (p := fun L => Kinds L → Dn.oldOf (revF L).1 = Dn.newOf L ∧ Dn.oldOf (revF L).2 = [] ∧ Dn.newOf (revF L).1 ++ Dn.newOf (revF L).2 = Dn.oldOf L) ?_ ?_ L
  · intro _; exact ⟨rfl, rfl, rfl⟩
  · intro L s ih hK
    obtain ⟨i1, i2, i3⟩ := ih (fun x hx => hK x (List.mem_append_left _ hx))
    rw [revF_snoc, Dn.newOf_append, Dn.oldOf_append, new_one, old_one]
    unfold revStep
    rcases hK s (by simp) with hk | hk | hk
    · have e1 : ¬ s.kind = 45 := by omega
      have e2 : ¬ s.kind = 43 := by omega
      simp only [e1, e2, if_false]
      refine ⟨?_, rfl, ?_⟩
      · rw [Dn.oldOf_append, Dn.oldOf_append, i1, i2, old_one]; simp
      · rw [Dn.newOf_append, Dn.newOf_append, ← i3, new_one]; simp [Dn.newOf]
    · have e2 : ¬ s.kind = 43 := by omega
      simp only [hk, if_true]
      refine ⟨by rw [i1]; simp, ?_, ?_⟩
      · rw [Dn.oldOf_append, i2, old_one]; simp
      · rw [Dn.newOf_append, new_one, ← List.append_assoc, i3]; simp
    · have e1 : ¬ s.kind = 45 := by omega
      rw [if_neg e1, if_pos hk, if_neg e1, if_pos hk]
      refine ⟨?_, i2, ?_⟩
      · rw [Dn.oldOf_append, i1, old_one]; simp
      · rw [Dn.newOf_append, new_one]; simp [i3]
theorem rev_old {L : List StepB} (hK : Kinds L) : Dn.oldOf (revL L) = Dn.newOf L := by
  obtain ⟨h1, h2, _⟩ := rev_texts L hK
  unfold revL
  rw [Dn.oldOf_append, h1, h2, List.append_nil]
theorem rev_new {L : List StepB} (hK : Kinds L) : Dn.newOf (revL L) = Dn.oldOf L := by
  obtain ⟨_, _, h3⟩ := rev_texts L hK
  unfold revL
  rw [Dn.newOf_append, h3]
theorem rev_mem (L : List StepB) : ∀ s, (s ∈ (revF L).1 ∨ s ∈ (revF L).2) → (s.kind = 32 ∨ s.kind = 45 ∨ s.kind = 43) ∧ ∃ x ∈ L, x.text = s.text := by
  refine list_snoc (p := fun L => ∀ s, (s ∈ (revF L).1 ∨ s ∈ (revF L).2) → (s.kind = 32 ∨ s.kind = 45 ∨ s.kind = 43) ∧ ∃ x ∈ L, x.text = s.text) ?_ ?_ L
  · intro s h; simp [revF] at h
  · intro L x ih s h
    rw [revF_snoc] at h
    unfold revStep at h
    have key : (s ∈ (revF L).1 ∨ s ∈ (revF L).2) ∨ ((s.kind = 32 ∨ s.kind = 45 ∨ s.kind = 43) ∧ s.text = x.text) := by
      split at h
      · rcases h with h | h
        · exact .inl (.inl h)
        · rcases List.mem_append.1 h with h | h
          · exact .inl (.inr h)
          · rw [List.mem_singleton] at h; subst h; exact .inr ⟨.inr (.inr rfl), rfl⟩
      · split at h
        · rcases h with h | h
          · rcases List.mem_append.1 h with h | h
            · exact .inl (.inl h)
            · rw [List.mem_singleton] at h; subst h; exact .inr ⟨.inr (.inl rfl), rfl⟩
          · exact .inl (.inr h)
        · rcases h with h | h
          · rcases List.mem_append.1 h with h | h
            · exact .inl (List.mem_append.1 h)
            · rw [List.mem_singleton] at h; subst h; exact .inr ⟨.inl rfl, rfl⟩
          · simp at h
    rcases key with h | ⟨h1, h2⟩
    · obtain ⟨q1, y, q2, q3⟩ := ih s h
      exact ⟨q1, y, List.mem_append_left _ q2, q3⟩
    · exact ⟨h1, x, by simp, h2.symm⟩
theorem revL_mem {L : List StepB} {s : StepB} (h : s ∈ revL L) : (s.kind = 32 ∨ s.kind = 45 ∨ s.kind = 43) ∧ ∃ x ∈ L, x.text = s.text := rev_mem L s (List.mem_append.1 h)
theorem revL_len (L : List StepB) : (revL L).length = L.length := by unfold revL; rw [List.length_append]; exact revF_len L
theorem revL_fine {L : List StepB} (h : ∀ s ∈ L, Fine s) : ∀ s ∈ revL L, Fine s := by
  intro s hs
  obtain ⟨h1, x, h2, h3⟩ := revL_mem hs
  exact ⟨h1, by have := (h x h2).2; rw [← h3]; exact this⟩
/-- with no change there would be as many old lines as lines -/
theorem all_keep {L : List StepB} (h : ∀ s ∈ L, s.kind = 32) : cO L = L.length ∧ cN L = L.length := by
  have := keeps_same h
  unfold cO cN
  rw [this.1, this.2, List.length_map]
  exact ⟨rfl, rfl⟩
theorem matchM_inv : ∀ (L : List StepB) (f t : Nat) (b : Bool), matchM f t b L = true → f = cO L ∧ t = cN L ∧ (∀ s ∈ L, (s.kind = 32 ∨ s.kind = 45 ∨ s.kind = 43) ∧ (10 : UInt8) ∉ s.text.data.toList) ∧ (b = true ∨ ∃ s ∈ L, s.kind ≠ 32)
  | [], f, t, b, h => by
    simp only [matchM, Bool.and_eq_true, decide_eq_true_eq] at h
    exact ⟨h.1.1, h.1.2, by simp, .inl h.2⟩
  | s :: L, f, t, b, h => by
    simp only [matchM, Bool.and_eq_true, decide_eq_true_eq] at h
    obtain ⟨⟨⟨⟨m1, m2⟩, m3⟩, m4⟩, m5⟩ := h
    obtain ⟨i1, i2, i3, i4⟩ := matchM_inv L _ _ _ m5
    have e1 : cO (s :: L) = kf s.kind + cO L := by
      have : s :: L = [s] ++ L := rfl
      rw [this, cO_append, cO_one]; rfl
    have e2 : cN (s :: L) = kt s.kind + cN L := by
      have : s :: L = [s] ++ L := rfl
      rw [this, cN_append, cN_one]; rfl
    refine ⟨by omega, by omega, ?_, ?_⟩
    · intro x hx
      rcases List.mem_cons.1 hx with rfl | hx
      · exact ⟨m1, no10 m4⟩
      · exact i3 x hx
    · rcases i4 with h | ⟨x, hx, hk⟩
      · simp only [Bool.or_eq_true, decide_eq_true_eq] at h
        rcases h with h | h
        · exact .inl h
        · exact .inr ⟨s, by simp, h⟩
      · exact .inr ⟨x, List.mem_cons_of_mem _ hx, hk⟩
theorem matchM_rev {L : List StepB} {f t : Nat} (h : matchM f t false L = true) : matchM t f false (revL L) = true := by
  obtain ⟨rfl, rfl, h3, h4⟩ := matchM_inv L f t false h
  have hK : Kinds L := fun s hs => (h3 s hs).1
  have e1 : cO (revL L) = cN L := by unfold cO cN; rw [rev_old hK]
  have e2 : cN (revL L) = cO L := by unfold cO cN; rw [rev_new hK]
  rw [← e1, ← e2]
  refine matchM_of (revL L) false (fun s hs => ?_) (.inr ?_)
  · obtain ⟨q1, x, q2, q3⟩ := revL_mem hs
    exact ⟨q1, by rw [← q3]; exact (h3 x q2).2⟩
  · rcases h4 with h4 | ⟨x, hx, hk⟩
    · cases h4
    · refine Classical.byContradiction fun hno => ?_
      have hall : ∀ s ∈ revL L, s.kind = 32 := fun s hs => Classical.byContradiction fun hk => hno ⟨s, hs, hk⟩
      obtain ⟨a1, a2⟩ := all_keep hall
      rw [e1, revL_len] at a1
      rw [e2, revL_len] at a2
      have hlt : cO L + cN L < L.length + L.length := by
        clear hno hall a1 a2 e1 e2 h h3
        induction L with
        | nil => simp at hx
        | cons s L ih =>
          have e1 : cO (s :: L) = kf s.kind + cO L := by
            have : s :: L = [s] ++ L := rfl
            rw [this, cO_append, cO_one]; rfl
          have e2 : cN (s :: L) = kt s.kind + cN L := by
            have : s :: L = [s] ++ L := rfl
            rw [this, cN_append, cN_one]; rfl
          have b1 := cOL_le L
          have b2 := cNL_le L
          have hkb : kf s.kind ≤ 1 ∧ kt s.kind ≤ 1 := by unfold kf kt; constructor <;> split <;> omega
          rw [e1, e2, List.length_cons]
          rcases List.mem_cons.1 hx with rfl | hx
          · have : kf x.kind + kt x.kind ≤ 1 := by
              rcases hK x (by simp) with q | q | q
              · exact absurd q hk
              · rw [q]; decide
              · rw [q]; decide
            omega
          · have := ih (fun y hy => hK y (List.mem_cons_of_mem _ hy)) hx
            omega
      omega
theorem fits_rev {h : HunkM} {en en' : Nat} {gr : Int} (hf : fitsM h en gr = true) (he : (en' : Int) = en + gr) : fitsM (revH h) en' (-gr) = true ∧ ((placeM h.tr h.tc + h.tc : Nat) : Int) = ((placeM h.fr h.fc + h.fc : Nat) : Int) + (gr + h.tc - h.fc) := by
  unfold fitsM at hf ⊢
  simp only [Bool.and_eq_true, decide_eq_true_eq] at hf ⊢
  obtain ⟨⟨⟨⟨⟨⟨⟨f1, f2⟩, f3⟩, f4⟩, f5⟩, f6⟩, f7⟩, f8⟩ := hf
  have e1 : (revH h).fr = h.tr := rfl
  have e2 : (revH h).fc = h.tc := rfl
  have e3 : (revH h).tr = h.fr := rfl
  have e4 : (revH h).tc = h.fc := rfl
  rw [e1, e2, e3, e4]
  refine ⟨⟨⟨⟨⟨⟨⟨⟨f4, f5⟩, f6⟩, f1⟩, f2⟩, f3⟩, ?_⟩, ?_⟩, ?_⟩ <;> omega
theorem right_rev : ∀ (hs : List HunkM) (en en' : Nat) (gr : Int), rightM en gr hs = true → (en' : Int) = en + gr → rightM en' (-gr) (hs.map revH) = true
  | [], _, _, _, _, _ => rfl
  | h :: hs, en, en', gr, hr, he => by
    rw [rightM] at hr
    simp only [Bool.and_eq_true, decide_eq_true_eq] at hr
    obtain ⟨⟨⟨r1, r2⟩, r3⟩, r4⟩ := hr
    obtain ⟨q1, q2⟩ := fits_rev r1 he
    have ih := right_rev hs _ (placeM h.tr h.tc + h.tc) _ r4 q2
    rw [List.map_cons, rightM, q1]
    have e1 : matchM (revH h).fc (revH h).tc false (revH h).lines = true := matchM_rev r2
    have e2 : (revH h).lines.length ≤ 1000 := by show (revL h.lines).length ≤ 1000; rw [revL_len]; exact r3
    have e3 : rightM (placeM (revH h).fr (revH h).fc + (revH h).fc) (-gr + (revH h).tc - (revH h).fc) (hs.map revH) = true := by
      have : (-gr + ((revH h).tc : Int) - ((revH h).fc : Int)) = -(gr + h.tc - h.fc) := by show -gr + (h.fc : Int) - (h.tc : Int) = _; omega
      rw [this]
      exact ih
    rw [e1, e3]
    simp [e2]
end Go.Proofs.YtcclgodahlinbaaGreatDoor

namespace Go.Proofs.YtcclgodahlinbaaGreatDoor
open Go.RowKit Go
set_option maxRecDepth 100000

/-! ### turned twice -/
/-- no add stands right ahead of a drop -/
def NoAD : List StepB → Prop
  | [] => True
  | s :: l => (s.kind = 43 → ∀ t, l.head? = some t → t.kind ≠ 45) ∧ NoAD l
theorem NoAD.right {a b : List StepB} (h : NoAD (a ++ b)) : NoAD b := by
  induction a with
  | nil => exact h
  | cons s a ih => exact ih h.2
theorem NoAD.left {a b : List StepB} (h : NoAD (a ++ b)) : NoAD a := by
  induction a with
  | nil => trivial
  | cons s a ih =>
    refine ⟨fun hk t ht => h.1 hk t ?_, ih h.2⟩
    cases a with
    | nil => simp at ht
    | cons x a => simpa using ht
theorem spec_noAD : ∀ (n : Nat) (x y : List ByteArray), x.length + y.length ≤ n → NoAD (Dn.spec x y)
  | 0, x, y, h => by
    obtain rfl : x = [] := List.eq_nil_of_length_eq_zero (by omega)
    obtain rfl : y = [] := List.eq_nil_of_length_eq_zero (by omega)
    trivial
  | n + 1, x, y, h => by
    cases x with
    | nil =>
      cases y with
      | nil => trivial
      | cons b r =>
        rw [Dn.spec_nc]
        refine ⟨fun _ t ht => ?_, spec_noAD n [] r (by simp at h ⊢; omega)⟩
        cases r with
        | nil => rw [Dn.spec_nn] at ht; simp at ht
        | cons c r => rw [Dn.spec_nc] at ht; simp at ht; rw [← ht]; simp
    | cons a l =>
      cases y with
      | nil =>
        rw [Dn.spec_cn]
        exact ⟨fun hk => absurd hk (by simp), spec_noAD n l [] (by simp at h ⊢; omega)⟩
      | cons b r =>
        rw [Dn.spec_cc]
        by_cases e : a = b
        · rw [if_pos e]
          exact ⟨fun hk => absurd hk (by simp), spec_noAD n l r (by simp at h; omega)⟩
        · rw [if_neg e]
          by_cases d : Dn.dist l (b :: r) ≤ Dn.dist (a :: l) r
          · rw [if_pos d]
            exact ⟨fun hk => absurd hk (by simp), spec_noAD n l (b :: r) (by simp at h ⊢; omega)⟩
          · rw [if_neg d]
            refine ⟨fun _ t ht hk => d ?_, spec_noAD n (a :: l) r (by simp at h ⊢; omega)⟩
            have h1 := Dn.dist_r1 b l r
            cases r with
            | nil =>
              rw [Dn.dist_nil_r, List.length_cons]
              rw [Dn.dist_nil_r] at h1
              omega
            | cons c r =>
              rw [Dn.spec_cc] at ht
              by_cases e2 : a = c
              · rw [if_pos e2] at ht; simp at ht; rw [← ht] at hk; exact absurd hk (by simp)
              · rw [if_neg e2] at ht
                by_cases d2 : Dn.dist l (c :: r) ≤ Dn.dist (a :: l) r
                · rw [Dn.dist_ne e2, Nat.min_eq_left d2]
                  omega
                · rw [if_neg d2] at ht; simp at ht; rw [← ht] at hk; exact absurd hk (by simp)
theorem way_noAD (X Y : List ByteArray) : NoAD (Dn.wayM X Y) := by rw [Dn.wayM_spec]; exact spec_noAD _ X Y (Nat.le_refl _)
def toAdd (s : StepB) : StepB := ⟨43, s.text⟩
def toDrop (s : StepB) : StepB := ⟨45, s.text⟩
theorem rev_drops : ∀ (D : List StepB) (r : List StepB × List StepB), (∀ s ∈ D, s.kind = 45) → D.foldl revStep r = (r.1, r.2 ++ D.map toAdd)
  | [], r, _ => by simp
  | s :: D, r, h => by
    rw [List.foldl_cons, rev_drops D _ (fun x hx => h x (List.mem_cons_of_mem _ hx))]
    unfold revStep
    rw [if_pos (h s (by simp))]
    simp [toAdd]
theorem rev_adds : ∀ (A : List StepB) (r : List StepB × List StepB), (∀ s ∈ A, s.kind = 43) → A.foldl revStep r = (r.1 ++ A.map toDrop, r.2)
  | [], r, _ => by simp
  | s :: A, r, h => by
    have hk := h s (by simp)
    rw [List.foldl_cons, rev_adds A _ (fun x hx => h x (List.mem_cons_of_mem _ hx))]
    unfold revStep
    rw [if_neg (by omega), if_pos hk]
    simp [toDrop]
theorem rev_keep (P : List StepB) {k : StepB} (hk : k.kind = 32) : revF (P ++ [k]) = (revL P ++ [k], []) := by
  rw [revF_snoc]
  unfold revStep
  rw [if_neg (by omega), if_neg (by omega)]
  have : (⟨32, k.text⟩ : StepB) = k := by cases k; simp at hk; subst hk; rfl
  rw [this]
  rfl
theorem revL_tail {P D A : List StepB} (hP : revF P = (revL P, [])) (hD : ∀ s ∈ D, s.kind = 45) (hA : ∀ s ∈ A, s.kind = 43) : revL (P ++ D ++ A) = revL P ++ A.map toDrop ++ D.map toAdd := by
  have : revF (P ++ D ++ A) = (revL P ++ A.map toDrop, D.map toAdd) := by
    have h1 : revF (P ++ D ++ A) = A.foldl revStep (D.foldl revStep (revF P)) := by unfold revF; rw [List.foldl_append, List.foldl_append]
    rw [h1, hP, rev_drops D _ hD, rev_adds A _ hA]
    simp
  show (revF (P ++ D ++ A)).1 ++ (revF (P ++ D ++ A)).2 = _
  rw [this]
theorem back_add {A : List StepB} (hA : ∀ s ∈ A, s.kind = 43) : (A.map toDrop).map toAdd = A := by
  rw [List.map_map]
  conv => rhs; rw [← List.map_id A]
  refine List.map_congr_left fun s hs => ?_
  have := hA s hs
  cases s
  simp at this
  subst this
  rfl
theorem back_drop {D : List StepB} (hD : ∀ s ∈ D, s.kind = 45) : (D.map toAdd).map toDrop = D := by
  rw [List.map_map]
  conv => rhs; rw [← List.map_id D]
  refine List.map_congr_left fun s hs => ?_
  have := hD s hs
  cases s
  simp at this
  subst this
  rfl
theorem no_keep : ∀ {L : List StepB}, Kinds L → NoAD L → (∀ s ∈ L, s.kind ≠ 32) → ∃ D A, L = D ++ A ∧ (∀ s ∈ D, s.kind = 45) ∧ ∀ s ∈ A, s.kind = 43
  | [], _, _, _ => ⟨[], [], rfl, by simp, by simp⟩
  | s :: L, hK, hN, h => by
    obtain ⟨D, A, e, hD, hA⟩ := no_keep (fun x hx => hK x (List.mem_cons_of_mem _ hx)) hN.2 (fun x hx => h x (List.mem_cons_of_mem _ hx))
    have h0 := h s (by simp)
    rcases hK s (by simp) with hk | hk | hk
    · exact absurd hk h0
    · refine ⟨s :: D, A, by rw [e]; rfl, fun x hx => ?_, hA⟩
      rcases List.mem_cons.1 hx with rfl | hx
      · exact hk
      · exact hD x hx
    · cases D with
      | nil =>
        refine ⟨[], s :: A, by rw [e]; rfl, by simp, fun x hx => ?_⟩
        rcases List.mem_cons.1 hx with rfl | hx
        · exact hk
        · exact hA x hx
      | cons d D => exact absurd (hD d (by simp)) (hN.1 hk d (by rw [e]; rfl))
theorem last_keep : ∀ {L : List StepB}, (∃ s ∈ L, s.kind = 32) → ∃ P k R, L = P ++ [k] ++ R ∧ k.kind = 32 ∧ ∀ s ∈ R, s.kind ≠ 32
  | [], h => by obtain ⟨s, hs, _⟩ := h; simp at hs
  | s :: L, h => by
    by_cases hL : ∃ x ∈ L, x.kind = 32
    · obtain ⟨P, k, R, e, h1, h2⟩ := last_keep hL
      exact ⟨s :: P, k, R, by rw [e]; rfl, h1, h2⟩
    · obtain ⟨x, hx, hk⟩ := h
      rcases List.mem_cons.1 hx with rfl | hx
      · exact ⟨[], x, L, rfl, hk, fun y hy e => hL ⟨y, hy, e⟩⟩
      · exact absurd ⟨x, hx, hk⟩ hL
theorem rev_twice : ∀ (n : Nat) (L : List StepB), L.length ≤ n → Kinds L → NoAD L → revL (revL L) = L
  | n, L, hl, hK, hN => by
    by_cases hk : ∃ s ∈ L, s.kind = 32
    · obtain ⟨P, k, R, rfl, h1, h2⟩ := last_keep hk
      have hKR : Kinds R := fun x hx => hK x (List.mem_append_right _ hx)
      obtain ⟨D, A, rfl, hD, hA⟩ := no_keep hKR hN.right h2
      cases n with
      | zero => simp at hl
      | succ n =>
        have hPl : P.length ≤ n := by simp at hl; omega
        have ih := rev_twice n P hPl (fun x hx => hK x (by simp [hx])) (NoAD.left (NoAD.left hN))
        have hP1 : revF (P ++ [k]) = (revL (P ++ [k]), []) := by rw [rev_keep P h1]; unfold revL; rw [rev_keep P h1]; simp [revL]
        have hPk : revL (P ++ [k]) = revL P ++ [k] := by show (revF (P ++ [k])).1 ++ (revF (P ++ [k])).2 = _; rw [rev_keep P h1]; simp
        have e1 : revL (P ++ [k] ++ (D ++ A)) = revL P ++ [k] ++ A.map toDrop ++ D.map toAdd := by
          rw [← List.append_assoc, revL_tail hP1 hD hA, hPk]
        rw [e1]
        have hQ1 : revF (revL P ++ [k]) = (revL (revL P ++ [k]), []) := by
          have : revL (revL P ++ [k]) = revL (revL P) ++ [k] := by show (revF (revL P ++ [k])).1 ++ (revF (revL P ++ [k])).2 = _; rw [rev_keep (revL P) h1]; simp
          rw [this, rev_keep (revL P) h1]
        rw [revL_tail hQ1 (fun s hs => by obtain ⟨x, _, rfl⟩ := List.mem_map.1 hs; rfl) (fun s hs => by obtain ⟨x, _, rfl⟩ := List.mem_map.1 hs; rfl), back_add hA, back_drop hD]
        have : revL (revL P ++ [k]) = revL (revL P) ++ [k] := by show (revF (revL P ++ [k])).1 ++ (revF (revL P ++ [k])).2 = _; rw [rev_keep (revL P) h1]; simp
        rw [this, ih]
        simp
    · obtain ⟨D, A, rfl, hD, hA⟩ := no_keep hK hN (fun s hs e => hk ⟨s, hs, e⟩)
      have h0 : revF ([] : List StepB) = (revL [], []) := rfl
      have e1 := revL_tail h0 hD hA
      rw [List.nil_append] at e1
      rw [e1]
      have e2 : revL ([] : List StepB) ++ A.map toDrop ++ D.map toAdd = [] ++ A.map toDrop ++ D.map toAdd := rfl
      rw [e2, revL_tail h0 (fun s hs => by obtain ⟨x, _, rfl⟩ := List.mem_map.1 hs; rfl) (fun s hs => by obtain ⟨x, _, rfl⟩ := List.mem_map.1 hs; rfl), back_add hA, back_drop hD]
      rfl
end Go.Proofs.YtcclgodahlinbaaGreatDoor

namespace Go.Proofs.YtcclgodahlinbaaGreatDoor
open Go.RowKit Go
set_option maxRecDepth 100000

/-! ### each hunk at its own place -/
def Fits (T : List ByteArray) : Nat → List HunkM → List ByteArray → Prop
  | p, [], R => R = T.drop p
  | p, h :: hs, R => p ≤ placeM h.fr h.fc ∧ placeM h.fr h.fc + (Dn.oldOf h.lines).length ≤ T.length ∧ (T.drop (placeM h.fr h.fc)).take (Dn.oldOf h.lines).length = Dn.oldOf h.lines ∧
      ∃ R', R = (T.drop p).take (placeM h.fr h.fc - p) ++ Dn.newOf h.lines ++ R' ∧ Fits T (placeM h.fr h.fc + (Dn.oldOf h.lines).length) hs R'
theorem aroundL_head (p : Int) : ∀ k, ∃ r, aroundL p k = p :: r
  | 0 => ⟨[], rfl⟩
  | k + 1 => by
    obtain ⟨r, e⟩ := aroundL_head p k
    exact ⟨r ++ [p + ((k : Int) + 1), p - ((k : Int) + 1)], by rw [aroundL, e]; rfl⟩
theorem sew_own {T : List ByteArray} {h : HunkM} {st : SewS} {fz : Nat} (hm : st.mv = 0) (h1 : st.en ≤ placeM h.fr h.fc) (h2 : placeM h.fr h.fc + (Dn.oldOf h.lines).length ≤ T.length) (h3 : (T.drop (placeM h.fr h.fc)).take (Dn.oldOf h.lines).length = Dn.oldOf h.lines) :
    sewM T st h fz = (⟨st.t ++ textL ((T.drop st.en).take (placeM h.fr h.fc - st.en)) ++ textL (Dn.newOf h.lines), placeM h.fr h.fc + (Dn.oldOf h.lines).length, 0⟩, ⟨true, 0, 0⟩) := by
  have hf : sewAt T st.en st.mv h 0 = some ((placeM h.fr h.fc : Nat) : Int) := by
    unfold sewAt
    obtain ⟨r, e⟩ := aroundL_head ((placeM h.fr h.fc : Nat) + st.mv) T.length
    rw [e, pieceO_zero, hm, Int.add_zero]
    rw [List.find?_cons_of_pos]
    simp only [Nat.zero_min, Int.natCast_zero, Int.add_zero]
    unfold standM
    rw [decide_eq_true_eq]
    exact ⟨by omega, by omega, by rw [Int.toNat_natCast]; exact h3⟩
  unfold sewM sewFind
  have hr : sewRounds h fz = (min fz (max (keepsK h.lines h.lines.length).1 (keepsK h.lines h.lines.length).2.1)) + 1 := rfl
  rw [hr]
  unfold sewFrom
  rw [hf]
  simp only
  unfold sewTo
  rw [pieceO_zero, pieceF_zero]
  simp
theorem apply_own {T : List ByteArray} {fz : Nat} : ∀ (hs : List HunkM) (st : SewS) (R : List ByteArray), st.mv = 0 → Fits T st.en hs R →
    (∀ m ∈ (applyFrom T fz st hs).2, m = ⟨true, 0, 0⟩) ∧ (applyFrom T fz st hs).1.t ++ textL (T.drop (applyFrom T fz st hs).1.en) = st.t ++ textL R
  | [], st, R, _, h => by
    refine ⟨by simp [applyFrom], ?_⟩
    have : R = T.drop st.en := h
    rw [this]
    rfl
  | h :: hs, st, R, hm, hf => by
    obtain ⟨h1, h2, h3, R', e, h4⟩ := hf
    have hs1 := sew_own (fz := fz) hm h1 h2 h3
    obtain ⟨i1, i2⟩ := apply_own hs ⟨st.t ++ textL ((T.drop st.en).take (placeM h.fr h.fc - st.en)) ++ textL (Dn.newOf h.lines), placeM h.fr h.fc + (Dn.oldOf h.lines).length, 0⟩ R' rfl h4
    unfold applyFrom
    simp only [hs1]
    refine ⟨?_, ?_⟩
    · intro m hmm
      rcases List.mem_cons.1 hmm with rfl | hmm
      · rfl
      · exact i1 m hmm
    · rw [i2, e, textL_append, textL_append]
      simp
theorem apply_fits {T R : List ByteArray} {fz : Nat} {hs : List HunkM} (h : Fits T 0 hs R) : (∀ m ∈ applyS T fz hs, m = ⟨true, 0, 0⟩) ∧ applyT T fz hs = textB R := by
  obtain ⟨h1, h2⟩ := apply_own (fz := fz) hs ⟨[], 0, 0⟩ R rfl h
  unfold applyS applyT applyK textB
  rw [List.take_length]
  exact ⟨h1, by rw [h2]; rfl⟩
/-- windows of a way, seen from one of its two texts -/
structure Side (L : List StepB) (o n : List StepB → List ByteArray) (mk : Nat × Nat → HunkM) : Prop where
  oa : ∀ a b, o (a ++ b) = o a ++ o b
  na : ∀ a b, n (a ++ b) = n a ++ n b
  kp : ∀ M : List StepB, (∀ s ∈ M, s.kind = 32) → o M = n M
  pl : ∀ q, placeM (mk q).fr (mk q).fc = (o (L.take q.1)).length
  ol : ∀ q, Dn.oldOf (mk q).lines = o ((L.take q.2).drop q.1)
  nl : ∀ q, Dn.newOf (mk q).lines = n ((L.take q.2).drop q.1)
theorem side_fits {L : List StepB} {o n : List StepB → List ByteArray} {mk : Nat × Nat → HunkM} (S : Side L o n mk) : ∀ (ws : List (Nat × Nat)) (p : Nat), p ≤ L.length → Wins L p ws → Fits (o L) (o (L.take p)).length (ws.map mk) (n (L.drop p))
  | [], p, hp, hw => by
    show n (L.drop p) = (o L).drop (o (L.take p)).length
    have hk : ∀ s ∈ L.drop p, s.kind = 32 := by
      have := kept_seg hw.2
      rw [List.take_length] at this
      exact this
    have e : o L = o (L.take p) ++ o (L.drop p) := by rw [← S.oa, List.take_append_drop]
    rw [e, List.drop_left' rfl, S.kp _ hk]
  | (s, e) :: ws, p, hp, hw => by
    obtain ⟨h1, h2, h3, h4, _, h5⟩ := hw
    have ih := side_fits S ws e h3 h5
    have hk := kept_seg h4
    have eS : o (L.take s) = o (L.take p) ++ o ((L.take s).drop p) := by
      conv => lhs; rw [take_seg L h1, S.oa]
    have eE : o (L.take e) = o (L.take s) ++ o ((L.take e).drop s) := by
      conv => lhs; rw [take_seg L (Nat.le_of_lt h2), S.oa]
    have eL : o L = o (L.take e) ++ o (L.drop e) := by rw [← S.oa, List.take_append_drop]
    have hpl := S.pl (s, e)
    have hol := S.ol (s, e)
    have hnl := S.nl (s, e)
    simp only at hpl hol hnl
    rw [List.map_cons]
    unfold Fits
    rw [hpl, hol, hnl]
    have l1 : (o (L.take s)).length = (o (L.take p)).length + (o ((L.take s).drop p)).length := by rw [eS, List.length_append]
    have l2 : (o (L.take e)).length = (o (L.take s)).length + (o ((L.take e).drop s)).length := by rw [eE, List.length_append]
    have l3 : (o L).length = (o (L.take e)).length + (o (L.drop e)).length := by rw [eL, List.length_append]
    refine ⟨by omega, by omega, ?_, n (L.drop e), ?_, ?_⟩
    · rw [eL, eE, List.append_assoc, List.drop_left' rfl, List.take_left' rfl]
    · have d1 : n (L.drop p) = n ((L.take s).drop p) ++ n ((L.take e).drop s) ++ n (L.drop e) := by
        rw [← S.na, ← S.na]
        congr 1
        have q1 : L.drop p = (L.take e).drop p ++ L.drop e := by
          conv => lhs; rw [← List.take_append_drop e L]
          rw [List.drop_append_of_le_length (by rw [List.length_take]; omega)]
        have q2 : (L.take e).drop p = (L.take s).drop p ++ (L.take e).drop s := by
          conv => lhs; rw [take_seg L (Nat.le_of_lt h2)]
          rw [List.drop_append_of_le_length (by rw [List.length_take]; omega)]
        rw [q1, q2]
      rw [d1, ← S.kp _ hk]
      congr 2
      rw [eL, eE, eS, List.append_assoc, List.append_assoc, List.drop_left' rfl, List.take_left' (by rw [← eS]; omega)]
    · rw [← l2]
      exact ih
structure SewnFacts (X Y : List ByteArray) (hs : List HunkM) : Prop where
  there : Fits X 0 hs Y
  back : Fits Y 0 (hs.map revH) X
  rright : rightM 0 0 (hs.map revH) = true
  rok : (hs.map revH).all hunkOkB = true
  rsm : ∀ h ∈ hs.map revH, h.lines.length ≤ 1000 ∧ ∀ s ∈ h.lines, Fine s
  twice : (hs.map revH).map revH = hs
  lines : ∀ h ∈ hs, h.lines.length ≤ 1000
  empty : X = Y → hs = []
theorem sewn_facts {X Y : List ByteArray} (c : Nat) (hX : ∀ s ∈ X, (10 : UInt8) ∉ s.data.toList ∧ s.size ≤ 15) (hY : ∀ s ∈ Y, (10 : UInt8) ∉ s.data.toList ∧ s.size ≤ 15) (hx : X.length ≤ 60) (hy : Y.length ≤ 60) {hs : List HunkM} (hF : DiffFacts X Y c hs) : SewnFacts X Y hs := by
  obtain ⟨w1, w2, w3⟩ := Dn.wayM_way X Y
  have hlen : (Dn.wayM X Y).length ≤ 120 := by
    have := way_len X Y
    omega
  have hAD := way_noAD X Y
  have hsp : X = Y → ∀ s ∈ Dn.wayM X Y, s.kind = 32 := by
    rintro rfl
    rw [Dn.wayM_spec]
    clear w1 w2 w3 hlen hAD hX hY hx hy hF
    induction X with
    | nil => intro s hs; rw [Dn.spec_nn] at hs; simp at hs
    | cons a l ih =>
      intro s hs
      rw [Dn.spec_cc, if_pos rfl] at hs
      rcases List.mem_cons.1 hs with rfl | hs
      · rfl
      · exact ih s hs
  have hok : WayOk (Dn.wayM X Y) := by
    intro s hs
    refine ⟨w3 s hs, ?_⟩
    rcases way_text hs with h | h
    · exact hX _ h
    · exact hY _ h
  obtain ⟨ws, e1, e2⟩ := hunks_wins (Dn.wayM X Y) c
  have ehs : hs = ws.map fun p => numL (mkW (Dn.wayM X Y) p) := hF.eq.symm.trans e1
  generalize Dn.wayM X Y = L at *
  have hmem : ∀ q : Nat × Nat, ∀ x ∈ (L.take q.2).drop q.1, x ∈ L := fun q x hx => List.mem_of_mem_take (List.mem_of_mem_drop hx)
  have hKd : ∀ q : Nat × Nat, Kinds ((L.take q.2).drop q.1) := fun q x hx => w3 x (hmem q x hx)
  have hSeg : ∀ q : Nat × Nat, ((L.take q.2).drop q.1).length ≤ 120 := fun q => by rw [List.length_drop, List.length_take]; omega
  have S1 : Side L Dn.oldOf Dn.newOf (fun p => numL (mkW L p)) := ⟨Dn.oldOf_append, Dn.newOf_append, fun M h => by rw [(keeps_same h).1, (keeps_same h).2], fun q => place_num _ _, fun q => rfl, fun q => rfl⟩
  have S2 : Side L Dn.newOf Dn.oldOf (fun p => revH (numL (mkW L p))) := ⟨Dn.newOf_append, Dn.oldOf_append, fun M h => by rw [(keeps_same h).1, (keeps_same h).2], fun q => place_num _ _, fun q => rev_old (hKd q), fun q => rev_new (hKd q)⟩
  have f1 := side_fits S1 ws 0 (Nat.zero_le _) e2
  have f2 := side_fits S2 ws 0 (Nat.zero_le _) e2
  have hmap : hs.map revH = ws.map fun p => revH (numL (mkW L p)) := by rw [ehs, List.map_map]; rfl
  rw [List.drop_zero, w1, w2] at f1 f2
  have hrr := right_rev hs 0 0 0 hF.right rfl
  have hln : ∀ h ∈ hs, ∃ q, h = numL (mkW L q) := by
    intro h hh
    rw [ehs] at hh
    obtain ⟨q, _, rfl⟩ := List.mem_map.1 hh
    exact ⟨q, rfl⟩
  have hls : ∀ h ∈ hs, h.lines.length ≤ 1000 := by
    intro h hh
    obtain ⟨q, rfl⟩ := hln h hh
    have := hSeg q
    show ((L.take q.2).drop q.1).length ≤ 1000
    omega
  refine ⟨?_, ?_, hrr, ?_, ?_, ?_, hls, ?_⟩
  · rw [ehs]; exact f1
  · rw [hmap]; exact f2
  · rw [List.all_eq_true]
    intro h hh
    obtain ⟨g, hg, rfl⟩ := List.mem_map.1 hh
    have hgok := (List.all_eq_true.1 hF.ok) g hg
    obtain ⟨q, rfl⟩ := hln g hg
    have hsm := (hF.sm _ hg).1
    have hw2 : (textL (Dn.newOf (revL ((L.take q.2).drop q.1)))).length ≤ 10000 := by
      rw [rev_new (hKd q)]
      have := textL_bound (Dn.oldOf ((L.take q.2).drop q.1)) 15 (by
        intro t ht
        obtain ⟨x, hx, rfl⟩ := List.mem_map.1 ht
        exact (hok x (hmem q x (List.mem_filter.1 hx).1)).2.2)
      have h6 : (Dn.oldOf ((L.take q.2).drop q.1)).length ≤ 120 := by
        have := cOL_le ((L.take q.2).drop q.1)
        have := hSeg q
        have e : (Dn.oldOf ((L.take q.2).drop q.1)).length = cO ((L.take q.2).drop q.1) := rfl
        omega
      have := Nat.mul_le_mul_right 16 h6
      omega
    have hmin : min (revH (numL (mkW L q))).fc 1 ≤ (revH (numL (mkW L q))).fr := by
      show min (cN ((L.take q.2).drop q.1)) 1 ≤ cN (L.take q.1) + (if cN ((L.take q.2).drop q.1) = 0 then 0 else 1)
      split <;> omega
    unfold hunkOkB
    simp only [Bool.and_eq_true, decide_eq_true_eq, List.all_eq_true, Bool.or_eq_true, beq_iff_eq]
    refine ⟨⟨⟨⟨fun x hx => ?_, ?_⟩, ?_⟩, hmin⟩, hw2⟩
    · have := (revL_mem hx).1
      omega
    · have := hSeg q
      show (revL ((L.take q.2).drop q.1)).length ≤ 1000
      rw [revL_len]
      omega
    · have := hsm.2.2.1
      show (numL (mkW L q)).tr ≤ 40000
      omega
  · intro h hh
    obtain ⟨g, hg, rfl⟩ := List.mem_map.1 hh
    refine ⟨?_, revL_fine (hF.sm g hg).2⟩
    show (revL g.lines).length ≤ 1000
    rw [revL_len]
    exact hls g hg
  · rw [List.map_map]
    conv => rhs; rw [← List.map_id hs]
    refine List.map_congr_left fun g hg => ?_
    obtain ⟨q, rfl⟩ := hln g hg
    have hsegAD : NoAD ((L.take q.2).drop q.1) := by
      have h1 : NoAD (L.take q.2) := NoAD.left (b := L.drop q.2) (by rw [List.take_append_drop]; exact hAD)
      exact NoAD.right (a := (L.take q.2).take q.1) (by rw [List.take_append_drop]; exact h1)
    have := rev_twice _ _ (Nat.le_refl _) (hKd q) hsegAD
    show (⟨_, _, _, _, revL (revL ((L.take q.2).drop q.1))⟩ : HunkM) = _
    rw [this]
    rfl
  · intro e
    have hall := hsp e
    rw [ehs]
    cases ws with
    | nil => rfl
    | cons q ws =>
      obtain ⟨s, e⟩ := q
      obtain ⟨_, _, _, _, ⟨j, hj, _, _, hk⟩, _⟩ := e2
      exact absurd (hall L[j] (List.getElem_mem hj)) hk
end Go.Proofs.YtcclgodahlinbaaGreatDoor

namespace Go.Proofs.YtcclgodahlinbaaGreatDoor
open Go.RowKit Go
set_option maxRecDepth 100000

abbrev hkObj (h : HunkM) (a : Option Addr) (c : Nat) : Obj := .cells #[.int .i64 (h.fr : Int), .int .i64 (h.fc : Int), .int .i64 (h.tr : Int), .int .i64 (h.tc : Int), .slice a h.lines.length c] 61 (0, 0)
set_option maxHeartbeats 8000000 in
theorem same_yes {hs : List HunkM} {a b : Option Addr} {ca cb : Nat} {w : World} (hA : HunksAt w.heap.size w (.slice a hs.length ca) hs) (hB : HunksAt w.heap.size w (.slice b hs.length cb) hs) (hL : hs.length ≤ 1000) (hl : ∀ h ∈ hs, h.lines.length ≤ 1000) :
    Calls Tryz.prog 19 #[.agg #[.slice a hs.length ca], .agg #[.slice b hs.length cb]] w fun e w' => e = .returned (.bool true) ∧ Below w.heap.size w w' := by
  have hb0 := ((Below.refl w.heap.size w).alloc (Nat.le_refl _) (.cells #[.slice a hs.length ca] 32)).alloc (by simp) (.cells #[.slice b hs.length cb] 32)
  have hP1 := heap_alloc_new w (.cells #[.slice a hs.length ca] 32)
  have hP2 := heap_alloc_new (w.alloc (.cells #[.slice a hs.length ca] 32)) (.cells #[.slice b hs.length cb] 32)
  rw [World.size_alloc] at hP2
  have hP1' := (Below.heap_alloc (w.alloc (.cells #[.slice a hs.length ca] 32)) (.cells #[.slice b hs.length cb] 32) w.heap.size (by simp)).trans hP1
  have hz : ((w.alloc (.cells #[.slice a hs.length ca] 32)).alloc (.cells #[.slice b hs.length cb] 32)).heap.size = w.heap.size + 2 := by simp
  go_enter Tryz.func19, Tryz.ntmps19
  go_wp2_with fail
  generalize (w.alloc (.cells #[.slice a hs.length ca] 32)).alloc (.cells #[.slice b hs.length cb] 32) = W0 at *
  clear hP1
  go_loopg [5] hs.length (fun g t wr => ∃ k : Nat, g = hs.length - k ∧ k ≤ hs.length ∧ t = .int .i64 k ∧ Below W0.heap.size W0 wr)
  case atStart => exact ⟨0, by omega, by omega, rfl, Below.refl _ _⟩
  case round =>
    obtain ⟨k, hgk, hkl, rfl, hbel⟩ := hrel
    have hG : Hid (gk = hs.length - k) := hgk
    clear hgk
    have hsw := hbel.size
    have hbw := hb0.trans (hbel.mono (by omega))
    have p1 : wr.cell? ⟨w.heap.size, 0, none⟩ = some (.slice a hs.length ca) := cell_of ((hbel.block w.heap.size (by omega)).trans hP1') rfl
    have p2 : wr.cell? ⟨w.heap.size + 1, 0, none⟩ = some (.slice b hs.length cb) := cell_of ((hbel.block (w.heap.size + 1) (by omega)).trans hP2) rfl
    by_cases hk : k < hs.length
    · have hkI : (k : Int) < hs.length := by omega
      obtain ⟨bA, a1, c1, rfl, hbA, r0, r1, r2, r3, r4, hsA⟩ := (hA.below hbw).at hk
      obtain ⟨bB, a2, c2, rfl, hbB, t0, t1, t2, t3, t4, hsB⟩ := (hB.below hbw).at hk
      have l1 := hl _ (List.getElem_mem hk)
      generalize hs[k] = h at *
      have q1 := (Below.refl wr.heap.size wr).alloc (Nat.le_refl _) (hkObj h a1 c1)
      have q2 := q1.alloc q1.size (hkObj h a2 c2)
      have hX1 := heap_alloc_new wr (hkObj h a1 c1)
      have hX2 := heap_alloc_new (wr.alloc (hkObj h a1 c1)) (hkObj h a2 c2)
      rw [World.size_alloc] at hX2
      have hX1' := (Below.heap_alloc (wr.alloc (hkObj h a1 c1)) (hkObj h a2 c2) wr.heap.size (by simp)).trans hX1
      have hzU : ((wr.alloc (hkObj h a1 c1)).alloc (hkObj h a2 c2)).heap.size = wr.heap.size + 2 := by simp
      have t0' : (wr.alloc (hkObj h a1 c1)).cell? ⟨bB, k * 5, none⟩ = some (.int .i64 (h.fr : Int)) := (q1.cell (p := ⟨bB, k * 5, none⟩) (by show bB < wr.heap.size; omega)).trans t0
      have t1' : (wr.alloc (hkObj h a1 c1)).cell? ⟨bB, k * 5 + 1, none⟩ = some (.int .i64 (h.fc : Int)) := (q1.cell (p := ⟨bB, k * 5 + 1, none⟩) (by show bB < wr.heap.size; omega)).trans t1
      have t2' : (wr.alloc (hkObj h a1 c1)).cell? ⟨bB, k * 5 + 2, none⟩ = some (.int .i64 (h.tr : Int)) := (q1.cell (p := ⟨bB, k * 5 + 2, none⟩) (by show bB < wr.heap.size; omega)).trans t2
      have t3' : (wr.alloc (hkObj h a1 c1)).cell? ⟨bB, k * 5 + 3, none⟩ = some (.int .i64 (h.tc : Int)) := (q1.cell (p := ⟨bB, k * 5 + 3, none⟩) (by show bB < wr.heap.size; omega)).trans t3
      have t4' : (wr.alloc (hkObj h a1 c1)).cell? ⟨bB, k * 5 + 4, none⟩ = some (.slice a2 h.lines.length c2) := (q1.cell (p := ⟨bB, k * 5 + 4, none⟩) (by show bB < wr.heap.size; omega)).trans t4
      have p2' : (wr.alloc (hkObj h a1 c1)).cell? ⟨w.heap.size + 1, 0, none⟩ = some (.slice (some ⟨bB, 0, none⟩) hs.length cb) := (q1.cell (p := ⟨w.heap.size + 1, 0, none⟩) (by show w.heap.size + 1 < wr.heap.size; omega)).trans p2
      clear hX1 t0 t1 t2 t3 t4
      have e0 : ∀ x : Int, (x != x) = false := by simp
      go_wp2_with fail
      generalize (wr.alloc (hkObj h a1 c1)).alloc (hkObj h a2 c2) = U at *
      have hbU := hbel.trans (q2.mono (by omega))
      have hsA' := hsA.below (q2.mono (by omega))
      have hsB' := hsB.below (q2.mono (by omega))
      clear t0' t1' t2' t3' t4' p2' r0 r1 r2 r3 r4 p1 p2 hsA hsB q1
      unfold hkObj at hX1' hX2
      generalize h.lines = M at *
      go_loopg [8] M.length (fun g t wi => ∃ j : Nat, g = M.length - j ∧ j ≤ M.length ∧ t = .int .i64 j ∧ Below U.heap.size U wi)
      case atStart => exact ⟨0, by omega, by omega, rfl, Below.refl _ _⟩
      case round =>
        rename World => wi
        obtain ⟨j, hgj, hjl, rfl, hbi⟩ := hrel
        have hGj : Hid (_ = M.length - j) := hgj
        clear hgj
        have hsi := hbi.size
        have x1 : wi.cell? ⟨wr.heap.size, 4, none⟩ = some (.slice a1 M.length c1) := cell_of ((hbi.block wr.heap.size (by omega)).trans hX1') rfl
        have x2 : wi.cell? ⟨wr.heap.size + 1, 4, none⟩ = some (.slice a2 M.length c2) := cell_of ((hbi.block (wr.heap.size + 1) (by omega)).trans hX2) rfl
        by_cases hj : j < M.length
        · have hjI : (j : Int) < M.length := by omega
          obtain ⟨g1, rfl, hg1, u0, u1⟩ := (hsA'.below (hbi.mono (by omega))).at hj
          obtain ⟨g2, rfl, hg2, v0, v1⟩ := (hsB'.below (hbi.mono (by omega))).at hj
          generalize M[j] = sx at *
          have hjI0 : (0 : Int) ≤ (j : Int) := by omega
          go_wp2_with fail
          go_quiet (fail)
          go_wp2_with fail
          go_roundg (M.length - (j + 1))
          · exact ⟨j + 1, rfl, by omega, by push_cast; rfl, Below.drewN' hbi⟩
          · have := hGj.out; omega
        · have hjI : ¬ ((j : Int) < M.length) := by omega
          go_wp2_with fail
          go_roundg (hs.length - (k + 1))
          · exact ⟨k + 1, rfl, by omega, by push_cast; rfl, hbU.trans (hbi.mono (by omega))⟩
          · have := hG.out; omega
    · have hkI : ¬ ((k : Int) < hs.length) := by omega
      go_wp2_with fail
      go_ret
      exact ⟨rfl, hbw⟩
end Go.Proofs.YtcclgodahlinbaaGreatDoor

namespace Go.Proofs.YtcclgodahlinbaaGreatDoor
open Go.RowKit Go
set_option maxRecDepth 100000

theorem line_yes {S n : Nat} {st st' : Rd} {v : Value} {hv : List HV} {w : World} {t : Tok} (hR : RdM S st v hv w) (hs : Step st t st') (hb : Bd n st) (hn : n ≤ 1000) (hg : Glob w) :
    Calls Tryz.prog 35 #[.pointer (some ⟨S, 0, none⟩), .string ⟨(tokL t).toArray⟩] w fun e w' => e = .returned (.bool true) ∧ (∃ v' hv', RdM S st' v' hv' w') ∧ Below S w w' := by
  cases t with
  | inl h => exact line_head hR hs hb hn hg
  | inr s => exact line_take hR hs hb hn
theorem Bd.mono {n m : Nat} {st : Rd} (h : Bd n st) (hnm : n ≤ m) : Bd m st := by
  obtain ⟨b1, b2, b3, b4, b5, b6⟩ := h
  exact ⟨by omega, by omega, by omega, b4, b5, fun x hx => by have := b6 x hx; omega⟩
theorem Bd.steps {st' : Rd} : ∀ {ts : List Tok} {n : Nat} {st : Rd}, Bd n st → Steps st ts st' → Bd (n + ts.length) st'
  | [], n, st, h, hs => by cases hs; simpa using h
  | t :: l, n, st, h, ⟨m, h1, h2⟩ => by have := Bd.steps (h.step h1) h2; rw [List.length_cons, show n + (l.length + 1) = n + 1 + l.length by omega]; exact this
theorem isEmpty_mk {l : List UInt8} (h : l ≠ []) : (⟨l.toArray⟩ : ByteArray).toList.isEmpty = false := by
  rw [Lib.toList_data]
  cases l with
  | nil => exact absurd rfl h
  | cons a l => rfl
theorem RdM.hunks {S : Nat} {st : Rd} {v : Value} {hv : List HV} {w : World} (h : RdM S st v hv w) : ∃ a cap, v = .slice a st.hs.length cap ∧ HunksAt w.heap.size w (.slice a st.hs.length cap) st.hs := by
  obtain ⟨a, cap, e⟩ := h.hso.len
  have hl : hv.length = st.hs.length := by rw [← h.hs, List.length_map]
  have := HunksAt.of_owns h.hso
  rw [h.hs, e, hl] at this
  exact ⟨a, cap, by rw [e, hl], this⟩

/-- what Read answers -/
def ReadEnd (st : Rd) (n : Nat) (rest : List UInt8) (e : Ending) (w' : World) : Prop :=
  (rest = [] ∧ st.ended ∧ ∃ a cap, e = .returned (.tuple #[.agg #[.slice a st.hs.length cap], .int .i64 0, .int .i64 0]) ∧ HunksAt w'.heap.size w' (.slice a st.hs.length cap) st.hs) ∨
  (¬ (rest = [] ∧ st.ended) ∧ e = .returned (.tuple #[.agg #[.slice none 0 0], .int .i64 (n : Int), .int .i64 4]))

set_option maxHeartbeats 4000000 in
theorem read_run {ts : List Tok} {st : Rd} {rest : List UInt8} {w : World} (hst : Steps Rd.start ts st) (hlen : (toksL ts ++ rest).length ≤ 20000) (hn : ts.length ≤ 900)
    (hrest : rest = [] ∨ (rest ≠ [] ∧ (10 : UInt8) ∉ rest) ∨ ∃ l m, rest = l ++ [10] ++ m ∧ (10 : UInt8) ∉ l ∧ Refused st l) (hg : Glob w) :
    Calls Tryz.prog 17 #[.string ⟨(toksL ts ++ rest).toArray⟩] w fun e w' => ReadEnd st ts.length rest e w' ∧ Below w.heap.size w w' := by
  have hb := ((Below.refl w.heap.size w).alloc (Nat.le_refl _) (.cells #[.slice none 0 0] 32)).alloc (by simp) (rdCells (.slice none 0 0) 0 0 0 0 false)
  have hP := heap_alloc_new w (.cells #[.slice none 0 0] 32)
  have hU := heap_alloc_new (w.alloc (.cells #[.slice none 0 0] 32)) (rdCells (.slice none 0 0) 0 0 0 0 false)
  rw [World.size_alloc] at hU
  have hP2 := (Below.heap_alloc (w.alloc (.cells #[.slice none 0 0] 32)) (rdCells (.slice none 0 0) 0 0 0 0 false) w.heap.size (by simp)).trans hP
  have hR0 : RdM (w.heap.size + 1) Rd.start (.slice none 0 0) [] ((w.alloc (.cells #[.slice none 0 0] 32)).alloc (rdCells (.slice none 0 0) 0 0 0 0 false)) := ⟨hU, .inl ⟨rfl, rfl⟩, rfl⟩
  have hng : ¬ (20000 : Int) < (((⟨(toksL ts ++ rest).toArray⟩ : ByteArray).size : Nat) : Int) := by rw [size_mk]; omega
  generalize hs0 : (⟨(toksL ts ++ rest).toArray⟩ : ByteArray) = s0 at *
  have hs0' : Hid ((⟨(toksL ts ++ rest).toArray⟩ : ByteArray) = s0) := hs0
  clear hP hU hs0
  go_enter Tryz.func17, Tryz.ntmps17
  go_wp2_with fail
  generalize (w.alloc (.cells #[.slice none 0 0] 32)).alloc (rdCells (.slice none 0 0) 0 0 0 0 false) = W at *
  go_loopg [0, 6] ts.length (fun g t a wr => ∃ (done todo : List Tok) (st1 : Rd) (v : Value) (hv : List HV), g = todo.length ∧ ts = done ++ todo ∧ Steps Rd.start done st1 ∧ Steps st1 todo st ∧ t = .string ⟨(toksL todo ++ rest).toArray⟩ ∧ a = .int .i64 (done.length : Nat) ∧ RdM (w.heap.size + 1) st1 v hv wr ∧ wr.heap[w.heap.size]? = some (.cells #[.slice none 0 0] 32 (0, 0)) ∧ Below w.heap.size w wr)
  case atStart => exact ⟨[], ts, Rd.start, _, _, rfl, rfl, rfl, hst, by rw [hs0'.out], rfl, hR0, hP2, hb⟩
  case round =>
    obtain ⟨done, todo, st1, v, hv, hgk, hts, hs1, hs2, rfl, rfl, hR, hP, hbel⟩ := hrel
    have hG : Hid (gk = todo.length) := hgk
    clear hgk hR0 hP2 hb
    have hgw := hg.below hbel hg.sz hbel.size
    have hsw := hbel.size
    have hlt := hR.lt
    have hdn : done.length + todo.length = ts.length := by rw [hts, List.length_append]
    have hbd := (Bd.start.steps hs1).mono (show 0 + done.length ≤ 900 by omega)
    have hle : (toksL todo ++ rest).length ≤ 20000 := by
      rw [hts, toksL_append] at hlen
      simp only [List.length_append] at hlen ⊢
      omega
    have hP0 : wr.cell? ⟨w.heap.size, 0, none⟩ = some (.slice none 0 0) := cell_of hP rfl
    have hPf : ∀ k, wr.frozen? ⟨w.heap.size, k, none⟩ = false := fun k => frozen_of hP
    cases todo with
    | cons t l =>
      obtain ⟨st2, hs2a, hs2b⟩ := hs2
      have hnl := step_nl hs2a
      have hT : toksL (t :: l) ++ rest = tokL t ++ [10] ++ (toksL l ++ rest) := by rw [toksL_cons]; simp
      have hem := isEmpty_mk (show toksL (t :: l) ++ rest ≠ [] by rw [hT]; simp)
      have hcut := cut_yes (w := wr) (a := tokL t) (b := toksL l ++ rest) (sep := [10]) rfl hnl (by rw [← hT]; omega) hgw
      rw [← hT] at hcut
      have hln : Hid (∀ w1, Below wr.heap.size wr w1 → Calls Tryz.prog 35 #[.pointer (some ⟨w.heap.size + 1, 0, none⟩), .string ⟨(tokL t).toArray⟩] w1 fun e w' => e = .returned (.bool true) ∧ (∃ v' hv', RdM (w.heap.size + 1) st2 v' hv' w') ∧ w'.heap[w.heap.size]? = some (.cells #[.slice none 0 0] 32 (0, 0)) ∧ Below w.heap.size w w') := by
        intro w1 hb1
        refine (line_yes (hR.below hb1) hs2a hbd (by omega) (hgw.next hb1)).mono ?_
        rintro e w' ⟨rfl, hr, hb'⟩
        exact ⟨rfl, hr, (hb'.block w.heap.size (by omega)).trans ((hb1.block w.heap.size (by omega)).trans hP), (hbel.trans (hb1.mono (by omega))).trans (hb'.mono (by omega))⟩
      have hts2 : Hid (ts = (done ++ [t]) ++ l) := by unfold Hid; rw [hts]; simp
      have hst2 : Hid (Steps Rd.start (done ++ [t]) st2) := steps_append.2 ⟨st1, hs1, st2, hs2a, rfl⟩
      generalize (⟨(toksL (t :: l) ++ rest).toArray⟩ : ByteArray) = sx at *
      generalize (⟨(tokL t).toArray⟩ : ByteArray) = sl at *
      clear hT hR hP0 hPf
      go_wp2_with (first | (go_at_call 34; refine hcut.mono ?_; rintro e w1 ⟨rfl, hb1⟩; have hln1 := hln.out w1 hb1) | (go_at_call 35; refine hln1.mono ?_; rintro e w2 ⟨rfl, ⟨v', hv', hr⟩, hP', hb'⟩))
      go_roundg l.length
      · exact ⟨done ++ [t], l, st2, v', hv', rfl, hts2.out, hst2.out, hs2b, rfl, by rw [List.length_append]; go_num, hr, hP', hb'⟩
      · have := hG.out; rw [List.length_cons] at this; omega
    | nil =>
      obtain rfl : st1 = st := hs2
      have hdone : done.length = ts.length := by simpa using hdn
      have hnil : toksL ([] : List Tok) ++ rest = rest := rfl
      rw [hnil] at hle ⊢
      rcases hrest with rfl | ⟨hr0, hr1⟩ | ⟨l, m, rfl, hr1, hr2⟩
      · obtain ⟨av, cv, rfl, hHs⟩ := hR.hunks
        have hend := ended_any hR
        have x0 : wr.cell? ⟨w.heap.size + 1, 0, none⟩ = some (.slice av st1.hs.length cv) := cell_of (k := 0) hR.blk rfl
        have hso := hR.hso
        have hhs := hR.hs
        have hem : (⟨([] : List UInt8).toArray⟩ : ByteArray).toList.isEmpty = true := by rw [Lib.toList_data]; rfl
        generalize (⟨([] : List UInt8).toArray⟩ : ByteArray) = sx at *
        have hPk : Hid (∀ w1, Below wr.heap.size wr w1 → w1.heap[w.heap.size]? = some (.cells #[.slice none 0 0] 32 (0, 0)) ∧ w1.cell? ⟨w.heap.size + 1, 0, none⟩ = some (.slice av st1.hs.length cv) ∧ HSo (w.heap.size + 1 + 1) (.slice av st1.hs.length cv) hv w1 ∧ Below w.heap.size w w1 ∧ w.heap.size ≤ w1.heap.size) := fun w1 hb1 => ⟨(hb1.block w.heap.size (by omega)).trans hP, (hb1.cell (p := ⟨w.heap.size + 1, 0, none⟩) (by show w.heap.size + 1 < _; omega)).trans x0, hso.below hb1, hbel.trans (hb1.mono (by omega)), by have := hb1.size; omega⟩
        by_cases he : st1.ended
        · have hend2 : Calls Tryz.prog 36 #[.pointer (some ⟨w.heap.size + 1, 0, none⟩)] wr fun e w' => e = .returned (.bool true) ∧ Below wr.heap.size wr w' := by
            refine hend.mono ?_
            rintro e w' ⟨⟨r, rfl, hr⟩, hb'⟩
            exact ⟨by rw [hr.2 he], hb'⟩
          clear hend x0 hso hR
          go_wp2_with (go_at_call 36; refine hend2.mono ?_; rintro e w1 ⟨rfl, hb1⟩; obtain ⟨hP1, x1, hso1, hbw1, hsz1⟩ := hPk.out w1 hb1; have q0 : w1.cell? ⟨w.heap.size, 0, none⟩ = some (.slice none 0 0) := cell_of hP1 rfl; have qf : ∀ k, w1.frozen? ⟨w.heap.size, k, none⟩ = false := fun k => frozen_of hP1)
          refine bodyPost_ret (v := .tuple #[.agg #[.slice av st1.hs.length cv], .int .i64 0, .int .i64 0]) ?_ rfl ⟨.inl ⟨rfl, he, av, cv, rfl, ?_⟩, ?_⟩
          · have hq : (w1.setCell ⟨w.heap.size, 0, none⟩ (.slice av st1.hs.length cv)).cell? ⟨w.heap.size, 0, none⟩ = some (.slice av st1.hs.length cv) := cell_of (heap_setCell_same _ _ _ _ _ _ _ hP1) rfl
            simp [results, Tryz.results17, go_sem, hq]
          · have hsF := hso1.kept (grownBy_setCell w1 w.heap.size 0 (.slice av st1.hs.length cv)) (fun k e => by cases e; exact .inr ⟨_, _, _, hP1, by decide, by decide⟩)
            have := HunksAt.of_owns hsF
            rw [hhs] at this
            exact this
          · exact hbw1.setCell (p := ⟨w.heap.size, 0, none⟩) (Nat.le_refl _) _
        · have hend2 : Calls Tryz.prog 36 #[.pointer (some ⟨w.heap.size + 1, 0, none⟩)] wr fun e w' => e = .returned (.bool false) ∧ Below wr.heap.size wr w' := by
            refine hend.mono ?_
            rintro e w' ⟨⟨r, rfl, hr⟩, hb'⟩
            have : r = false := by cases r; rfl; exact absurd (hr.1 rfl) he
            exact ⟨by rw [this], hb'⟩
          clear hend x0 hso hR
          go_wp2_with (go_at_call 36; refine hend2.mono ?_; rintro e w1 ⟨rfl, hb1⟩; obtain ⟨hP1, x1, hso1, hbw1, hsz1⟩ := hPk.out w1 hb1; have q0 : w1.cell? ⟨w.heap.size, 0, none⟩ = some (.slice none 0 0) := cell_of hP1 rfl; have qf : ∀ k, w1.frozen? ⟨w.heap.size, k, none⟩ = false := fun k => frozen_of hP1)
          refine bodyPost_ret (v := .tuple #[.agg #[.slice none 0 0], .int .i64 (ts.length : Int), .int .i64 4]) ?_ rfl ⟨.inr ⟨fun h => he h.2, rfl⟩, ?_⟩
          · have hq : (w1.setCell ⟨w.heap.size, 0, none⟩ (.slice none 0 0)).cell? ⟨w.heap.size, 0, none⟩ = some (.slice none 0 0) := cell_of (heap_setCell_same _ _ _ _ _ _ _ hP1) rfl
            simp [results, Tryz.results17, go_sem, hq]
          · exact hbw1.setCell (p := ⟨w.heap.size, 0, none⟩) (Nat.le_refl _) _
      · have hcut := cut_no (w := wr) (a := rest) (sep := [10]) rfl hr1 (by omega) hgw
        have hem := isEmpty_mk hr0
        have hPk : Hid (∀ w1, Below wr.heap.size wr w1 → w1.heap[w.heap.size]? = some (.cells #[.slice none 0 0] 32 (0, 0))) := fun w1 hb1 => (hb1.block w.heap.size (by omega)).trans hP
        generalize (⟨rest.toArray⟩ : ByteArray) = sx at *
        go_wp2_with (go_at_call 34; refine hcut.mono ?_; rintro e w1 ⟨rfl, hb1⟩; have hP1 := hPk.out w1 hb1; have q0 : w1.cell? ⟨w.heap.size, 0, none⟩ = some (.slice none 0 0) := cell_of hP1 rfl; have qf : ∀ k, w1.frozen? ⟨w.heap.size, k, none⟩ = false := fun k => frozen_of hP1)
        refine bodyPost_ret (v := .tuple #[.agg #[.slice none 0 0], .int .i64 (ts.length : Int), .int .i64 4]) ?_ rfl ⟨.inr ⟨fun h => hr0 h.1, rfl⟩, ?_⟩
        · have hq : (w1.setCell ⟨w.heap.size, 0, none⟩ (.slice none 0 0)).cell? ⟨w.heap.size, 0, none⟩ = some (.slice none 0 0) := cell_of (heap_setCell_same _ _ _ _ _ _ _ hP1) rfl
          simp [results, Tryz.results17, go_sem, hq]
        · exact (hbel.trans (hb1.mono (by omega))).setCell (p := ⟨w.heap.size, 0, none⟩) (Nat.le_refl _) _
      · have hcut := cut_yes (w := wr) (a := l) (b := m) (sep := [10]) rfl hr1 (by omega) hgw
        have hem := isEmpty_mk (show l ++ [10] ++ m ≠ [] by simp)
        have hln : Hid (∀ w1, Below wr.heap.size wr w1 → Calls Tryz.prog 35 #[.pointer (some ⟨w.heap.size + 1, 0, none⟩), .string ⟨l.toArray⟩] w1 fun e w' => e = .returned (.bool false) ∧ w'.heap[w.heap.size]? = some (.cells #[.slice none 0 0] 32 (0, 0)) ∧ Below w.heap.size w w') := by
          intro w1 hb1
          refine (line_no (hR.below hb1) hr2 hbd (by omega) (hgw.next hb1)).mono ?_
          rintro e w' ⟨rfl, hb'⟩
          have hz := hb1.size
          exact ⟨rfl, (hb'.block w.heap.size (by omega)).trans ((hb1.block w.heap.size (by omega)).trans hP), (hbel.trans (hb1.mono (by omega))).trans (hb'.mono (by omega))⟩
        generalize (⟨(l ++ [10] ++ m).toArray⟩ : ByteArray) = sx at *
        generalize (⟨l.toArray⟩ : ByteArray) = sl at *
        clear hR hP0 hPf
        go_wp2_with (first | (go_at_call 34; refine hcut.mono ?_; rintro e w1 ⟨rfl, hb1⟩; have hln1 := hln.out w1 hb1) | (go_at_call 35; refine hln1.mono ?_; rintro e w2 ⟨rfl, hP1, hb2⟩; have q0 : w2.cell? ⟨w.heap.size, 0, none⟩ = some (.slice none 0 0) := cell_of hP1 rfl; have qf : ∀ k, w2.frozen? ⟨w.heap.size, k, none⟩ = false := fun k => frozen_of hP1))
        refine bodyPost_ret (v := .tuple #[.agg #[.slice none 0 0], .int .i64 (ts.length : Int), .int .i64 4]) ?_ rfl ⟨.inr ⟨fun h => by have := h.1; simp at this, rfl⟩, ?_⟩
        · have hq : (w2.setCell ⟨w.heap.size, 0, none⟩ (.slice none 0 0)).cell? ⟨w.heap.size, 0, none⟩ = some (.slice none 0 0) := cell_of (heap_setCell_same _ _ _ _ _ _ _ hP1) rfl
          simp [results, Tryz.results17, go_sem, hq]
        · exact hb2.setCell (p := ⟨w.heap.size, 0, none⟩) (Nat.le_refl _) _
end Go.Proofs.YtcclgodahlinbaaGreatDoor

namespace Go.Proofs.YtcclgodahlinbaaGreatDoor
open Go.RowKit Go
set_option maxRecDepth 100000

/-- a row of strings in a block of its own -/
def RowN (base : Nat) (w : World) (g cap n : Nat) (L : List ByteArray) : Prop := L.length = n ∧ w.ownsRow base 9 1 (.slice (some ⟨g, 0, none⟩) n cap) n (strCells L)
theorem strCells_set (L : List ByteArray) (j : Nat) (s : ByteArray) : (strCells L).set j (.string s) = strCells (L.set j s) := by unfold strCells; rw [List.map_set]
theorem strCells_one (L : List ByteArray) : ∀ u ∈ strCells L, u.oneCell' = true := by
  intro u hu
  obtain ⟨s, _, rfl⟩ := List.mem_map.1 hu
  rfl
theorem strCells_length (L : List ByteArray) : (strCells L).length = L.length := by simp [strCells]
theorem RowN.rowS {base : Nat} {w : World} {g cap n : Nat} {L : List ByteArray} (h : RowN base w g cap n L) : RowS w (.slice (some ⟨g, 0, none⟩) n cap) L := by
  obtain ⟨rfl, h⟩ := h
  exact RowS.of_owns h
theorem RowN.cell {base : Nat} {w : World} {g cap n : Nat} {L : List ByteArray} (h : RowN base w g cap n L) {j : Nat} (hj : j < n) : w.cell? ⟨g, j, none⟩ = some (.string (L.getD j ByteArray.empty)) := by
  rw [h.2.cellAt j (by omega)]
  have := h.1
  simp [strCells, List.getD, show j < L.length by omega]
theorem RowN.frozen {base : Nat} {w : World} {g cap n : Nat} {L : List ByteArray} (h : RowN base w g cap n L) (j : Nat) : w.frozen? ⟨g, j, none⟩ = false := h.2.frozenAt j
theorem RowN.store {base : Nat} {w : World} {g cap n : Nat} {L : List ByteArray} (h : RowN base w g cap n L) (j : Nat) (s : ByteArray) : RowN base (w.setCell ⟨g, j, none⟩ (.string s)) g cap n (L.set j s) :=
  ⟨by rw [List.length_set]; exact h.1, by rw [← strCells_set]; exact (h.2.stored j (.string s)).1⟩
theorem RowN.lt {base : Nat} {w : World} {g cap n : Nat} {L : List ByteArray} (h : RowN base w g cap n L) : base ≤ g ∧ g < w.heap.size := h.2.lt g rfl
theorem RowN.below {base B : Nat} {w w' : World} {g cap n : Nat} {L : List ByteArray} (h : RowN base w g cap n L) (hb : Below B w w') (hg : g < B) : RowN base w' g cap n L := by
  refine ⟨h.1, h.2.1, ?_⟩
  rcases h.2.2 with ⟨e, _⟩ | ⟨g', cap', cur, e, h1, h2, h3⟩
  · cases e
  · cases e
    exact .inr ⟨g, cap, cur, rfl, h1, (hb.block g hg).trans h2, h3⟩
theorem RowN.alloc {base : Nat} {w : World} {g cap n : Nat} {L : List ByteArray} (h : RowN base w g cap n L) (ob : Obj) : RowN base (w.alloc ob) g cap n L := ⟨h.1, h.2.alloc ob⟩
/-- a store into another block -/
theorem RowN.other {base : Nat} {w : World} {g cap n : Nat} {L : List ByteArray} (h : RowN base w g cap n L) {a : Addr} (hne : a.block ≠ g) (u : Value) : RowN base (w.setCell a u) g cap n L := by
  refine ⟨h.1, h.2.1, ?_⟩
  rcases h.2.2 with ⟨e, _⟩ | ⟨g', cap', cur, e, h1, h2, h3⟩
  · cases e
  · cases e
    exact .inr ⟨g, cap, cur, rfl, h1, (Below.heap_setCell w a u g (fun e => hne e.symm)).trans h2, h3⟩
theorem textN_any {base : Nat} {w : World} {g cap n : Nat} {L : List ByteArray} (h : RowN base w g cap n L) (hl : (textL L).length ≤ 100000) :
    Calls Tryz.prog 11 #[.slice (some ⟨g, 0, none⟩) n cap] w fun e w' => e = .returned (.string (textB L)) ∧ w = w' := by
  obtain ⟨rfl, h⟩ := h
  exact ktext_any (RowS.of_owns h) hl

/-- append(nil, x...) -/
theorem wpList_copyN {ops : Array Oper} {rest : List Oper} {o : Oper} {a : Act} {w : World} {Q : Exit → Act → World → Prop} (hgd : o.guard = none) (s x : Operand)
    (ho : o.op = .call { callee := .builtin .append, args := #[s, x], argTypes := #[27, 27] }) (hs : a.eval s = .slice none 0 0)
    {base gx cx n : Nat} {L : List ByteArray} (hx : a.eval x = .slice (some ⟨gx, 0, none⟩) n cx) (hX : RowN base w gx cx n L) (hp : 0 < n) (hn : n ≤ 1000)
    (h : ∀ gy cy w', w.heap.size ≤ gy → gy < w'.heap.size → RowN w.heap.size w' gy cy n L → Below w.heap.size w w' → wpList Tryz.prog ops Q rest (a.put o.dst (.slice (some ⟨gy, 0, none⟩) n cy)) w') : wpList Tryz.prog ops Q (o :: rest) a w := by
  obtain ⟨i0, hi, hz0, hz1, hz2⟩ := info_parts info_str
  refine wpList_append_own2 hgd s x 27 ho w.heap.size 9 i0 _ 1 16 Tryz.underlying27 hi hz0 hz1 hz2 rfl (by decide) (.slice none 0 0) 0 [] hs (World.ownsRow_nil _ _ _ _) ⟨gx, 0, none⟩ n cx (strCells L) hx
    (by rw [strCells_length, hX.1]; omega) (hX.2.cells rfl) (strCells_one L) (by unfold maxLen; omega) (by omega) (Nat.le_refl _) ?_
  intro v' w' hown hgr hnew
  rw [Nat.zero_add, List.nil_append] at hown
  obtain ⟨gy, cy, rfl, h1, h2, _⟩ := owns_slice hown hp
  exact h gy cy w' h1 h2 ⟨hX.1, hown⟩ ⟨hgr.os, hgr.tape, hgr.output, hgr.size, fun k hk => hgr.block k hk (by simp [Value.ownBlock])⟩
end Go.Proofs.YtcclgodahlinbaaGreatDoor

namespace Go.Proofs.YtcclgodahlinbaaGreatDoor
open Go.RowKit Go
set_option maxRecDepth 100000

/-- the eleven lines -/
def lineTab : List ByteArray := [⟨#[]⟩, ⟨#[97]⟩, ⟨#[98]⟩, ⟨#[99]⟩, ⟨#[97, 32, 98]⟩, ⟨#[32, 32, 120]⟩, ⟨#[45, 97]⟩, ⟨#[43, 98]⟩, ⟨#[64, 64, 32, 45, 49, 44, 49, 32, 43, 49, 44, 49, 32, 64, 64]⟩, ⟨#[195, 169]⟩, ⟨#[32]⟩]
def lineK (i : Nat) : ByteArray := lineTab.getD i ByteArray.empty
def lineOf (c : Int) : ByteArray := lineK (pickN c 11)
theorem lineK_ok {i : Nat} (h : i < 11) : (10 : UInt8) ∉ (lineK i).data.toList ∧ (lineK i).size ≤ 15 := by
  have h1 : ((List.range 11).all fun i => !(lineK i).data.toList.contains 10 && decide ((lineK i).size ≤ 15)) = true := by kernel_rfl
  have h2 := (List.all_eq_true.1 h1) i (List.mem_range.2 h)
  simp only [Bool.and_eq_true, decide_eq_true_eq] at h2
  exact ⟨by simpa using h2.1, h2.2⟩
theorem lineOf_ok (c : Int) : (10 : UInt8) ∉ (lineOf c).data.toList ∧ (lineOf c).size ≤ 15 := lineK_ok (pickN_lt c (by decide))

set_option maxHeartbeats 1000000 in
theorem line_any (c : Int) (w : World) (hc : -9223372036854775808 ≤ c ∧ c ≤ 9223372036854775807) :
    Calls Tryz.prog 23 #[.int .i64 c] w fun e w' => e = .returned (.string (lineOf c)) ∧ Below w.heap.size w w' := by
  have hp := fun w => pick_any c 11 w hc (by decide) (by decide)
  have hl := pickN_lt c (n := 11) (by decide)
  unfold lineOf
  generalize pickN c 11 = i at *
  have hb := (Below.refl w.heap.size w).alloc (Nat.le_refl _) (.cells #[.string ⟨#[]⟩, .string ⟨#[97]⟩, .string ⟨#[98]⟩, .string ⟨#[99]⟩, .string ⟨#[97, 32, 98]⟩, .string ⟨#[32, 32, 120]⟩, .string ⟨#[45, 97]⟩, .string ⟨#[43, 98]⟩, .string ⟨#[64, 64, 32, 45, 49, 44, 49, 32, 43, 49, 44, 49, 32, 64, 64]⟩, .string ⟨#[195, 169]⟩, .string ⟨#[32]⟩] 9)
  have hB := heap_alloc_new w (.cells #[.string ⟨#[]⟩, .string ⟨#[97]⟩, .string ⟨#[98]⟩, .string ⟨#[99]⟩, .string ⟨#[97, 32, 98]⟩, .string ⟨#[32, 32, 120]⟩, .string ⟨#[45, 97]⟩, .string ⟨#[43, 98]⟩, .string ⟨#[64, 64, 32, 45, 49, 44, 49, 32, 43, 49, 44, 49, 32, 64, 64]⟩, .string ⟨#[195, 169]⟩, .string ⟨#[32]⟩] 9)
  have hcell : (w.alloc (.cells #[.string ⟨#[]⟩, .string ⟨#[97]⟩, .string ⟨#[98]⟩, .string ⟨#[99]⟩, .string ⟨#[97, 32, 98]⟩, .string ⟨#[32, 32, 120]⟩, .string ⟨#[45, 97]⟩, .string ⟨#[43, 98]⟩, .string ⟨#[64, 64, 32, 45, 49, 44, 49, 32, 43, 49, 44, 49, 32, 64, 64]⟩, .string ⟨#[195, 169]⟩, .string ⟨#[32]⟩] 9)).cell? ⟨w.heap.size, i, none⟩ = some (.string (lineK i)) := by
    refine cell_of hB ?_
    match i, hl with
    | 0, _ => rfl
    | 1, _ => rfl
    | 2, _ => rfl
    | 3, _ => rfl
    | 4, _ => rfl
    | 5, _ => rfl
    | 6, _ => rfl
    | 7, _ => rfl
    | 8, _ => rfl
    | 9, _ => rfl
    | 10, _ => rfl
    | k + 11, h => exact absurd h (by omega)
  go_enter Tryz.func23, Tryz.ntmps23
  go_wp2_with fail
  generalize w.alloc (.cells #[.string ⟨#[]⟩, .string ⟨#[97]⟩, .string ⟨#[98]⟩, .string ⟨#[99]⟩, .string ⟨#[97, 32, 98]⟩, .string ⟨#[32, 32, 120]⟩, .string ⟨#[45, 97]⟩, .string ⟨#[43, 98]⟩, .string ⟨#[64, 64, 32, 45, 49, 44, 49, 32, 43, 49, 44, 49, 32, 64, 64]⟩, .string ⟨#[195, 169]⟩, .string ⟨#[32]⟩] 9) = W at hb hcell ⊢
  refine (hp _).mono ?_
  rintro e w' ⟨rfl, rfl⟩
  have hiI : (i : Int) < 11 := by omega
  go_wp2_with fail
  go_ret
  exact ⟨rfl, hb⟩

/-- a row of ints, as it is read -/
def RowI (w : World) (v : Value) (L : List Int) : Prop :=
  (L = [] ∧ ∃ a c, v = .slice a 0 c) ∨ ∃ b off cap, v = .slice (some ⟨b, off, none⟩) L.length cap ∧ b < w.heap.size ∧ ∀ i (h : i < L.length), w.cell? ⟨b, off + i, none⟩ = some (.int .i64 L[i])
theorem RowI.below {w w' : World} {v : Value} {L : List Int} (h : RowI w v L) (hb : Below w.heap.size w w') : RowI w' v L := by
  rcases h with h | ⟨b, off, cap, e, hB, hc⟩
  · exact .inl h
  · exact .inr ⟨b, off, cap, e, Nat.lt_of_lt_of_le hB hb.size, fun i hi => (hb.cell (p := ⟨b, off + i, none⟩) hB).trans (hc i hi)⟩
theorem RowI.slice {w : World} {v : Value} {L : List Int} (h : RowI w v L) : ∃ a c, v = .slice a L.length c := by
  rcases h with ⟨rfl, a, c, rfl⟩ | ⟨b, off, cap, rfl, _⟩
  · exact ⟨a, c, rfl⟩
  · exact ⟨_, _, rfl⟩
theorem RowI.at {w : World} {a : Option Addr} {n c : Nat} {L : List Int} (h : RowI w (.slice a n c) L) {i : Nat} (hi : i < L.length) : ∃ b off, a = some ⟨b, off, none⟩ ∧ w.cell? ⟨b, off + i, none⟩ = some (.int .i64 L[i]) := by
  rcases h with ⟨rfl, _⟩ | ⟨b, off, cap, e, _, hc⟩
  · simp at hi
  · cases e
    exact ⟨b, off, rfl, hc i hi⟩
def i64s (L : List Int) : Prop := ∀ c ∈ L, -9223372036854775808 ≤ c ∧ c ≤ 9223372036854775807
def linesK (L : List Int) : List ByteArray := (L.take 60).map lineOf
theorem linesK_plain (L : List Int) : (∀ s ∈ linesK L, (10 : UInt8) ∉ s.data.toList ∧ s.size ≤ 15) ∧ (linesK L).length ≤ 60 := by
  refine ⟨fun s hs => ?_, by unfold linesK; simp; omega⟩
  obtain ⟨c, _, rfl⟩ := List.mem_map.1 hs
  exact lineOf_ok c
set_option maxHeartbeats 4000000 in
theorem lines_any {L : List Int} {a : Option Addr} {c : Nat} {w : World} (hR : RowI w (.slice a L.length c) L) (hi64 : i64s L) :
    Calls Tryz.prog 10 #[.slice a L.length c] w fun e w' => ∃ v, e = .returned v ∧ w'.ownsRow w.heap.size 9 1 v (linesK L).length (strCells (linesK L)) ∧ Below w.heap.size w w' := by
  obtain ⟨i0, hi, hz0, hz1, hz2⟩ := info_parts info_str
  have hmn : min L.length 60 ≤ 60 := by omega
  have hfin : (linesK L).length = min L.length 60 := by unfold linesK; simp; omega
  go_enter Tryz.func10, Tryz.ntmps10
  go_wp2_with fail
  go_loopg [3, 4] (min L.length 60) (fun g v t wr => ∃ k : Nat, g = min L.length 60 - k ∧ k ≤ min L.length 60 ∧ t = .int .i64 k ∧ wr.ownsRow w.heap.size 9 1 v k (strCells ((linesK L).take k)) ∧ Below w.heap.size w wr)
  case atStart => exact ⟨0, by omega, by omega, rfl, World.ownsRow_nil _ _ _ _, Below.refl _ _⟩
  case round =>
    obtain ⟨k, hgk, hk0, rfl, ho, hbel⟩ := hrel
    have hszr := hbel.size
    obtain ⟨ax, cx, rfl⟩ := owns_isSlice ho
    have hG : Hid (gk = min L.length 60 - k) := hgk
    clear hgk
    by_cases hk : k < min L.length 60
    · have hkL : k < L.length := by omega
      have hkI : (k : Int) < L.length := by omega
      have hkJ : (k : Int) < 60 := by omega
      obtain ⟨b, off, rfl, hc⟩ := (hR.below hbel).at hkL
      have hla := line_any L[k] wr (hi64 _ (List.getElem_mem hkL))
      have hE : Hid ((linesK L).take (k + 1) = (linesK L).take k ++ [lineOf L[k]]) := by
        show _ = _
        rw [List.take_succ_eq_append_getElem (by rw [hfin]; exact hk)]
        unfold linesK
        simp
      generalize L[k] = x at *
      have hon : ∀ t : ByteArray, ∀ u ∈ [Value.string t], u.oneCell' = true := by intro t u hu; simp at hu; subst hu; rfl
      have hb1 : k + 1 ≤ maxLen := by unfold maxLen; omega
      have hb2 : (k + 1) * 16 ≤ 140737488355328 := by omega
      go_wp2_with fail
      refine hla.mono ?_
      rintro e w2 ⟨rfl, b2⟩
      have ho2 : w2.ownsRow w.heap.size 9 1 (.slice ax k cx) k (strCells ((linesK L).take k)) := ho.kept (row := none) ⟨b2.os, b2.tape, b2.output, b2.size, fun j hj _ => b2.block j hj⟩ (by cases h : (Value.slice ax k cx).ownBlock <;> simp)
      have hbel2 := hbel.trans (b2.mono hszr)
      have hz2' := b2.size
      generalize lineOf x = s at *
      go_wp2_with (at_builtin; refine wpList_append_own2 rfl (.tmp 21) (.tmp 23) 27 rfl w.heap.size 9 i0 _ 1 16 Tryz.underlying27 hi hz0 hz1 hz2 rfl (by decide) (.slice ax k cx) k (strCells ((linesK L).take k)) rfl (ho2.alloc _) ⟨w2.heap.size, 0, none⟩ 1 1 [.string s] rfl rfl (cells_new w2 [.string s] 9) (hon _) hb1 hb2 (by simp; omega) ?_; intro v' w3 hown hgr hnew; have hb3 := (hbel2.alloc (by omega) _).grown hgr (by simp; omega) (fun j e => (ho2.lt j e).1))
      go_roundg (min L.length 60 - (k + 1))
      · exact ⟨k + 1, rfl, by omega, by push_cast; rfl, by rw [hE.out, strCells_append]; exact hown, hb3⟩
      · have := hG.out; omega
    · obtain rfl : k = min L.length 60 := by omega
      rw [show (linesK L).take (min L.length 60) = linesK L from List.take_of_length_le (by omega)] at ho
      by_cases h60 : L.length < 60
      · have e1 : min L.length 60 = L.length := by omega
        rw [e1] at ho ⊢
        go_wp2_with fail
        go_ret
        exact ⟨_, rfl, by rw [hfin, e1]; exact ho, hbel⟩
      · have e1 : min L.length 60 = 60 := by omega
        rw [e1] at ho ⊢
        by_cases h6 : (60 : Int) < L.length
        · go_wp2_with fail
          go_ret
          exact ⟨_, rfl, by rw [hfin, e1]; exact ho, hbel⟩
        · have e2 : L.length = 60 := by omega
          rw [e2] at *
          go_wp2_with fail
          go_ret
          exact ⟨_, rfl, by first | exact ho | (rw [hfin]; exact ho), hbel⟩
end Go.Proofs.YtcclgodahlinbaaGreatDoor

namespace Go.Proofs.YtcclgodahlinbaaGreatDoor
open Go.RowKit Go
set_option maxRecDepth 100000

theorem SeamsAt.at {w : World} {a : Option Addr} {n c : Nat} {l : List SeamM} (h : SeamsAt w (.slice a n c) l) {i : Nat} (hi : i < l.length) :
    ∃ g, a = some ⟨g, 0, none⟩ ∧ w.cell? ⟨g, i * 3, none⟩ = some (.bool l[i].done) ∧ w.cell? ⟨g, i * 3 + 1, none⟩ = some (.int .i64 l[i].at') ∧ w.cell? ⟨g, i * 3 + 2, none⟩ = some (.int .i64 (l[i].fz : Nat)) := by
  rcases h with ⟨rfl, _⟩ | ⟨g, cap, e, _, hc⟩
  · simp at hi
  · cases e
    exact ⟨g, rfl, hc i hi⟩
theorem SeamsAt.below {w w' : World} {v : Value} {l : List SeamM} (h : SeamsAt w v l) (hb : Below w.heap.size w w') : SeamsAt w' v l := by
  rcases h with h | ⟨g, cap, e, hg, hc⟩
  · exact .inl h
  · exact .inr ⟨g, cap, e, Nat.lt_of_lt_of_le hg hb.size, fun i hi => ⟨(hb.cell (p := ⟨g, i * 3, none⟩) hg).trans (hc i hi).1, (hb.cell (p := ⟨g, i * 3 + 1, none⟩) hg).trans (hc i hi).2.1, (hb.cell (p := ⟨g, i * 3 + 2, none⟩) hg).trans (hc i hi).2.2⟩⟩
set_option maxHeartbeats 2000000 in
/-- all hunks are sewn in, moved by so much, with no fuzz -/
theorem still_yes {w : World} {a : Option Addr} {c : Nat} {l : List SeamM} {b : Int} (h : SeamsAt w (.slice a l.length c) l) (hl : l.length ≤ 100000) (hs : ∀ s ∈ l, s = ⟨true, b, 0⟩) :
    Calls Tryz.prog 18 #[.slice a l.length c, .int .i64 (l.length : Int), .int .i64 b] w fun e w' => e = .returned (.bool true) ∧ w = w' := by
  go_enter Tryz.func18, Tryz.ntmps18
  go_wp2_with fail
  go_loopg [7] l.length (fun g x wr => ∃ k : Nat, g = l.length - k ∧ k ≤ l.length ∧ x = .int .i64 k ∧ wr = w)
  case atStart => exact ⟨0, by omega, by omega, rfl, rfl⟩
  case round =>
    obtain ⟨k, hgk, hkl, rfl, rfl⟩ := hrel
    by_cases hk : k < l.length
    · have hkI : (k : Int) < l.length := by omega
      obtain ⟨g, rfl, c0, c1, c2⟩ := h.at hk
      rw [hs _ (List.getElem_mem hk)] at c0 c1 c2
      have c2' : wr.cell? ⟨g, k * 3 + 2, none⟩ = some (.int .i64 0) := c2
      have hG : Hid (gk = l.length - k) := hgk
      clear hgk c2
      go_wp2_with fail
      go_roundg (l.length - (k + 1))
      · exact ⟨k + 1, rfl, by omega, by push_cast; rfl, rfl⟩
      · have := hG.out; omega
    · obtain rfl : k = l.length := by omega
      go_wp2_with fail
      go_ret
      exact ⟨rfl, rfl⟩
end Go.Proofs.YtcclgodahlinbaaGreatDoor

namespace Go.Proofs.YtcclgodahlinbaaGreatDoor
open Go.RowKit Go
set_option maxRecDepth 100000

/-- lines as the statements make them -/
def OkL (L : List ByteArray) : Prop := ∀ s ∈ L, (10 : UInt8) ∉ s.data.toList ∧ s.size ≤ 15
theorem OkL.fit {L : List ByteArray} (h : OkL L) (hl : L.length ≤ 200) : Plain L ∧ L.length ≤ 200 ∧ (textL L).length ≤ 8000 := by
  have := textL_bound L 15 (fun s hs => (h s hs).2)
  exact ⟨fun s hs => (h s hs).1, hl, by omega⟩
theorem owns_low {B base n : Nat} {w w' : World} {v : Value} {xs : List Value} (h : w.ownsRow base 9 1 v n xs) (hb : Below B w w') (hB : ∀ g, v.ownBlock = some g → g < B) : w'.ownsRow base 9 1 v n xs := by
  refine ⟨h.1, ?_⟩
  rcases h.2 with h2 | ⟨g, cap, cur, e, h1, h2, h3⟩
  · exact .inl h2
  · exact .inr ⟨g, cap, cur, e, h1, (hb.block g (hB g (by rw [e]; rfl))).trans h2, h3⟩
theorem textO_any {base n c : Nat} {w : World} {a : Option Addr} {L : List ByteArray} (h : w.ownsRow base 9 1 (.slice a n c) n (strCells L)) (hl : (textL L).length ≤ 100000) :
    Calls Tryz.prog 11 #[.slice a n c] w fun e w' => e = .returned (.string (textB L)) ∧ w = w' := by
  have hn : L.length = n := by have := h.1; rw [strCells_length] at this; omega
  subst hn
  exact ktext_any (RowS.of_owns h) hl

theorem steps_take {st st' : Rd} {ts : List Tok} (h : Steps st ts st') (k : Nat) : ∃ m, Steps st (ts.take k) m ∧ Steps m (ts.drop k) st' := by
  rw [← List.take_append_drop k ts] at h
  exact steps_append.1 h
/-- a text of a patch of Diff's -/
structure Written (hs : List HunkM) (st : Rd) : Prop where
  run : Steps Rd.start (toksM hs) st
  eq : st.hs = hs
  f : st.f = 0
  t : st.t = 0
  fin : st.ended
  first : ∀ h tl, hs = h :: tl → fitsM h st.en st.gr = false
  right : rightM 0 0 hs = true
  sm : ∀ h ∈ hs, Small h ∧ ∀ s ∈ h.lines, Fine s
  txt : (writeM hs).length ≤ 4440
  toks : (toksM hs).length ≤ 240
theorem written_of {X Y : List ByteArray} {c : Nat} {hs : List HunkM} (h : DiffFacts X Y c hs) : ∃ st, Written hs st := by
  obtain ⟨st, g1, g2, g3, g4, g5, g6⟩ := strict_run h.right h.sm
  exact ⟨st, g1, g2, g3, g4, g5, g6, h.right, h.sm, h.txt, h.toks⟩
theorem toks_le : ∀ (ts : List Tok), ts.length ≤ (toksL ts).length
  | [] => by simp
  | t :: l => by have := toks_le l; rw [toksL_cons]; simp only [List.length_append, List.length_cons, List.length_nil]; omega
theorem tok_two (t : Tok) : 2 ≤ (tokL t ++ [10]).length := by
  have := List.length_pos_iff.2 (tokL_ne t)
  simp
  omega
theorem toks_le2 : ∀ (ts : List Tok), 2 * ts.length ≤ (toksL ts).length
  | [] => by simp
  | t :: l => by have := toks_le2 l; have := tok_two t; rw [toksL_cons, List.length_append, List.length_cons]; omega
abbrev wrong (n : Nat) : Ending := .returned (.tuple #[.agg #[.slice none 0 0], .int .i64 (n : Int), .int .i64 4])
theorem head_bound {a b c d : Nat} {h : HunkM} {en : Nat} {gr : Int} (hf : fitsM h en gr = true) (_ : a = b) (_ : c = d) : min h.fc 1 ≤ h.fr ∧ min h.tc 1 ≤ h.tr := by
  unfold fitsM at hf
  simp only [Bool.and_eq_true, decide_eq_true_eq] at hf
  exact ⟨hf.1.1.1.1.1.2, hf.1.1.2⟩
theorem read_last {hs : List HunkM} {st : Rd} (h : Written hs st) (h0 : hs ≠ []) {w : World} (hg : Glob w) :
    Calls Tryz.prog 17 #[.string ⟨((writeM hs).take ((writeM hs).length - 1)).toArray⟩] w fun e w' => e = wrong ((toksM hs).length - 1) ∧ Below w.heap.size w w' := by
  have hk := steps_nl h.run
  have ht0 : toksM hs ≠ [] := by cases hs with
    | nil => exact absurd rfl h0
    | cons x l => simp [toksM, toksH]
  obtain ⟨tl, e1, e2, e3⟩ := toks_last ht0 hk
  obtain ⟨m, m1, m2⟩ := steps_take h.run ((toksM hs).length - 1)
  have hx := h.txt
  have hlen : ((toksM hs).take ((toksM hs).length - 1)).length = (toksM hs).length - 1 := by rw [List.length_take]; omega
  have htk := h.toks
  have hle : (toksL ((toksM hs).take ((toksM hs).length - 1)) ++ tl).length ≤ 20000 := by rw [← e1, List.length_take]; have : (writeM hs).length = (toksL (toksM hs)).length := rfl; omega
  have hne : tl ≠ [] := by rw [e3]; exact tokL_ne _
  have := read_run (w := w) m1 hle (by omega) (.inr (.inl ⟨hne, e2⟩)) hg
  rw [← e1, hlen] at this
  refine this.mono ?_
  rintro e w' ⟨hr, hb⟩
  refine ⟨?_, hb⟩
  rcases hr with ⟨hr, _⟩ | ⟨_, hr⟩
  · exact absurd hr hne
  · exact hr
theorem read_more {hs : List HunkM} {st : Rd} (h : Written hs st) {l m : List UInt8} (hl : (10 : UInt8) ∉ l) (hr : Refused st l) (hlen : (writeM hs ++ (l ++ [10] ++ m)).length ≤ 20000) {w : World} (hg : Glob w) :
    Calls Tryz.prog 17 #[.string ⟨(writeM hs ++ (l ++ [10] ++ m)).toArray⟩] w fun e w' => e = wrong (toksM hs).length ∧ Below w.heap.size w w' := by
  have htk := h.toks
  refine (read_run (w := w) h.run hlen (by omega) (.inr (.inr ⟨l, m, rfl, hl, hr⟩)) hg).mono ?_
  rintro e w' ⟨hr, hb⟩
  refine ⟨?_, hb⟩
  rcases hr with ⟨hr, _⟩ | ⟨_, hr⟩
  · simp at hr
  · exact hr
theorem read_x {hs : List HunkM} {st : Rd} (h : Written hs st) {w : World} (hg : Glob w) :
    Calls Tryz.prog 17 #[.string ⟨(writeM hs ++ [120, 10]).toArray⟩] w fun e w' => e = wrong (toksM hs).length ∧ Below w.heap.size w w' := by
  have hx := h.txt
  exact read_more h (l := [120]) (m := []) (by decide) ⟨h.f, h.t, h.fin, .inl rfl⟩ (by simp; omega) hg
theorem read_twice {hs : List HunkM} {st : Rd} (h : Written hs st) (h0 : hs ≠ []) {w : World} (hg : Glob w) :
    Calls Tryz.prog 17 #[.string ⟨(writeM hs ++ writeM hs).toArray⟩] w fun e w' => e = wrong (toksM hs).length ∧ Below w.heap.size w w' := by
  have hx := h.txt
  cases hs with
  | nil => exact absurd rfl h0
  | cons x l =>
    have hsm := h.sm x (by simp)
    have hr := h.right
    rw [rightM] at hr
    simp only [Bool.and_eq_true, decide_eq_true_eq] at hr
    have hfit := hr.1.1.1
    obtain ⟨q1, q2⟩ := head_bound hfit (rfl : 0 = 0) (rfl : 0 = 0)
    have hno := h.first x l rfl
    have hR : Refused st (headM x) := ⟨h.f, h.t, h.fin, .inr ⟨x, rfl, hsm.1, q1, q2, by
      by_cases c : placeM x.fr x.fc < st.en
      · exact .inl c
      · refine .inr fun e => ?_
        unfold fitsM at hno hfit
        simp only [Bool.and_eq_true, decide_eq_true_eq] at hfit
        simp only [hfit.1.1, e, Bool.and_eq_false_iff, decide_eq_false_iff_not] at hno
        simp at hno
        omega⟩⟩
    have hw : writeM (x :: l) = headM x ++ [10] ++ (toksL (x.lines.map .inr) ++ writeM l) := by
      have : writeM (x :: l) = writeM [x] ++ writeM l := by rw [← writeM_append]; rfl
      rw [this, writeM_one]
      simp
    have := read_more h (l := headM x) (m := toksL (x.lines.map .inr) ++ writeM l) (head_nl hsm.1) hR (by rw [← hw, List.length_append]; omega) hg
    rw [← hw] at this
    exact this
/-- a text cut off: none, or what was written of the hunks that are whole -/
theorem read_cut {hs : List HunkM} {st : Rd} (h : Written hs st) (n : Nat) {w : World} (hg : Glob w) :
    Calls Tryz.prog 17 #[.string ⟨((writeM hs).take n).toArray⟩] w fun e w' => ((∃ k, e = wrong k) ∨ ∃ hs' a cap, e = .returned (.tuple #[.agg #[.slice a hs'.length cap], .int .i64 0, .int .i64 0]) ∧ HunksAt w'.heap.size w' (.slice a hs'.length cap) hs' ∧
      rightM 0 0 hs' = true ∧ hs'.length ≤ 1000 ∧ (∀ h ∈ hs', Small h ∧ ∀ s ∈ h.lines, Fine s) ∧ writeM hs' = (writeM hs).take n) ∧ Below w.heap.size w w' := by
  have hx := h.txt
  have htk := h.toks
  obtain ⟨k, rest, k1, k2, k3⟩ := toks_cut (toksM hs) n (steps_nl h.run)
  obtain ⟨m, m1, m2⟩ := steps_take h.run k
  have hle : (toksL ((toksM hs).take k) ++ rest).length ≤ 20000 := by rw [← k2, List.length_take]; have : (writeM hs).length = (toksL (toksM hs)).length := rfl; omega
  have hkl : ((toksM hs).take k).length ≤ 240 := by rw [List.length_take]; omega
  have hI := RInv.start.steps m1
  have := read_run (w := w) m1 hle (by omega) (by
    by_cases hr : rest = []
    · exact .inl hr
    · exact .inr (.inl ⟨hr, k3⟩)) hg
  have hk2 : (writeM hs).take n = toksL ((toksM hs).take k) ++ rest := k2
  rw [hk2]
  refine this.mono ?_
  rintro e w' ⟨hr, hb⟩
  refine ⟨?_, hb⟩
  rcases hr with ⟨hr, he, a, cap, rfl, hH⟩ | ⟨_, hr⟩
  · refine .inr ⟨m.hs, a, cap, rfl, hH, hI.right he, ?_, hI.sm, ?_⟩
    · have := hI.len
      simp only [List.nil_append] at this
      omega
    · rw [hI.txt, hr]
      simp
  · exact .inl ⟨_, hr⟩
theorem read_empty {w : World} (hg : Glob w) : Calls Tryz.prog 17 #[.string ⟨#[]⟩] w fun e w' => (∃ a cap, e = .returned (.tuple #[.agg #[.slice a 0 cap], .int .i64 0, .int .i64 0])) ∧ Below w.heap.size w w' := by
  have := read_run (w := w) (ts := []) (st := Rd.start) (rest := []) rfl (by simp [toksL]) (by simp) (.inl rfl) hg
  refine this.mono ?_
  rintro e w' ⟨hr, hb⟩
  refine ⟨?_, hb⟩
  rcases hr with ⟨_, _, a, cap, rfl, _⟩ | ⟨hr, _⟩
  · exact ⟨a, cap, rfl⟩
  · exact absurd ⟨rfl, .inl rfl⟩ hr
end Go.Proofs.YtcclgodahlinbaaGreatDoor

namespace Go.Proofs.YtcclgodahlinbaaGreatDoor
open Go.RowKit Go
set_option maxRecDepth 100000

theorem read_whole {hs : List HunkM} {st : Rd} (h : Written hs st) {w : World} (hg : Glob w) :
    Calls Tryz.prog 17 #[.string ⟨(writeM hs).toArray⟩] w fun e w' => ∃ a cap, e = .returned (.tuple #[.agg #[.slice a hs.length cap], .int .i64 0, .int .i64 0]) ∧ HunksAt w'.heap.size w' (.slice a hs.length cap) hs ∧ Below w.heap.size w w' := by
  have htk := h.toks
  have hx := h.txt
  have := read_run (w := w) (rest := []) h.run (by rw [List.append_nil]; show (writeM hs).length ≤ _; omega) (by omega) (.inl rfl) hg
  rw [List.append_nil] at this
  refine this.mono ?_
  rintro e w' ⟨hr, hb⟩
  rcases hr with ⟨_, _, a, cap, rfl, hH⟩ | ⟨hr, _⟩
  · rw [h.eq] at hH ⊢
    exact ⟨a, cap, rfl, hH, hb⟩
  · exact absurd ⟨rfl, h.fin⟩ hr
theorem text_inj {X Y : List ByteArray} (hX : Plain X) (hY : Plain Y) (h : textB X = textB Y) : X = Y := by rw [← linesB_text hX, ← linesB_text hY, h]
theorem run_kpick (x y : Value) (w : World) : (callFunc 13 #[x, y]).run Tryz.prog w = .ok (.enter 13 #[x, y]) w := by kernel_rfl
theorem run_kapply (x y z : Value) (w : World) : (callFunc 14 #[x, y, z]).run Tryz.prog w = .ok (.enter 14 #[x, y, z]) w := by kernel_rfl

theorem apply_len {T : List ByteArray} {fz : Nat} : ∀ (hs : List HunkM) (st : SewS), (applyFrom T fz st hs).2.length = hs.length
  | [], _ => rfl
  | h :: hs, st => by unfold applyFrom; simp only [List.length_cons, apply_len hs]
/-- a patch in a block of its own -/
structure PatAt (P : Nat) (a : Option Addr) (n cap : Nat) (hs : List HunkM) (w : World) : Prop where
  blk : w.heap[P]? = some (.cells #[.slice a n cap] 32 (0, 0))
  hun : HunksAt w.heap.size w (.slice a n cap) hs
theorem PatAt.below {P : Nat} {a : Option Addr} {n cap : Nat} {hs : List HunkM} {w w' : World} (h : PatAt P a n cap hs w) (hb : Below w.heap.size w w') : PatAt P a n cap hs w' :=
  ⟨(hb.block P (Array.getElem?_eq_some_iff.1 h.blk).1).trans h.blk, (h.hun.below hb).mono hb.size⟩
theorem PatAt.make {a : Option Addr} {n cap : Nat} {hs : List HunkM} {w : World} (h : HunksAt w.heap.size w (.slice a n cap) hs) : PatAt w.heap.size a n cap hs (w.alloc (.cells #[.slice a n cap] 32)) := by
  have hb := (Below.refl w.heap.size w).alloc (Nat.le_refl _) (.cells #[.slice a n cap] 32)
  exact ⟨heap_alloc_new _ _, (h.below hb).mono hb.size⟩
theorem PatAt.cell {P : Nat} {a : Option Addr} {n cap : Nat} {hs : List HunkM} {w : World} (h : PatAt P a n cap hs w) : w.cell? ⟨P, 0, none⟩ = some (.slice a n cap) := cell_of h.blk rfl
theorem drew_below {w w' : World} (h : Below w.drew.heap.size w.drew w') : Below w.heap.size w w' := ((Below.refl w.heap.size w).drew).trans h
set_option maxHeartbeats 40000000 in
theorem sewn_any {A E : List Int} {aa ae : Option Addr} {ca ce : Nat} (c0 f0 : Int) {w : World} (hA : RowI w (.slice aa A.length ca) A) (hE : RowI w (.slice ae E.length ce) E) (hA64 : i64s A) (hE64 : i64s E)
    (hc0 : -9223372036854775808 ≤ c0 ∧ c0 ≤ 9223372036854775807) (hf0 : -9223372036854775808 ≤ f0 ∧ f0 ≤ 9223372036854775807) (hg : Glob w) :
    Calls Tryz.prog 6 #[.slice aa A.length ca, .slice ae E.length ce, .int .i64 c0, .int .i64 f0] w fun e w' => e = .returned (.bool true) ∧ Below w.heap.size w w' := by
  obtain ⟨m, hm⟩ := hg.ml
  have hm0 : 0 < w.heap.size := by have := hg.sz; omega
  have hcl := pickN_lt c0 (n := 11) (by decide)
  have hfl := pickN_lt f0 (n := 11) (by decide)
  have hp1 := fun w => pick_any c0 11 w hc0 (by decide) (by decide)
  have hp2 := fun w => pick_any f0 11 w hf0 (by decide) (by decide)
  generalize pickN c0 11 = C at *
  generalize pickN f0 11 = F at *
  have haw := awake_any hm hm0
  go_enter Tryz.func6, Tryz.ntmps6
  go_wp2_with fail
  refine haw.mono ?_
  clear haw
  rintro e w1 ⟨rfl, b1⟩
  have z1 := b1.size
  have hli := lines_any (hA.below b1) hA64
  go_wp2_with fail
  refine hli.mono ?_
  clear hli
  rintro e w2 ⟨vx, rfl, hox, b2⟩
  have z2 := b2.size
  have hli := lines_any ((hE.below b1).below b2) hE64
  go_wp2_with fail
  refine hli.mono ?_
  clear hli
  rintro e w3 ⟨vy, rfl, hoy, b3⟩
  have z3 := b3.size
  have hox3 := owns_low hox b3 (fun g e => (hox.lt g e).2)
  have g3 := ((hg.next b1).next b2).next b3
  obtain ⟨m3, hm3⟩ := g3.ml
  obtain ⟨hXok, hXl⟩ := linesK_plain A
  obtain ⟨hYok, hYl⟩ := linesK_plain E
  generalize linesK A = X at *
  generalize linesK E = Y at *
  obtain ⟨hs, hF⟩ := diff_facts C (fun s h => hXok s h) (fun s h => hYok s h) hXl hYl
  obtain ⟨st, hW⟩ := written_of hF
  have hSF := sewn_facts C (fun s h => hXok s h) (fun s h => hYok s h) hXl hYl hF
  have hXo : OkL X := hXok
  have hYo : OkL Y := hYok
  have hfX := hXo.fit (by omega)
  have hfY := hYo.fit (by omega)
  have hdf := diff_text (c := C) hfX.1 hfX.2.1 hfX.2.2 hfY.1 hfY.2.1 hfY.2.2 (by omega) hm3
  rw [hF.eq] at hdf
  have hlen := hF.len
  have hbW : Below w.heap.size w w3 := b1.trans ((b2.mono z1).trans (b3.mono (by omega)))
  have hXYiff : (hs.length = 0) ↔ textB X = textB Y := by
    constructor
    · intro h
      rw [hF.nil (List.eq_nil_of_length_eq_zero h)]
    · intro h
      rw [hSF.empty (text_inj hfX.1 hfY.1 h)]
      rfl
  obtain ⟨ap1, ap2⟩ := apply_fits (fz := F) hSF.there
  obtain ⟨aq1, aq2⟩ := apply_fits (fz := F) hSF.back
  have HF : Hid (rightM 0 0 hs = true ∧ hs.all hunkOkB = true ∧ (∀ h ∈ hs, Small h ∧ ∀ s ∈ h.lines, Fine s) ∧ (writeM hs).length ≤ 4440) := ⟨hF.right, hF.ok, hF.sm, hF.txt⟩
  have HS : Hid (SewnFacts X Y hs) := hSF
  have HW : Hid (Written hs st) := hW
  have HP : Hid (Plain X ∧ Plain Y ∧ X.length ≤ 60 ∧ Y.length ≤ 60 ∧ (textL X).length ≤ 8000 ∧ (textL Y).length ≤ 8000) := ⟨hfX.1, hfY.1, hXl, hYl, hfX.2.2, hfY.2.2⟩
  have HA1 : Hid (∀ w' a cap, Glob w' → HunksAt w'.heap.size w' (.slice a hs.length cap) hs → Calls Tryz.prog 14 #[.string (textB X), .agg #[.slice a hs.length cap], .int .i64 (F : Int)] w' fun e w'' => ∃ v, e = .returned v ∧ ∃ a' c', v = .tuple #[.string (textB Y), .slice a' hs.length c', .int .i64 0] ∧ SeamsAt w'' (.slice a' hs.length c') (applyS X F hs) ∧ Below w'.heap.size w' w'') := by
    intro w' a cap hg hH
    obtain ⟨m, hm⟩ := hg.ml
    have h := apply_text (fz := F) hfX.1 hfX.2.1 hfX.2.2 (by omega) hH HF.out.1 (by omega) HF.out.2.1 hm (by have := hg.sz; omega)
    rw [ap2] at h
    exact h.mono fun e w'' ⟨a', c', q1, q2, q3⟩ => ⟨_, q1, a', c', rfl, q2, q3⟩
  have hml : (hs.map revH).length = hs.length := List.length_map _
  have HA2 : Hid (∀ w' a cap, Glob w' → HunksAt w'.heap.size w' (.slice a hs.length cap) (hs.map revH) → Calls Tryz.prog 14 #[.string (textB Y), .agg #[.slice a hs.length cap], .int .i64 (F : Int)] w' fun e w'' => ∃ v, e = .returned v ∧ ∃ a' c', v = .tuple #[.string (textB X), .slice a' hs.length c', .int .i64 0] ∧ SeamsAt w'' (.slice a' hs.length c') (applyS Y F (hs.map revH)) ∧ Below w'.heap.size w' w'') := by
    intro w' a cap hg hH
    obtain ⟨m, hm⟩ := hg.ml
    rw [← hml] at hH
    have h := apply_text (fz := F) hfY.1 hfY.2.1 hfY.2.2 (by omega) hH HS.out.rright (by omega) HS.out.rok hm (by have := hg.sz; omega)
    rw [aq2, hml] at h
    exact h.mono fun e w'' ⟨a', c', q1, q2, q3⟩ => ⟨_, q1, a', c', rfl, q2, q3⟩
  have HR1 : Hid (∀ w' a cap, HunksAt w'.heap.size w' (.slice a hs.length cap) hs → Calls Tryz.prog 15 #[.agg #[.slice a hs.length cap]] w' fun e w'' => ∃ a' cap', e = .returned (.tuple #[.agg #[.slice a' hs.length cap'], .int .i64 0]) ∧ HunksAt w''.heap.size w'' (.slice a' hs.length cap') (hs.map revH) ∧ Below w'.heap.size w' w'') :=
    fun w' a cap hH => reverse_ok hH HF.out.1 (by omega) (fun h hh => ⟨HS.out.lines h hh, (HF.out.2.2.1 h hh).2⟩)
  have HR2 : Hid (∀ w' a cap, HunksAt w'.heap.size w' (.slice a hs.length cap) (hs.map revH) → Calls Tryz.prog 15 #[.agg #[.slice a hs.length cap]] w' fun e w'' => ∃ a' cap', e = .returned (.tuple #[.agg #[.slice a' hs.length cap'], .int .i64 0]) ∧ HunksAt w''.heap.size w'' (.slice a' hs.length cap') hs ∧ Below w'.heap.size w' w'') := by
    intro w' a cap hH
    rw [← hml] at hH
    have h := reverse_ok hH HS.out.rright (by omega) HS.out.rsm
    rw [HS.out.twice, hml] at h
    exact h
  have HWr : Hid (∀ w' a cap, HunksAt w'.heap.size w' (.slice a hs.length cap) hs → Calls Tryz.prog 16 #[.agg #[.slice a hs.length cap]] w' fun e w'' => e = .returned (.tuple #[.string ⟨(writeM hs).toArray⟩, .int .i64 0]) ∧ Below w'.heap.size w' w'') :=
    fun w' a cap hH => write_ok hH HF.out.1 (by omega) HF.out.2.2.1 (by have := HF.out.2.2.2; omega)
  have HRd : Hid (∀ w', Glob w' → Calls Tryz.prog 17 #[.string ⟨(writeM hs).toArray⟩] w' fun e w'' => ∃ a cap, e = .returned (.tuple #[.agg #[.slice a hs.length cap], .int .i64 0, .int .i64 0]) ∧ HunksAt w''.heap.size w'' (.slice a hs.length cap) hs ∧ Below w'.heap.size w' w'') :=
    fun w' hg => read_whole HW.out hg
  have hSl1 : (applyS X F hs).length = hs.length := by
    unfold applyS applyK
    rw [List.take_length]
    exact apply_len hs _
  have hSl2 : (applyS Y F (hs.map revH)).length = hs.length := by
    unfold applyS applyK
    rw [List.take_length, apply_len, hml]
  generalize (⟨(writeM hs).toArray⟩ : ByteArray) = sU at *
  generalize hnx : X.length = nx at hox3
  generalize hny : Y.length = ny at hoy
  obtain ⟨ax, cx, rfl⟩ := owns_isSlice hox3
  obtain ⟨ay, cy, rfl⟩ := owns_isSlice hoy
  have ht1 := textO_any hox3 (by omega)
  have ht2 := textO_any hoy (by omega)
  clear hox hXok hYok b1 b2 b3 hm hA hE hA64 hE64 hF hSF hW hm3 hg hXo hYo hfX hfY hnx hny hXl hYl hox3 hoy
  generalize textB X = sX at *
  generalize textB Y = sY at *
  go_wp2_with fail
  refine ht1.mono ?_
  rintro e w' ⟨rfl, rfl⟩
  go_wp2_with fail
  refine ht2.mono ?_
  rintro e w' ⟨rfl, rfl⟩
  go_wp2_with fail
  refine (hp1 _).mono ?_
  rintro e w' ⟨rfl, rfl⟩
  go_wp2_with fail
  refine hdf.mono ?_
  clear hdf ht1 ht2
  rintro e W4 ⟨a, cap, rfl, hH, b4⟩
  have P1 := PatAt.make hH
  have b5 := b4.alloc b4.size (.cells #[.slice a hs.length cap] 32)
  have g5 := g3.next b5
  have z5 := b5.size
  have hbW5 := hbW.trans (b5.mono (by omega))
  clear hH b4 g3 hbW b5
  go_wp2_with fail
  generalize W4.alloc (.cells #[.slice a hs.length cap] 32) = W5 at *
  have hap1 := HA1.out W5.drew a cap ⟨g5.ml, g5.es, g5.sz⟩ P1.hun
  have hI5 : W5.drew.cell? ⟨W4.heap.size, 0, none⟩ = some (.slice a hs.length cap) := P1.cell
  refine wp_region_any mixed (wpKind.any (I := fun w' => w'.cell? ⟨W4.heap.size, 0, none⟩ = some (.slice a hs.length cap)) ?_)
  refine wpKind_take (i := 1) (n := 11) (v := .agg #[.slice a hs.length cap]) rfl (by kernel_rfl) (by kernel_rfl) (by kernel_rfl) (fun c a w h => h) ⟨by simp [Region.wanted], fun w' hw => by simp [execOp, go_sem, Act.eval, hw]⟩ ?_
  refine wpKind_take (i := 0) (n := 10) (v := .string sX) rfl (by kernel_rfl) (by kernel_rfl) (by kernel_rfl) (fun c a w h => h) ⟨by simp [Region.wanted], fun w' hw => rfl⟩ ?_
  refine wpKind_take (i := 2) (n := 9) (v := .int .i64 f0) rfl (by kernel_rfl) (by kernel_rfl) (by kernel_rfl) (fun c a w h => h) ⟨by simp [Region.wanted], fun w' hw => rfl⟩ ?_
  refine wpKind_one (i := 3) (n := 8) hI5 (by kernel_rfl) ?_
  refine wpOp_call rfl rfl 13 _ _ rfl #[.int .i64 f0, .int .i64 11] (by simp [Act.eval, Act.put]) (run_kpick _ _ _) (fun v w' => v = .int .i64 (F : Int) ∧ W5.drew = w') ((hp2 _).mono fun e w' h => ⟨_, h.1, rfl, h.2⟩) ?_
  rintro v w' ⟨rfl, rfl⟩
  refine wpKind_one (i := 4) (n := 7) hI5 (by kernel_rfl) ?_
  refine wpOp_call rfl rfl 14 _ _ rfl #[.string sX, .agg #[.slice a hs.length cap], .int .i64 (F : Int)] (by simp [Act.eval, Act.put]) (run_kapply _ _ _ _) _ hap1 ?_
  rintro v W6 ⟨a6, c6, rfl, hsm6, b6⟩
  have hI6 : W6.cell? ⟨W4.heap.size, 0, none⟩ = some (.slice a hs.length cap) := (b6.cell (p := ⟨W4.heap.size, 0, none⟩) (World.block_lt_of_cell? _ _ hI5)).trans hI5
  refine wpKind_take (i := 5) (n := 6) (v := .tuple #[.string sY, .slice a6 hs.length c6, .int .i64 0]) rfl (by kernel_rfl) (by kernel_rfl) (by kernel_rfl) (fun c a w h => h) ⟨by simp [Region.wanted], fun w' hw => by simp [execOp, go_sem, Act.eval, Act.put]⟩ ?_
  refine wpKind_take (i := 6) (n := 5) (v := .string sY) rfl (by kernel_rfl) (by kernel_rfl) (by kernel_rfl) (fun c a w h => h) ⟨by simp [Region.wanted], fun w' hw => by simp [execOp, go_sem, Act.eval, Act.put]⟩ ?_
  refine wpKind_take (i := 7) (n := 4) (v := .slice a6 hs.length c6) rfl (by kernel_rfl) (by kernel_rfl) (by kernel_rfl) (fun c a w h => h) ⟨by simp [Region.wanted], fun w' hw => by simp [execOp, go_sem, Act.eval, Act.put]⟩ ?_
  refine wpKind_take (i := 8) (n := 3) (v := .int .i64 0) rfl (by kernel_rfl) (by kernel_rfl) (by kernel_rfl) (fun c a w h => h) ⟨by simp [Region.wanted], fun w' hw => by simp [execOp, go_sem, Act.eval, Act.put]⟩ ?_
  refine wpKind_take (i := 9) (n := 2) (v := .string sY) rfl (by kernel_rfl) (by kernel_rfl) (by kernel_rfl) (fun c a w h => h) ⟨by simp [Region.wanted], fun w' hw => by simp [execOp, go_sem, Act.eval, Act.put]⟩ ?_
  refine wpKind_take (i := 10) (n := 1) (v := .slice a6 hs.length c6) rfl (by kernel_rfl) (by kernel_rfl) (by kernel_rfl) (fun c a w h => h) ⟨by simp [Region.wanted], fun w' hw => by simp [execOp, go_sem, Act.eval, Act.put]⟩ ?_
  refine wpKind_take (i := 11) (n := 0) (v := .int .i64 0) rfl (by kernel_rfl) (by kernel_rfl) (by kernel_rfl) (fun c a w h => h) ⟨by simp [Region.wanted], fun w' hw => by simp [execOp, go_sem, Act.eval, Act.put]⟩ ?_
  refine wpKind_done hI6 (by kernel_rfl) ?_
  have b6' := drew_below b6
  have g6 := g5.next b6'
  have P1 := P1.below b6'
  have z6 := b6'.size
  have hb6 := hbW5.trans (b6'.mono (by omega))
  have p1c := P1.cell
  clear hbW5 g5 hI5 hI6 hap1 b6
  go_wp2_with fail
  refine (HR1.out W6 a cap P1.hun).mono ?_
  rintro e W7 ⟨a7, c7, rfl, hH7, b7⟩
  have P2 := PatAt.make hH7
  have b8 := b7.alloc b7.size (.cells #[.slice a7 hs.length c7] 32)
  have g8 := g6.next b8
  have z8 := b8.size
  have P1 := P1.below b8
  have hsm6 := hsm6.below b8
  have hb8 := hb6.trans (b8.mono (by omega))
  clear hH7 b7 b8 g6 hb6 p1c
  go_wp2_with fail
  generalize W7.alloc (.cells #[.slice a7 hs.length c7] 32) = W8 at *
  have hap2 := HA2.out W8.drew a7 c7 ⟨g8.ml, g8.es, g8.sz⟩ P2.hun
  have hI8 : W8.drew.cell? ⟨W7.heap.size, 0, none⟩ = some (.slice a7 hs.length c7) := P2.cell
  refine wp_region_any mixed (wpKind.any (I := fun w' => w'.cell? ⟨W7.heap.size, 0, none⟩ = some (.slice a7 hs.length c7)) ?_)
  refine wpKind_take (i := 1) (n := 11) (v := .agg #[.slice a7 hs.length c7]) rfl (by kernel_rfl) (by kernel_rfl) (by kernel_rfl) (fun c a w h => h) ⟨by simp [Region.wanted], fun w' hw => by simp [execOp, go_sem, Act.eval, hw]⟩ ?_
  refine wpKind_take (i := 0) (n := 10) (v := .string sY) rfl (by kernel_rfl) (by kernel_rfl) (by kernel_rfl) (fun c a w h => h) ⟨by simp [Region.wanted], fun w' hw => rfl⟩ ?_
  refine wpKind_take (i := 2) (n := 9) (v := .int .i64 f0) rfl (by kernel_rfl) (by kernel_rfl) (by kernel_rfl) (fun c a w h => h) ⟨by simp [Region.wanted], fun w' hw => rfl⟩ ?_
  refine wpKind_one (i := 3) (n := 8) hI8 (by kernel_rfl) ?_
  refine wpOp_call rfl rfl 13 _ _ rfl #[.int .i64 f0, .int .i64 11] (by simp [Act.eval, Act.put]) (run_kpick _ _ _) (fun v w' => v = .int .i64 (F : Int) ∧ W8.drew = w') ((hp2 _).mono fun e w' h => ⟨_, h.1, rfl, h.2⟩) ?_
  rintro v w' ⟨rfl, rfl⟩
  refine wpKind_one (i := 4) (n := 7) hI8 (by kernel_rfl) ?_
  refine wpOp_call rfl rfl 14 _ _ rfl #[.string sY, .agg #[.slice a7 hs.length c7], .int .i64 (F : Int)] (by simp [Act.eval, Act.put]) (run_kapply _ _ _ _) _ hap2 ?_
  rintro v W9 ⟨a9, c9, rfl, hsm9, b9⟩
  have hI9 : W9.cell? ⟨W7.heap.size, 0, none⟩ = some (.slice a7 hs.length c7) := (b9.cell (p := ⟨W7.heap.size, 0, none⟩) (World.block_lt_of_cell? _ _ hI8)).trans hI8
  refine wpKind_take (i := 5) (n := 6) (v := .tuple #[.string sX, .slice a9 hs.length c9, .int .i64 0]) rfl (by kernel_rfl) (by kernel_rfl) (by kernel_rfl) (fun c a w h => h) ⟨by simp [Region.wanted], fun w' hw => by simp [execOp, go_sem, Act.eval, Act.put]⟩ ?_
  refine wpKind_take (i := 6) (n := 5) (v := .string sX) rfl (by kernel_rfl) (by kernel_rfl) (by kernel_rfl) (fun c a w h => h) ⟨by simp [Region.wanted], fun w' hw => by simp [execOp, go_sem, Act.eval, Act.put]⟩ ?_
  refine wpKind_take (i := 7) (n := 4) (v := .slice a9 hs.length c9) rfl (by kernel_rfl) (by kernel_rfl) (by kernel_rfl) (fun c a w h => h) ⟨by simp [Region.wanted], fun w' hw => by simp [execOp, go_sem, Act.eval, Act.put]⟩ ?_
  refine wpKind_take (i := 8) (n := 3) (v := .int .i64 0) rfl (by kernel_rfl) (by kernel_rfl) (by kernel_rfl) (fun c a w h => h) ⟨by simp [Region.wanted], fun w' hw => by simp [execOp, go_sem, Act.eval, Act.put]⟩ ?_
  refine wpKind_take (i := 9) (n := 2) (v := .string sX) rfl (by kernel_rfl) (by kernel_rfl) (by kernel_rfl) (fun c a w h => h) ⟨by simp [Region.wanted], fun w' hw => by simp [execOp, go_sem, Act.eval, Act.put]⟩ ?_
  refine wpKind_take (i := 10) (n := 1) (v := .slice a9 hs.length c9) rfl (by kernel_rfl) (by kernel_rfl) (by kernel_rfl) (fun c a w h => h) ⟨by simp [Region.wanted], fun w' hw => by simp [execOp, go_sem, Act.eval, Act.put]⟩ ?_
  refine wpKind_take (i := 11) (n := 0) (v := .int .i64 0) rfl (by kernel_rfl) (by kernel_rfl) (by kernel_rfl) (fun c a w h => h) ⟨by simp [Region.wanted], fun w' hw => by simp [execOp, go_sem, Act.eval, Act.put]⟩ ?_
  refine wpKind_done hI9 (by kernel_rfl) ?_
  have b9' := drew_below b9
  have g9 := g8.next b9'
  have P1 := P1.below b9'
  have P2 := P2.below b9'
  have hsm6 := hsm6.below b9'
  have z9 := b9'.size
  have hb9 := hb8.trans (b9'.mono (by omega))
  have p1c := P1.cell
  clear hb8 g8 hI8 hI9 hap2 b9
  go_wp2_with fail
  refine (HWr.out W9 a cap P1.hun).mono ?_
  rintro e WA ⟨rfl, bA⟩
  have gA := g9.next bA
  have P1 := P1.below bA
  have P2 := P2.below bA
  have hsm6 := hsm6.below bA
  have hsm9 := hsm9.below bA
  have zA := bA.size
  have hbA := hb9.trans (bA.mono (by omega))
  clear g9 hb9 p1c bA
  go_wp2_with fail
  refine (HRd.out WA gA).mono ?_
  rintro e WB ⟨aB, cB, rfl, hHB, bB⟩
  have P3 := PatAt.make hHB
  have bC := bB.alloc bB.size (.cells #[.slice aB hs.length cB] 32)
  have P1 := P1.below bC
  have P2 := P2.below bC
  have hsm6 := hsm6.below bC
  have hsm9 := hsm9.below bC
  have zC := bC.size
  have hbC := hbA.trans (bC.mono (by omega))
  have p2c := P2.cell
  clear hHB bB bC gA hbA
  go_wp2_with fail
  generalize WB.alloc (.cells #[.slice aB hs.length cB] 32) = WC at *
  refine (HR2.out WC a7 c7 P2.hun).mono ?_
  rintro e WD ⟨aD, cD, rfl, hHD, bD⟩
  have P4 := PatAt.make hHD
  have bE := bD.alloc bD.size (.cells #[.slice aD hs.length cD] 32)
  have P1 := P1.below bE
  have P3 := P3.below bE
  have hsm6 := hsm6.below bE
  have hsm9 := hsm9.below bE
  have zE := bE.size
  have hbE := hbC.trans (bE.mono (by omega))
  have p1c := P1.cell
  clear hHD bD bE hbC p2c P2
  go_wp2_with fail
  generalize WD.alloc (.cells #[.slice aD hs.length cD] 32) = WE at *
  have st1 := still_yes (w := WE) (l := applyS X F hs) (b := 0) (a := a6) (c := c6) (by rw [hSl1]; exact hsm6) (by omega) ap1
  rw [hSl1] at st1
  have st2 := still_yes (w := WE) (l := applyS Y F (hs.map revH)) (b := 0) (a := a9) (c := c9) (by rw [hSl2]; exact hsm9) (by omega) aq1
  rw [hSl2] at st2
  refine st1.mono ?_
  rintro e w' ⟨rfl, rfl⟩
  go_wp2_with fail
  refine st2.mono ?_
  rintro e w' ⟨rfl, rfl⟩
  have p3c := P3.cell
  clear st1 st2 hsm6 hsm9 ap1 aq1 hSl1 hSl2
  go_wp2_with fail
  refine (same_yes P1.hun P3.hun (by omega) HS.out.lines).mono ?_
  rintro e WF ⟨rfl, bF⟩
  have P1 := P1.below bF
  have P4 := P4.below bF
  have zF := bF.size
  have hbF := hbE.trans (bF.mono (by omega))
  have p1c := P1.cell
  have p4c := P4.cell
  clear p3c P3 bF hbE
  go_wp2_with fail
  refine (same_yes P1.hun P4.hun (by omega) HS.out.lines).mono ?_
  rintro e WG ⟨rfl, bG⟩
  have p1c := (P1.below bG).cell
  have hbG := hbF.trans (bG.mono (by omega))
  clear p4c P4 bG hbF P1
  by_cases h0 : hs.length = 0
  · have e0 : (((hs.length : Nat) : Int) == 0) = true := by rw [h0]; rfl
    have e1 := hXYiff.1 h0
    subst e1
    clear hXYiff ap2 aq2
    go_wp2_with fail
    go_ret
    exact ⟨rfl, hbG⟩
  · have e0 : (((hs.length : Nat) : Int) == 0) = false := by rw [beq_eq_false_iff_ne]; omega
    have e1 : sX ≠ sY := fun e => h0 (hXYiff.2 e)
    have e2 : (sX.toList == sY.toList) = false := by
      rw [Lib.toList_data, Lib.toList_data, beq_eq_false_iff_ne]
      intro e
      exact e1 (by rw [← Lib.mk_data sX, ← Lib.mk_data sY, e])
    have e3 : decide (sX = sY) = false := decide_eq_false e1
    clear hXYiff ap2 aq2
    go_wp2_with fail
    go_ret
    exact ⟨rfl, hbG⟩
end Go.Proofs.YtcclgodahlinbaaGreatDoor

namespace Go.Proofs.YtcclgodahlinbaaGreatDoor
open Go.RowKit Go
set_option maxRecDepth 100000

/-- the cells of a table as a row's datum tells it -/
def cellOfD (d : DataW Unit) : List Value := match d with
  | .lit (.int k n) => [.int k n]
  | _ => []
def cellsOfD (d : DataW Unit) : List Value := match d with
  | .agg l => l.flatMap fun x => match x with
    | .agg m => m.flatMap cellOfD
    | y => cellOfD y
  | _ => []
abbrev synS : ByteArray := { data := #[105, 110, 118, 97, 108, 105, 100, 32, 115, 121, 110, 116, 97, 120] }
abbrev rngS : ByteArray := { data := #[118, 97, 108, 117, 101, 32, 111, 117, 116, 32, 111, 102, 32, 114, 97, 110, 103, 101] }
def heldZ : Input := ⟨#[.cells #[.string synS] 240, .cells #[.string rngS] 240], #[], []⟩
/-- a world that bears the tables and the two errors -/
def withTables (w0 : World) : World :=
  let put (h : Array Obj) (g : Nat) (cs : Array Value) : Array Obj := h.modify g fun
    | .cells _ t frozen => .cells cs t frozen
    | o => o
  let h1 := put w0.heap 1 (Lib.firstTab.map fun z => Value.int .u8 z).toArray
  let h2 := put h1 2 (cellsOfD Rows.laid_unicode_utf8_acceptRanges).toArray
  let h3 := put h2 3 (cellsOfD Rows.laid_internal_strconv_uint64pow10).toArray
  let h4 := put h3 4 #[.iface 238 (.pointer (some ⟨w0.heap.size - 2, 0, none⟩))]
  let h5 := put h4 5 #[.iface 238 (.pointer (some ⟨w0.heap.size - 1, 0, none⟩))]
  let h6 := put h5 6 (cellsOfD Rows.laid_math_bits_deBruijn32tab).toArray
  let h7 := put h6 7 (cellsOfD Rows.laid_math_bits_deBruijn64tab).toArray
  { w0 with heap := h7 }
theorem laid_met (os : Os) (args : Array Value) : laidMetH Tryz.prog Rows.strictRow.laid ((withTables (World.holding Tryz.prog os heldZ)).forCall (fun _ _ => 0) ⟨#[], args, []⟩).memory :=
  laidMetH_of_parts (laidMet_of_run' 8 (by kernel_rfl) (by kernel_rfl)) (by kernel_rfl)

theorem ownK : ownKnob Tryz.prog.godebug = none := by kernel_rfl
theorem maxlen_of {W : World} (h : W.ShapedOpen Tryz.prog) : ∃ m, W.cell? ⟨0, 0, none⟩ = some (.int .i64 m) :=
  cell_of_shapedOpen_int (P := Tryz.prog) (g := 0) (t := 3) (zero := #[.int .i64 0]) h (of_decide_eq_true (by kernel_rfl)) (by kernel_rfl) rfl (by kernel_rfl) (by kernel_rfl) Tryz.underlying3
theorem cell_lt {w : World} {a : Addr} {v : Value} (h : w.cell? a = some v) : a.block < w.heap.size := by
  by_cases hb : a.block < w.heap.size
  · exact hb
  · unfold World.cell? at h
    rw [Array.getElem?_eq_none (by omega)] at h
    cases h
theorem i64_bounds {n : Int} (h : (Lit.int .i64 n).wf = true) : -9223372036854775808 ≤ n ∧ n ≤ 9223372036854775807 := by
  simp only [Lit.wf, Bool.and_eq_true, decide_eq_true_eq] at h
  exact ⟨h.1, h.2⟩
theorem wants_int : Tryz.prog.wantsStandIn 3 = false := by kernel_rfl
end Go.Proofs.YtcclgodahlinbaaGreatDoor

namespace Go.Proofs.YtcclgodahlinbaaGreatDoor
open Go.ChangeShapes Go.WideShapes Go.ChangeAt Go.RowKit Go
set_option maxRecDepth 100000

theorem cellsInt : Tryz.prog.cellsOf 3 = 1 := by kernel_rfl
theorem laidOutK : laidOutB Tryz.prog = true := by kernel_rfl
theorem wants_ints : Tryz.prog.wantsStandIn 25 = false := by kernel_rfl
/-- a row of ints that came in -/
theorem open_row {H : Type} {enc : TypeId × Value → H} {W : World} {a0 : Option Addr} {len cap fuel : Nat} {x : DataW H × List MemPlace}
    (hf : DataW.trod enc Tryz.prog W 0 (fun _ => true) true fuel 25 [.slice a0 len cap] = some x) : ∃ L : List Int, L.length = len ∧ RowI W (.slice a0 L.length cap) L ∧ i64s L := by
  rcases open_ints Tryz.underlying25 Tryz.underlying3 cellsInt hf with ⟨hcs, _⟩ | ⟨a, len', cap', zs, hcs, _, hl, hm, hz, _, hcell, hw⟩
  · simp at hcs
    obtain ⟨rfl, rfl, rfl⟩ := hcs
    exact ⟨[], rfl, .inl ⟨rfl, none, 0, rfl⟩, fun c hc => by simp at hc⟩
  · simp at hcs
    obtain ⟨rfl, rfl, rfl⟩ := hcs
    simp only [if_true] at hz
    have hlen : (zs.take len).length = len := by rw [List.length_take]; omega
    refine ⟨zs.take len, hlen, ?_, fun c hc => i64_bounds (hw c (List.mem_of_mem_take hc))⟩
    by_cases h0 : len = 0
    · left
      subst h0
      exact ⟨by simp, _, _, by rw [hlen]⟩
    · right
      obtain ⟨b, off, spot⟩ := a
      have hspot : spot = none := by simpa [Addr.add] using World.cell?_spot (hcell 0 (by omega))
      subst hspot
      refine ⟨b, off, cap, by rw [hlen], cell_lt (hcell 0 (by omega)), fun i hi => ?_⟩
      rw [hlen] at hi
      have h1 := hcell i (by omega)
      have e : (⟨b, off, none⟩ : Addr).add i = ⟨b, off + i, none⟩ := by simp [Addr.add]
      rw [e] at h1
      rw [h1]
      simp [List.getD, show i < zs.length by omega]

/-! ### the variable that the number's error names -/
theorem gES : Tryz.prog.globalNamed "strconv.ErrSyntax" = some 4 := by kernel_rfl
theorem gESType : (Tryz.prog.globals[4]?).map (·.type) = some 139 := by kernel_rfl
theorem cellsErrS : Tryz.prog.cellsOf 240 = 1 := by kernel_rfl
theorem cellsStr : Tryz.prog.cellsOf 9 = 1 := by kernel_rfl
theorem starErr : "*" ++ "errors.errorString" = "*errors.errorString" := by decide
theorem rowErr (u : TypeId) (h : Tryz.prog.typeName? 3 u = some "*errors.errorString") : u = 238 :=
  typeName_ptr_named (nm := "errors.errorString") (by rw [starErr]; kernel_rfl) (by kernel_rfl) (by decide) u (by rw [starErr]; exact h)
theorem errsyn_of {W : World} (hL : laidMetH Tryz.prog Rows.strictRow.laid W) : ∃ tp p, W.cell? ⟨4, 0, none⟩ = some (.iface tp p) := by
  have h1 := (laidMetH_iff.1 hL).1
  have h2 : laidMet Tryz.prog [(_, Rows.laid_math_bits_deBruijn32tab), (_, Rows.laid_math_bits_deBruijn64tab), (_, Rows.laid_internal_strconv_uint64pow10), (_, Rows.laid_unicode_utf8_acceptRanges), (_, Rows.laid_strconv_ErrRange), ("strconv.ErrSyntax", Rows.laid_strconv_ErrSyntax), (_, Rows.laid_unicode_utf8_first)] W := h1
  have h3 := h2.tail.tail.tail.tail.tail
  unfold Rows.laid_strconv_ErrSyntax at h3
  obtain ⟨a0, s0, hv0, -, -, -⟩ := laid_sentinel h3 gES gESType Tryz.underlying139 rowErr Tryz.underlying238 Tryz.underlying240 rfl rfl Tryz.underlying9 cellsErrS cellsStr
  have h0 := World.var?_cell gES hv0 0
  exact ⟨_, _, by simpa using h0⟩
theorem glob_of {W : World} (hL : laidMetH Tryz.prog Rows.strictRow.laid W) (hsh : W.ShapedOpen Tryz.prog) : Glob W := by
  obtain ⟨tp, p, he⟩ := errsyn_of hL
  have := cell_lt he
  exact ⟨maxlen_of hsh, ⟨_, he, .inr ⟨_, _, rfl⟩⟩, by simp at this; omega⟩
end Go.Proofs.YtcclgodahlinbaaGreatDoor

namespace Go.Proofs.YtcclgodahlinbaaGreatDoor
open Go.ChangeShapes Go.WideShapes Go.ChangeAt Go.RowKit Go
set_option maxRecDepth 100000

theorem sewn_witness (os : Os) {H : Type} (enc : TypeId × Value → H) :
    (OpenSpec.ofChange Rows.sewnSpec).preRow enc Tryz.prog Tryz.f6 Rows.sewnRow.domain false Rows.sewnRow.laid ((withTables (World.holding Tryz.prog os heldZ)).forCall (fun _ _ => 0) ⟨#[], #[.slice none 0 0, .slice none 0 0, .int .i64 0, .int .i64 0], []⟩).memory #[.slice none 0 0, .slice none 0 0, .int .i64 0, .int .i64 0] := by
  have hw : (DataW.whole enc Tryz.prog ((withTables (World.holding Tryz.prog os heldZ)).forCall (fun _ _ => 0) ⟨#[], #[.slice none 0 0, .slice none 0 0, .int .i64 0, .int .i64 0], []⟩).memory Tryz.f6.params.toList (OpenSpec.ofChange Rows.sewnSpec).vars false (#[.slice none 0 0, .slice none 0 0, .int .i64 0, .int .i64 0] : Array Value).toList 8).map (fun x => (x.1, x.2.1)) =
      some ([.nil, .nil, .lit (.int .i64 0), .lit (.int .i64 0)], []) := by kernel_rfl
  obtain ⟨⟨x1, x2, x3⟩, hx, hx1⟩ := Option.map_eq_some_iff.1 hw
  simp only [Prod.mk.injEq] at hx1
  obtain ⟨rfl, rfl⟩ := hx1
  exact OpenSpec.preRow_of_cond 8 hx (by kernel_rfl) (fun k hk => by cases hk) (by kernel_rfl) (laid_met os _)

theorem sewn_lifted (os : Os) (started : os.Started) (H : Type) (enc : TypeId × Value → H) (F : Stop.Interp) :
    ReturnsInHanded {} Tryz.checked os 6 .any ((OpenSpec.ofChange Rows.sewnSpec).preRow enc Tryz.prog Tryz.f6 Rows.sewnRow.domain false Rows.sewnRow.laid) (((OpenSpec.ofChange Rows.sewnSpec).at F).post enc Tryz.prog Tryz.f6 false true false false) := by
  refine returnsInHanded_of_row (C := Tryz.checked) (s := OpenSpec.ofChange Rows.sewnSpec) ownK started (by kernel_rfl) Tryz.func6
    (witness_row_atRef (enc := enc) (C := Tryz.checked) false (withTables (World.holding Tryz.prog os heldZ)) #[.slice none 0 0, .slice none 0 0, .int .i64 0, .int .i64 0] rfl (by kernel_rfl) (by kernel_rfl) (by kernel_rfl) (sewn_witness os enc)) ?_
  intro W base args ds gs before hval0 hW _ _ _ hL hsh _
  have hval : ∀ (j : Nat) t v, Tryz.f6.params[j]? = some t → args[j]? = some v → Value.okWide Tryz.prog W .any base t v := hval0
  have hW' := hW
  obtain ⟨p, q, hA0, hV, rfl, _, _⟩ := hW
  have hA : DataW.TrodAll enc Tryz.prog W 0 (fun _ => true) true Tryz.f6.params.toList args.toList ds p := hA0
  rw [Tryz.params6] at hA hval
  obtain ⟨v0, vs0, d0, ds0, p0, q0, hargs, rfl, rfl, h0, r0⟩ := trodAll_cons hA
  obtain ⟨v1, vs1, d1, ds1, p1, q1, rfl, rfl, rfl, h1, r1⟩ := trodAll_cons r0
  obtain ⟨v2, vs2, d2, ds2, p2, q2, rfl, rfl, rfl, h2, r2⟩ := trodAll_cons r1
  obtain ⟨v3, vs3, d3, ds3, p3, q3, rfl, rfl, rfl, h3, r3⟩ := trodAll_cons r2
  obtain ⟨rfl, rfl, rfl⟩ := trodAll_nil r3
  obtain rfl : args = #[v0, v1, v2, v3] := by cases args; simp_all
  obtain ⟨rfl, rfl⟩ := trodVars_none hV
  obtain ⟨a0, l0, c0, rfl⟩ := okWide_slice Tryz.underlying25 (hval 0 25 v0 rfl rfl)
  obtain ⟨a1, l1, c1, rfl⟩ := okWide_slice Tryz.underlying25 (hval 1 25 v1 rfl rfl)
  obtain ⟨n2, rfl, rfl, rfl, w2⟩ := open_int Tryz.underlying3 (hval 2 3 v2 rfl rfl) h2
  obtain ⟨n3, rfl, rfl, rfl, w3⟩ := open_int Tryz.underlying3 (hval 3 3 v3 rfl rfl) h3
  have h0k := h0
  have h1k := h1
  obtain ⟨fuel0, hf0⟩ := h0
  obtain ⟨fuel1, hf1⟩ := h1
  clear hA0 hval0
  simp only [List.append_nil] at hW'
  have hlt : ∀ x ∈ p0 ++ p1, x.block < W.heap.size := fun x hx => by simpa using hW'.lt x hx
  obtain ⟨L0, e0, r0', s0⟩ := open_row hf0
  obtain ⟨L1, e1, r1', s1⟩ := open_row hf1
  subst e0 e1
  refine (sewn_any n2 n3 r0' r1' s0 s1 (i64_bounds w2) (i64_bounds w3) (glob_of hL hsh)).mono fun e W' ⟨he, hb⟩ => ?_
  subst he
  refine ⟨_, rfl, _, _, _, [], p0 ++ p1, [], hW', ?_, ?_, ?_, hb.frame _, fun h => by cases h⟩
  · exact trodAll_mk1 (shut_bool Tryz.underlying4 true)
  · have t0 := Below.trod laidOutK (by kernel_rfl) (of_decide_eq_true (by kernel_rfl)) h0k hb (fun x hx => hlt x (by simp [hx]))
    have t1 := Below.trod laidOutK (by kernel_rfl) (of_decide_eq_true (by kernel_rfl)) h1k hb (fun x hx => hlt x (by simp [hx]))
    have := trodAll_cons_mk t0 (trodAll_cons_mk t1 (trodAll_cons_mk (shut_int Tryz.underlying3 w2) (trodAll_cons_mk (shut_int Tryz.underlying3 w3) trodAll_mk0)))
    simp only [List.append_nil] at this
    exact this
  · exact rfl

theorem sewn_row : Rows.SewnSaid :=
  OpenClaim.holds_of_cond 6 Tryz.f6 rfl rfl rfl rfl rfl rfl rfl ⟨rfl, rfl, rfl, rfl, rfl⟩ rfl rfl rfl rfl rfl (by kernel_rfl) Tryz.func6 (by kernel_rfl)
    (of_decide_eq_true (by kernel_rfl)) (by unfold Func.isWrapper; rw [if_neg (of_decide_eq_false (by kernel_rfl))]; exact ⟨rfl, rfl⟩)
    (fun os started H enc _ F0 => by rw [OpenClaim.pre_eq_preRow]; exact sewn_lifted os started H enc F0)

theorem sewn_card : Rows.SewnCardSaid :=
  Claim7.holds_tied_plain_at .later [] [.data, .data, .data, .data, .sentinel, .sentinel, .pinned] true (true, "7161e2264f3eed6547cfefa7174f8f11a68028a5e43b3bef197380733a8fa1fb") true
    sewn_row (fun _ h => by cases h) (by kernel_rfl) (fun _ h => by cases h) sewn_row_tie rfl ⟨rfl, rfl⟩ (by kernel_rfl) rfl
    (fun f fn hf hfn => by
      obtain rfl : f = 6 := Option.some.inj ((show Tryz.prog.funcNamed Tryz.f6.name = some 6 by kernel_rfl).symm.trans hf) |>.symm
      obtain rfl : fn = Tryz.f6 := (Option.some.inj (Tryz.func6.symm.trans hfn)).symm
      exact ⟨by kernel_rfl, fun j t ht => by
        rw [Tryz.params6] at ht
        rcases j with _ | _ | _ | _ | j
        · obtain rfl : t = 25 := by simpa using ht.symm
          exact wants_ints
        · obtain rfl : t = 25 := by simpa using ht.symm
          exact wants_ints
        · obtain rfl : t = 3 := by simpa using ht.symm
          exact wants_int
        · obtain rfl : t = 3 := by simpa using ht.symm
          exact wants_int
        · simp at ht⟩)
    (by kernel_rfl)
#print axioms sewn_card
end Go.Proofs.YtcclgodahlinbaaGreatDoor
