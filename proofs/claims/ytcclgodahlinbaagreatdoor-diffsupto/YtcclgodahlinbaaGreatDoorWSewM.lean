import Derived.Test.YtcclgodahlinbaaGreatDoorWAround
namespace Go.Proofs.YtcclgodahlinbaaGreatDoor
open Go.RowKit Go
set_option maxRecDepth 100000

/-! ### the mirror of sew -/
def pieceO (L : List StepB) (f : Nat) : List ByteArray := ((Dn.oldOf L).drop (min f (keepsK L L.length).1)).take ((Dn.oldOf L).length - min f (keepsK L L.length).2.1 - min f (keepsK L L.length).1)
def pieceF (L : List StepB) (f : Nat) : List ByteArray := ((Dn.newOf L).drop (min f (keepsK L L.length).1)).take ((Dn.newOf L).length - min f (keepsK L L.length).2.1 - min f (keepsK L L.length).1)
/-- the first place at which a hunk can stand with f keeps left out -/
def sewAt (T : List ByteArray) (ei : Nat) (mv : Int) (h : HunkM) (f : Nat) : Option Int :=
  (aroundL ((placeM h.fr h.fc : Nat) + mv) T.length).find? fun x => standM T ei (pieceO h.lines f) (x + (min f (keepsK h.lines h.lines.length).1 : Nat))
def sewFrom (T : List ByteArray) (ei : Nat) (mv : Int) (h : HunkM) : Nat → Nat → Option (Nat × Int)
  | _, 0 => none
  | f, n + 1 => match sewAt T ei mv h f with
    | some x => some (f, x)
    | none => sewFrom T ei mv h (f + 1) n
def sewRounds (h : HunkM) (fz : Nat) : Nat := min fz (max (keepsK h.lines h.lines.length).1 (keepsK h.lines h.lines.length).2.1) + 1
def sewFind (T : List ByteArray) (ei : Nat) (mv : Int) (h : HunkM) (fz : Nat) : Option (Nat × Int) := sewFrom T ei mv h 0 (sewRounds h fz)

/-- what is sewn so far: bytes written, where the last hunk ends, how far it was moved -/
structure SewS where
  t : List UInt8
  en : Nat
  mv : Int
structure SeamM where
  done : Bool
  at' : Int
  fz : Nat
def seamDec : DecidableEq SeamM := fun a b =>
  if h : a.done = b.done ∧ a.at' = b.at' ∧ a.fz = b.fz then isTrue (by cases a; cases b; obtain ⟨rfl, rfl, rfl⟩ := h; rfl) else isFalse (by rintro rfl; exact h ⟨rfl, rfl, rfl⟩)
def sewTo (T : List ByteArray) (s : SewS) (h : HunkM) (f : Nat) (x : Int) : SewS :=
  ⟨s.t ++ textL ((T.drop s.en).take ((x + (min f (keepsK h.lines h.lines.length).1 : Nat)).toNat - s.en)) ++ textL (pieceF h.lines f), (x + (min f (keepsK h.lines h.lines.length).1 : Nat)).toNat + (pieceO h.lines f).length, x - (placeM h.fr h.fc : Nat)⟩
def sewM (T : List ByteArray) (s : SewS) (h : HunkM) (fz : Nat) : SewS × SeamM :=
  match sewFind T s.en s.mv h fz with
  | some (f, x) => (sewTo T s h f x, ⟨true, x - (placeM h.fr h.fc : Nat), f⟩)
  | none => (s, ⟨false, 0, 0⟩)

/-- keeps at the two ends are lines of both texts -/
theorem keeps_sum (L : List StepB) : ∀ k, k ≤ L.length → (keepsK L k).1 + (keepsK L k).2.1 ≤ (Dn.oldOf (L.take k)).length ∧ (keepsK L k).1 + (keepsK L k).2.1 ≤ (Dn.newOf (L.take k)).length ∧ ((keepsK L k).2.2 = false → (keepsK L k).2.1 = 0) := by
  intro k
  induction k with
  | zero => intro _; simp [keepsK]
  | succ k ih =>
    intro hk
    obtain ⟨i1, i2, i3⟩ := ih (by omega)
    rw [keepsK_succ L k hk, oldOf_take L k hk, newOf_take L k hk, List.length_append, List.length_append]
    by_cases e : L[k].kind = 32
    · have e1 : ¬ L[k].kind = 43 := by omega
      have e2 : ¬ L[k].kind = 45 := by omega
      rw [if_pos e, if_neg e1, if_neg e2]
      by_cases e3 : (keepsK L k).2.2 = true
      · rw [if_pos e3]
        simp only [List.length_cons, List.length_nil]
        exact ⟨by omega, by omega, by simp⟩
      · rw [if_neg e3]
        have := i3 (by simpa using e3)
        simp only [List.length_cons, List.length_nil]
        exact ⟨by omega, by omega, fun _ => this⟩
    · rw [if_neg e]
      simp only
      exact ⟨by omega, by omega, by simp⟩
theorem keeps_sum_all (L : List StepB) : (keepsK L L.length).1 + (keepsK L L.length).2.1 ≤ (Dn.oldOf L).length ∧ (keepsK L L.length).1 + (keepsK L L.length).2.1 ≤ (Dn.newOf L).length := by
  have := keeps_sum L L.length (Nat.le_refl _)
  rw [List.take_length] at this
  exact ⟨this.1, this.2.1⟩

theorem find_split {α : Type} {p : α → Bool} {pre : List α} {x : α} {l : List α} (hp : pre ++ [x] <+: l) (h1 : ∀ y ∈ pre, p y = false) (h2 : p x = true) : l.find? p = some x := by
  obtain ⟨r, rfl⟩ := hp
  rw [List.append_assoc, List.find?_append]
  have : pre.find? p = none := by rw [List.find?_eq_none]; intro y hy; simp [h1 y hy]
  rw [this]
  simp [h2]
theorem find_none {α : Type} {p : α → Bool} {l : List α} (h1 : ∀ y ∈ l, p y = false) : l.find? p = none := by
  rw [List.find?_eq_none]; intro y hy; simp [h1 y hy]
end Go.Proofs.YtcclgodahlinbaaGreatDoor
