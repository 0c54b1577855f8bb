import Derived.Test.YtcclgodahlinbaaDoorWAwake2
namespace Go.Proofs.YtcclgodahlinbaaDoor
open Go.RowKit Go
set_option maxRecDepth 100000

def digB (i : Nat) : ByteArray := ⟨#[UInt8.ofNat (49 + i)]⟩
def otherB : ByteArray := ⟨#[111, 116, 104, 101, 114]⟩
def fiveB : ByteArray := ⟨#[102, 105, 118, 101]⟩
def zAt (kk i : Nat) : ByteArray := if i = kk then otherB else digB i
def wAt (kk i : Nat) : ByteArray := if i = 4 then fiveB else zAt kk i
def zL (kk n : Nat) : List ByteArray := (List.range n).map (zAt kk)
def wL (kk n : Nat) : List ByteArray := (List.range n).map (wAt kk)
def fzA : ByteArray := ⟨#[49, 10, 50, 10, 51, 10, 52, 10, 53, 10, 54, 10, 55, 10, 56, 10, 57, 10]⟩
def fzB : ByteArray := ⟨#[49, 10, 50, 10, 51, 10, 52, 10, 102, 105, 118, 101, 10, 54, 10, 55, 10, 56, 10, 57, 10]⟩
def fzH : HunkM := ⟨1, 9, 1, 9, [⟨32, digB 0⟩, ⟨32, digB 1⟩, ⟨32, digB 2⟩, ⟨32, digB 3⟩, ⟨45, digB 4⟩, ⟨43, fiveB⟩, ⟨32, digB 5⟩, ⟨32, digB 6⟩, ⟨32, digB 7⟩, ⟨32, digB 8⟩]⟩
theorem fz_check : checkB fzA fzB (4 : Nat) = 0 := by kernel_rfl
theorem fz_diff : diffM fzA fzB 4 = [fzH] := by kernel_rfl
/-- one case of Fuzzy: the changed line stands d + 1 lines ahead of the change, or behind it; so much fuzz -/
def fzOne (d f : Nat) (b : Bool) : Bool :=
  let kk := if b then 4 + (d + 1) else 4 - (d + 1)
  let s := textB (zL kk 9)
  applyOkB s [fzH] && decide ((textL (zL kk 9)).length ≤ 1000) && decide ((textL (wL kk 9)).length ≤ 1000) &&
    (if f < 5 - (d + 1) then decide (applyT (linesB s) f [fzH] = s) && (letI := seamDec; decide (applyS (linesB s) f [fzH] = [⟨false, 0, 0⟩]))
     else decide (applyT (linesB s) f [fzH] = textB (wL kk 9)) && (letI := seamDec; decide (applyS (linesB s) f [fzH] = [⟨true, 0, 5 - (d + 1)⟩])))
def fzAll : Bool := (List.range 4).all fun d => (List.range 11).all fun f => fzOne d f true && fzOne d f false
theorem fz_all : fzAll = true := by kernel_rfl
theorem fz_one {d f : Nat} (b : Bool) (hd : d < 4) (hf : f < 11) : fzOne d f b = true := by
  have h := fz_all
  unfold fzAll at h
  rw [List.all_eq_true] at h
  have h1 := h d (List.mem_range.2 hd)
  rw [List.all_eq_true] at h1
  have h2 := h1 f (List.mem_range.2 hf)
  rw [Bool.and_eq_true] at h2
  cases b
  · exact h2.2
  · exact h2.1

theorem zL_succ (kk n : Nat) : zL kk (n + 1) = zL kk n ++ [zAt kk n] := by unfold zL; rw [List.range_succ, List.map_append]; rfl
theorem wL_succ (kk n : Nat) : wL kk (n + 1) = wL kk n ++ [wAt kk n] := by unfold wL; rw [List.range_succ, List.map_append]; rfl
theorem zL_length (kk n : Nat) : (zL kk n).length = n := by unfold zL; simp
theorem wL_length (kk n : Nat) : (wL kk n).length = n := by unfold wL; simp

/-- two rows of strings that share nothing -/
structure Two (base : Nat) (vo vf : Value) (lo lf : List ByteArray) (w : World) : Prop where
  o : w.ownsRow base 9 1 vo lo.length (strCells lo)
  f : w.ownsRow base 9 1 vf lf.length (strCells lf)
  ne : vo.ownBlock = none ∨ vo.ownBlock ≠ vf.ownBlock
theorem Two.alloc {base : Nat} {vo vf : Value} {lo lf : List ByteArray} {w : World} (h : Two base vo vf lo lf w) (ob : Obj) : Two base vo vf lo lf (w.alloc ob) := ⟨h.o.alloc ob, h.f.alloc ob, h.ne⟩
theorem Two.addO {base : Nat} {vo vf v' : Value} {lo lf : List ByteArray} {w w1 : World} {ob : Obj} {t : ByteArray} (h : Two base vo vf lo lf w)
    (hown : w1.ownsRow base 9 1 v' (lo.length + 1) (strCells lo ++ [.string t])) (hgr : (w.alloc ob).grownBy w1 vo.ownBlock)
    (hnew : v'.ownBlock = vo.ownBlock ∨ ∀ k, v'.ownBlock = some k → (w.alloc ob).heap.size ≤ k) : Two base v' vf (lo ++ [t]) lf w1 := by
  refine ⟨by rw [strCells_append, List.length_append]; exact hown, (h.f.alloc ob).kept hgr ?_, ?_⟩
  · cases hv : vf.ownBlock with
    | none => exact .inl rfl
    | some k =>
      right
      intro e
      rcases h.ne with h1 | h1
      · rw [h1] at e; cases e
      · exact h1 (e.symm.trans hv.symm)
  · rcases hnew with e | e
    · rw [e]; exact h.ne
    · cases hv : v'.ownBlock with
      | none => exact .inl rfl
      | some k =>
        right
        intro e2
        have h1 := e k hv
        have h2 := (h.f.lt k e2.symm).2
        simp at h1; omega
theorem Two.addF {base : Nat} {vo vf v' : Value} {lo lf : List ByteArray} {w w1 : World} {ob : Obj} {t : ByteArray} (h : Two base vo vf lo lf w)
    (hown : w1.ownsRow base 9 1 v' (lf.length + 1) (strCells lf ++ [.string t])) (hgr : (w.alloc ob).grownBy w1 vf.ownBlock)
    (hnew : v'.ownBlock = vf.ownBlock ∨ ∀ k, v'.ownBlock = some k → (w.alloc ob).heap.size ≤ k) : Two base vo v' lo (lf ++ [t]) w1 := by
  refine ⟨(h.o.alloc ob).kept hgr h.ne, by rw [strCells_append, List.length_append]; exact hown, ?_⟩
  rcases hnew with e | e
  · rw [e]; exact h.ne
  · cases hv : vo.ownBlock with
    | none => exact .inl rfl
    | some k =>
      right
      intro e2
      have h1 := e k e2.symm
      have h2 := (h.o.lt k hv).2
      simp at h1; omega
end Go.Proofs.YtcclgodahlinbaaDoor
