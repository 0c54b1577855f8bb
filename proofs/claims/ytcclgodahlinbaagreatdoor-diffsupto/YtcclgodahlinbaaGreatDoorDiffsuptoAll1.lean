import Derived.Test.YtcclgodahlinbaaGreatDoorWPiece
import Derived.Laws.IdiomStrings
import Derived.Deep.RegionLaw
import Derived.Deep.DeepCutAuto
import Derived.Test.YtcclgodahlinbaaGreatDoorWIsRight
import Derived.BigRegion
import Derived.Test.YtcclgodahlinbaaGreatDoorWSewM
import Derived.Lib.OthersKept
import Derived.Lib.RuneCount
import Derived.WalkSmall
import Derived.Test.YtcclgodahlinbaaGreatDoorWBuild1
import Derived.Test.YtcclgodahlinbaaGreatDoorWReader
import Derived.BigQuiet
import Derived.Deep.QuietTactic
namespace Go.Proofs.YtcclgodahlinbaaGreatDoor
open Go.RowKit Go
set_option maxRecDepth 100000

theorem run_append_own3 {P : Program} (w : World) (base : Nat) (t ty e : TypeId) (i : TypeInfo) (z : Value) (size bytes : Nat) (h1 : P.underlying t = some (.slice e)) (h2 : P.info? e = some i) (h3 : i.zero = some z) (h4 : i.size = size) (h5 : i.bytes = bytes) (h6 : z.cells.size = size) (h7 : 0 < size)
    (v : Value) (n : Nat) (xs : List Value) (hown : w.ownsRow base e size v n xs)
    (ad : Addr) (m c : Nat) (news : List Value) (hn : news.length = m * size) (hc : ∀ j u, news[j]? = some u → w.cell? (ad.add j) = some u) (h1c : ∀ u ∈ news, u.oneCell' = true)
    (b1 : n + m ≤ maxLen) (b2 : (n + m) * bytes ≤ 140737488355328) (hbase : base ≤ w.heap.size) :
    ∃ v' w', (Builtin.append_ #[t, t] ty #[v, .slice (some ad) m c]).run P w = .ok v' w' ∧ w'.ownsRow base e size v' (n + m) (xs ++ news) ∧
      ((v'.ownBlock = v.ownBlock ∧ w.grownBy w' v.ownBlock) ∨ ((∀ g, v'.ownBlock = some g → w.heap.size ≤ g) ∧ w.grownBy w' none)) := by
  obtain ⟨v', w', hr, r2, r3, _⟩ := run_append_own (P := P) w base t ty e i z size bytes h1 h2 h3 h4 h5 h6 h7 v n xs hown ad m c news hn hc h1c b1 b2 hbase
  refine ⟨v', w', hr, r2, ?_⟩
  rcases hown.2 with ⟨rfl, rfl⟩ | ⟨g, cap, cur, rfl, hbg, hg, hnc, hcm, hcs, htake⟩
  · have hx : xs = [] := List.eq_nil_of_length_eq_zero (by simpa using hown.1)
    subst hx
    obtain ⟨v2, w2, hr2, s2, _, _⟩ := run_append_own (P := P) w w.heap.size t ty e i z size bytes h1 h2 h3 h4 h5 h6 h7 (.slice none 0 0) 0 [] (World.ownsRow_nil w _ e size) ad m c news hn hc h1c b1 b2 (Nat.le_refl _)
    rw [hr] at hr2
    cases hr2
    exact .inr ⟨fun g hg => (s2.lt g hg).1, r3⟩
  · by_cases hroom : n + m ≤ cap
    · subst h4
      have hfit : n * i.size + news.length ≤ cur.size := by rw [hn, hcs, ← Nat.add_mul]; exact Nat.mul_le_mul_right _ hroom
      have hr2 := run_append_room (P := P) w t ty e i h1 h2 g n cap cur hg ad m c news hn hc h1c hroom hfit
      rw [hr] at hr2
      cases hr2
      exact .inl ⟨rfl, r3⟩
    · have holds : ∀ j u, xs[j]? = some u → w.cell? ((⟨g, 0, none⟩ : Addr).add j) = some u := hown.cells (g := g) rfl
      obtain ⟨v2, w2, hr2, s2, s3⟩ := run_append_arg_grows (P := P) w t ty e i z size bytes h1 h2 h3 h4 h5 h6 h7 ⟨g, 0, none⟩ n cap xs hown.1 holds ad m c news hn hc (by omega) b1 b2
      rw [hr] at hr2
      cases hr2
      exact .inr ⟨fun k hk => (s2.lt k hk).1, s3⟩
theorem wpList_append_own3 {P : Program} {ops : Array Oper} {rest : List Oper} {o : Oper} {a : Act} {w : World} {Q : Exit → Act → World → Prop} (hgd : o.guard = none) (s x : Operand) (t : TypeId)
    (ho : o.op = .call { callee := .builtin .append, args := #[s, x], argTypes := #[t, t] })
    (base : Nat) (e : TypeId) (i : TypeInfo) (z : Value) (size bytes : Nat) (ht : P.underlying t = some (.slice e)) (hi : P.info? e = some i) (hz : i.zero = some z)
    (hsize : i.size = size) (hby : i.bytes = bytes) (hzs : z.cells.size = size) (hsz : 0 < size)
    (v : Value) (n : Nat) (xs : List Value) (hs : a.eval s = v) (hown : w.ownsRow base e size v n xs)
    (ad : Addr) (m c : Nat) (news : List Value) (hx : a.eval x = .slice (some ad) m c) (hl : news.length = m * size) (hnews : ∀ j u, news[j]? = some u → w.cell? (ad.add j) = some u) (h1 : ∀ u ∈ news, u.oneCell' = true)
    (h63 : n + m ≤ maxLen) (hbytes : (n + m) * bytes ≤ 140737488355328) (hbase : base ≤ w.heap.size)
    (h : ∀ v' w', w'.ownsRow base e size v' (n + m) (xs ++ news) → ((v'.ownBlock = v.ownBlock ∧ w.grownBy w' v.ownBlock) ∨ ((∀ g, v'.ownBlock = some g → w.heap.size ≤ g) ∧ w.grownBy w' none)) → wpList P ops Q rest (a.put o.dst v') w') : wpList P ops Q (o :: rest) a w := by
  refine wpList_plain hgd fun K hK => ?_
  obtain ⟨v', w', hr, r1, r2⟩ := run_append_own3 (P := P) w base t o.type e i z size bytes ht hi hz hsize hby hzs hsz v n xs hown ad m c news hl hnews h1 h63 hbytes hbase
  unfold Oper.wp execOp
  simp only [ho, resolve, invoke, builtin, Sem.run_bind, Sem.run_pure, Result.andThen_ok, List.map_toArray, List.map_cons, List.map_nil, hs, hx, hr]
  exact hK _ _ (h v' w' r1 r2)
/-- a row's block is all that it asks -/
theorem owns_same {w w' : World} {base e size n : Nat} {v : Value} {xs : List Value} (h : w.ownsRow base e size v n xs) (hs : ∀ g, v.ownBlock = some g → w'.heap[g]? = w.heap[g]?) : w'.ownsRow base e size v n xs := by
  refine ⟨h.1, ?_⟩
  rcases h.2 with h | ⟨g, cap, cur, rfl, hb, hg, r⟩
  · exact .inl h
  · exact .inr ⟨g, cap, cur, rfl, hb, (hs g rfl).trans hg, r⟩

/-! ### lists that bear their owner's mark -/
/-- every thing of a list is the mark, cell by cell -/
def Mark (T k : Nat) (pat : List Value) (W : World) (v : Value) : Prop :=
  ∃ al n cl, v = .slice al n cl ∧ n ≤ 2000 ∧ ((n = 0 ∧ al = none) ∨ ∃ g cur fr, al = some ⟨g, 0, none⟩ ∧ W.heap[g]? = some (.cells cur T fr) ∧ ∀ i, i < n → ∀ j, j < k → cur[i * k + j]? = pat[j]?)
/-- the block of a list that bears a mark is there -/
theorem Mark.lt {T k : Nat} {pat : List Value} {W : World} {v : Value} (h : Mark T k pat W v) : ∀ g, v.ownBlock = some g → g < W.heap.size ∧ ∃ cur fr, W.heap[g]? = some (.cells cur T fr) := by
  intro g hg
  obtain ⟨al, n, cl, rfl, hn, h⟩ := h
  rcases h with ⟨_, rfl⟩ | ⟨g2, cur, fr, rfl, hg2, hc⟩
  · cases hg
  · cases hg
    exact ⟨(Array.getElem?_eq_some_iff.1 hg2).1, cur, fr, hg2⟩
theorem Mark.same {T k : Nat} {pat : List Value} {W W' : World} {v : Value} (h : Mark T k pat W v) (hs : ∀ g, v.ownBlock = some g → (∃ cur fr, W.heap[g]? = some (.cells cur T fr)) → W'.heap[g]? = W.heap[g]?) : Mark T k pat W' v := by
  obtain ⟨al, n, cl, rfl, hn, h⟩ := h
  refine ⟨al, n, cl, rfl, hn, ?_⟩
  rcases h with h | ⟨g, cur, fr, rfl, hg, hc⟩
  · exact .inl h
  · exact .inr ⟨g, cur, fr, rfl, (hs g rfl ⟨cur, fr, hg⟩).trans hg, hc⟩
/-- n times the mark -/
def pats (pat : List Value) : Nat → List Value
  | 0 => []
  | n + 1 => pats pat n ++ pat
theorem pats_length (pat : List Value) : ∀ n, (pats pat n).length = n * pat.length
  | 0 => by simp [pats]
  | n + 1 => by rw [pats, List.length_append, pats_length pat n, Nat.succ_mul]
theorem pats_get (pat : List Value) : ∀ (n i j : Nat), i < n → j < pat.length → (pats pat n)[i * pat.length + j]? = pat[j]?
  | 0, i, j, h, _ => by omega
  | n + 1, i, j, h, hj => by
    rw [pats]
    by_cases hi : i < n
    · have h1 : i * pat.length + j < n * pat.length := by
        have : (i + 1) * pat.length ≤ n * pat.length := Nat.mul_le_mul_right _ hi
        rw [Nat.succ_mul] at this
        omega
      rw [List.getElem?_append_left (by rw [pats_length]; exact h1), pats_get pat n i j hi hj]
    · obtain rfl : i = n := by omega
      rw [List.getElem?_append_right (by rw [pats_length]; omega), pats_length]
      congr 1
      omega
/-- a row of nothing but the mark bears it, and so does every shorter list in its memory -/
theorem Mark.of_owns {base T n m : Nat} {pat : List Value} {W : World} {v : Value} {al : Option Addr} {cl : Nat} (h : W.ownsRow base T pat.length v n (pats pat n)) (hm : m ≤ n) (hn : n ≤ 2000) (hv : v.ownBlock = (Value.slice al m cl).ownBlock) (hal : ∀ a, al = some a → a = ⟨a.block, 0, none⟩) : Mark T pat.length pat W (.slice al m cl) := by
  refine ⟨al, m, cl, rfl, by omega, ?_⟩
  rcases h.2 with ⟨rfl, h0⟩ | ⟨g, cap, cur, rfl, hb, hg, h1, h2, h3, h4⟩
  · left
    refine ⟨by omega, ?_⟩
    cases al with
    | none => rfl
    | some a => simp [Value.ownBlock] at hv
  · right
    cases al with
    | none => simp [Value.ownBlock] at hv
    | some a =>
      simp [Value.ownBlock] at hv
      refine ⟨g, cur, _, ?_, hg, fun i hi j hj => ?_⟩
      · rw [hal a rfl, ← hv]
      · rw [← pats_get pat n i j (by omega) hj, ← h4, List.getElem?_take]
        have hlt : i * pat.length + j < n * pat.length := by
          have : (i + 1) * pat.length ≤ n * pat.length := Nat.mul_le_mul_right _ (by omega)
          rw [Nat.succ_mul] at this
          omega
        rw [if_pos hlt]
        simp
end Go.Proofs.YtcclgodahlinbaaGreatDoor

namespace Go.Proofs.YtcclgodahlinbaaGreatDoor
open Go.RowKit Go
set_option maxRecDepth 100000

def intOf : Value → Int
  | .int _ c => c
  | _ => 0
/-- a line, a run with their owner's mark -/
def patT (m : Value) : List Value := [.int .u8 63, m]
def patH (m : Value) : List Value := [.int .i64 (-(intOf m)), .int .i64 0, .int .i64 (intOf m), .int .i64 0, .slice none 0 0]
def patS (m : Value) : List Value := [.bool false, .int .i64 (intOf m), .int .i64 (-(intOf m))]
/-- what a mark is, by its type -/
def MarkV (mT : Nat) (v : Value) : Prop := (mT = 3 → ∃ c : Nat, c ≤ 9000000000000 ∧ v = .int .i64 (c : Int)) ∧ (mT = 9 → ∃ t : ByteArray, v = .string t)
/-- lists of one kind, and their marks -/
structure KeptK (base rowT markT T k : Nat) (pat : Value → List Value) (v vm : Value) (E : List (Value × Value)) (W : World) : Prop where
  row : W.ownsRow base rowT 1 v E.length (E.map (·.1))
  marks : W.ownsRow base markT 1 vm E.length (E.map (·.2))
  ok : ∀ p ∈ E, Mark T k (pat p.2) W p.1
  mv : ∀ p ∈ E, MarkV markT p.2
/-- the world's own cells -/
structure WV where
  h : Value
  hm : Value
  l : Value
  lm : Value
  s : Value
  sm : Value
  r : Value
  rm : Value
  c : Nat
def WV.obj (x : WV) : Obj := .cells #[x.h, x.hm, x.l, x.lm, x.s, x.sm, x.r, x.rm, .int .i64 x.c] 55 (0, 0)
structure Bk where
  h : List (Value × Value)
  l : List (Value × Value)
  s : List (Value × Value)
  r : List (Value × Value)
structure Kept (base wb : Nat) (x : WV) (B : Bk) (W : World) : Prop where
  blk : W.heap[wb]? = some x.obj
  h : KeptK base 30 3 61 5 patH x.h x.hm B.h W
  l : KeptK base 59 9 93 2 patT x.l x.lm B.l W
  s : KeptK base 37 3 63 3 patS x.s x.sm B.s W
  r : KeptK base 100 9 101 2 patT x.r x.rm B.r W
  ap1 : x.hm.ownBlock = none ∨ x.hm.ownBlock ≠ x.sm.ownBlock
  ap2 : x.lm.ownBlock = none ∨ x.lm.ownBlock ≠ x.rm.ownBlock
  wlo : base ≤ wb
theorem KeptK.same {base rowT markT T k : Nat} {pat : Value → List Value} {v vm : Value} {E : List (Value × Value)} {W W' : World} (h : KeptK base rowT markT T k pat v vm E W)
    (hs : ∀ g cur t fr, W.heap[g]? = some (.cells cur t fr) → (t = rowT ∨ (t = markT ∧ vm.ownBlock = some g) ∨ t = T) → W'.heap[g]? = W.heap[g]?) : KeptK base rowT markT T k pat v vm E W' := by
  refine ⟨owns_same h.row fun g hg => ?_, owns_same h.marks fun g hg => ?_, fun p hp => (h.ok p hp).same fun g _ ⟨cur, fr, hg⟩ => hs g cur T fr hg (.inr (.inr rfl)), h.mv⟩
  · obtain ⟨cur, hc⟩ := owns_block h.row hg
    exact hs g cur _ _ hc (.inl rfl)
  · obtain ⟨cur, hc⟩ := owns_block h.marks hg
    exact hs g cur _ _ hc (.inr (.inl ⟨rfl, hg⟩))
theorem Kept.old {base wb : Nat} {x : WV} {B : Bk} {W W' : World} (h : Kept base wb x B W) (hs : ∀ g, g < W.heap.size → W'.heap[g]? = W.heap[g]?) : Kept base wb x B W' := by
  have key : ∀ g cur t fr, W.heap[g]? = some (Obj.cells cur t fr) → W'.heap[g]? = W.heap[g]? := fun g cur t fr hg => hs g (Array.getElem?_eq_some_iff.1 hg).1
  exact ⟨(hs wb (Array.getElem?_eq_some_iff.1 h.blk).1).trans h.blk, h.h.same fun g c t f hg _ => key g c t f hg, h.l.same fun g c t f hg _ => key g c t f hg, h.s.same fun g c t f hg _ => key g c t f hg, h.r.same fun g c t f hg _ => key g c t f hg, h.ap1, h.ap2, h.wlo⟩
/-- all but the memory is as it was -/
def Outs (w w' : World) : Prop := w'.os = w.os ∧ w'.tape = w.tape ∧ w'.output = w.output
theorem Outs.refl (w : World) : Outs w w := ⟨rfl, rfl, rfl⟩
theorem Outs.trans {a b c : World} (h : Outs a b) (k : Outs b c) : Outs a c := ⟨k.1.trans h.1, k.2.1.trans h.2.1, k.2.2.trans h.2.2⟩
theorem Outs.of_below {B : Nat} {w w' : World} (h : Below B w w') : Outs w w' := ⟨h.os, h.tape, h.output⟩
theorem Outs.of_grown {w w' : World} {row : Option Nat} (h : w.grownBy w' row) : Outs w w' := ⟨h.os, h.tape, h.output⟩
theorem Outs.setCell (w : World) (p : Addr) (v : Value) : Outs w (w.setCell p v) := Outs.of_below ((Below.refl 0 w).setCell (Nat.zero_le _) v)
theorem Outs.alloc (w : World) (o : Obj) : Outs w (w.alloc o) := ⟨rfl, rfl, rfl⟩
theorem Outs.drew (w : World) : Outs w w.drew := ⟨rfl, rfl, rfl⟩
/-- the types of the world's own rows -/
def Tys : List Nat := [55, 30, 59, 37, 100, 9, 3]
/-- old blocks are as they were, but those that are named and the world's own -/
def Frame (base : Nat) (w w' : World) (skip : Nat → Prop) : Prop :=
  w.heap.size ≤ w'.heap.size ∧ (∀ g, g < w.heap.size → w'.heap[g]? = w.heap[g]? ∨ skip g ∨ ∃ cur t fr, w.heap[g]? = some (.cells cur t fr) ∧ t ∈ Tys ∧ base ≤ g) ∧ Outs w w'
theorem Frame.trans {base : Nat} {w w1 w2 : World} {s1 s2 : Nat → Prop} (h1 : Frame base w w1 s1) (h2 : Frame base w1 w2 s2) : Frame base w w2 (fun g => s1 g ∨ s2 g) := by
  refine ⟨Nat.le_trans h1.1 h2.1, fun g hg => ?_, h1.2.2.trans h2.2.2⟩
  rcases h1.2.1 g hg with e | e | e
  · rcases h2.2.1 g (by have := h1.1; omega) with f | f | f
    · exact .inl (f.trans e)
    · exact .inr (.inl (.inr f))
    · rw [e] at f; exact .inr (.inr f)
  · exact .inr (.inl (.inl e))
  · exact .inr (.inr e)
theorem Frame.mono {base : Nat} {w w' : World} {s s' : Nat → Prop} (h : Frame base w w' s) (hs : ∀ g, g < w.heap.size → s g → s' g) : Frame base w w' s' := by
  refine ⟨h.1, fun g hg => ?_, h.2.2⟩
  rcases h.2.1 g hg with e | e | e
  · exact .inl e
  · exact .inr (.inl (hs g hg e))
  · exact .inr (.inr e)
theorem Frame.of_below {base : Nat} {w w' : World} (h : Below w.heap.size w w') : Frame base w w' (fun _ => False) := ⟨h.size, fun g hg => .inl (h.block g hg), Outs.of_below h⟩
theorem Frame.refl (base : Nat) (w : World) : Frame base w w (fun _ => False) := ⟨Nat.le_refl _, fun _ _ => .inl rfl, Outs.refl w⟩
theorem Frame.at {base : Nat} {w w' : World} {s : Nat → Prop} (h : Frame base w w' s) {g t : Nat} {cur : Array Value} {fr : Nat × Nat} (hg : w.heap[g]? = some (.cells cur t fr)) (ht : t ∉ Tys) (hs : ¬ s g) : w'.heap[g]? = w.heap[g]? := by
  rcases h.2.1 g (Array.getElem?_eq_some_iff.1 hg).1 with e | e | ⟨c, t', f, e, ht', _⟩
  · exact e
  · exact absurd e hs
  · rw [hg] at e; cases e; exact absurd ht' ht
theorem block_ne {W : World} {a b t t' : Nat} {c c' : Array Value} {f f' : Nat × Nat} (h1 : W.heap[a]? = some (.cells c t f)) (h2 : W.heap[b]? = some (.cells c' t' f')) (ht : t ≠ t') : a ≠ b := by
  rintro rfl
  rw [h1] at h2
  cases h2
  exact ht rfl

theorem Kept.push_h {base wb : Nat} {x : WV} {B : Bk} {w w1 w3 : World} {v v1 v2 m : Value} {ob1 ob2 : Obj} (K : Kept base wb x B w)
    (g1 : (w.alloc ob1).grownBy w1 x.h.ownBlock) (o1 : w1.ownsRow base 30 1 v1 (B.h.length + 1) (B.h.map (·.1) ++ [v])) 
    (g2 : ((w1.setCell ⟨wb, 0, none⟩ v1).drew.alloc ob2).grownBy w3 x.hm.ownBlock) (o2 : w3.ownsRow base 3 1 v2 (B.h.length + 1) (B.h.map (·.2) ++ [m])) (n2 : v2.ownBlock = x.hm.ownBlock ∨ ∀ g, v2.ownBlock = some g → w.heap.size ≤ g)
    (hM : Mark 61 5 (patH m) w v) (hmv : MarkV 3 m) :
    Kept base wb { x with h := v1, hm := v2 } { B with h := B.h ++ [(v, m)] } (w3.setCell ⟨wb, 1, none⟩ v2) ∧ Frame base w (w3.setCell ⟨wb, 1, none⟩ v2) (fun _ => False) := by
  have hwb : wb < w.heap.size := (Array.getElem?_eq_some_iff.1 K.blk).1
  have z1 := g1.size
  have z2 := g2.size
  simp at z1 z2
  have nrow : x.h.ownBlock ≠ some wb := fun e => by
    obtain ⟨c, hc⟩ := owns_block K.h.row e
    exact block_ne hc K.blk (by decide) rfl
  have nmk : x.hm.ownBlock ≠ some wb := fun e => by
    obtain ⟨c, hc⟩ := owns_block K.h.marks e
    exact block_ne hc K.blk (by decide) rfl
  have k1 : ∀ g, g < w.heap.size → some g ≠ x.h.ownBlock → w1.heap[g]? = w.heap[g]? := fun g hg hne => by
    rw [g1.block g (by simp; omega) hne]; exact Below.heap_alloc w ob1 g hg
  have k2 : ∀ g, g < w1.heap.size → g ≠ wb → some g ≠ x.hm.ownBlock → w3.heap[g]? = w1.heap[g]? := fun g hg hn hne => by
    rw [g2.block g (by simp; omega) hne, Below.heap_alloc (w1.setCell ⟨wb, 0, none⟩ v1).drew ob2 g (by simp; omega)]
    exact heap_setCell_other _ _ _ _ _ hn
  have b1 : w1.heap[wb]? = some x.obj := (k1 wb hwb (fun e => nrow e.symm)).trans K.blk
  have b2 : (w1.setCell ⟨wb, 0, none⟩ v1).heap[wb]? = some ({ x with h := v1 } : WV).obj := by
    rw [heap_setCell_same _ _ _ _ _ _ _ b1]; rfl
  have b3 : w3.heap[wb]? = some ({ x with h := v1 } : WV).obj := by
    rw [g2.block wb (by simp; omega) (fun e => nmk e.symm), Below.heap_alloc (w1.setCell ⟨wb, 0, none⟩ v1).drew ob2 wb (by simp; omega)]
    exact b2
  have b4 : (w3.setCell ⟨wb, 1, none⟩ v2).heap[wb]? = some ({ x with h := v1, hm := v2 } : WV).obj := by
    rw [heap_setCell_same _ _ _ _ _ _ _ b3]; rfl
  have key : ∀ g, g < w.heap.size → g ≠ wb → some g ≠ x.h.ownBlock → some g ≠ x.hm.ownBlock → (w3.setCell ⟨wb, 1, none⟩ v2).heap[g]? = w.heap[g]? := fun g hg h1 h2 h3 => by
    rw [heap_setCell_other _ _ _ _ _ h1, k2 g (by omega) h1 h3, k1 g hg h2]
  have keyT : ∀ g cur t fr, w.heap[g]? = some (Obj.cells cur t fr) → t ≠ 55 → t ≠ 30 → (t ≠ 3 ∨ some g ≠ x.hm.ownBlock) → (w3.setCell ⟨wb, 1, none⟩ v2).heap[g]? = w.heap[g]? := by
    intro g cur t fr hg h1 h2 h3
    refine key g (Array.getElem?_eq_some_iff.1 hg).1 (block_ne hg K.blk h1) (fun e => ?_) (fun e => ?_)
    · obtain ⟨c, hc⟩ := owns_block K.h.row e.symm
      exact block_ne hg hc h2 rfl
    · rcases h3 with h3 | h3
      · obtain ⟨c, hc⟩ := owns_block K.h.marks e.symm
        exact block_ne hg hc h3 rfl
      · exact h3 e
  have htw : ∀ g, x.sm.ownBlock = some g → some g ≠ x.hm.ownBlock := by
    intro g hg e
    rcases K.ap1 with h | h
    · rw [h] at e; cases e
    · exact h (e.symm.trans hg.symm)
  have hrow : (w3.setCell ⟨wb, 1, none⟩ v2).ownsRow base 30 1 v1 (B.h.length + 1) (B.h.map (·.1) ++ [v]) := by
    refine owns_same o1 fun g hg => ?_
    obtain ⟨c, hc⟩ := owns_block o1 hg
    have hgw : g ≠ wb := block_ne hc b1 (by decide)
    rw [heap_setCell_other _ _ _ _ _ hgw, k2 g (Array.getElem?_eq_some_iff.1 hc).1 hgw (fun e => ?_)]
    obtain ⟨c2, hc2⟩ := owns_block K.h.marks e.symm
    have : w1.heap[g]? = w.heap[g]? := k1 g (Array.getElem?_eq_some_iff.1 hc2).1 (fun e2 => by
      obtain ⟨c3, hc3⟩ := owns_block K.h.row e2.symm
      exact block_ne hc2 hc3 (by decide) rfl)
    rw [this] at hc
    exact block_ne hc hc2 (by decide) rfl
  have hmk : (w3.setCell ⟨wb, 1, none⟩ v2).ownsRow base 3 1 v2 (B.h.length + 1) (B.h.map (·.2) ++ [m]) := by
    refine owns_same o2 fun g hg => ?_
    obtain ⟨c, hc⟩ := owns_block o2 hg
    exact heap_setCell_other _ _ _ _ _ (block_ne hc b3 (by decide))
  refine ⟨?_, ⟨by simp; omega, fun g hg => ?_, ((Outs.alloc w ob1).trans (Outs.of_grown g1)).trans ((Outs.setCell w1 _ _).trans (((Outs.drew _).trans (Outs.alloc _ ob2)).trans ((Outs.of_grown g2).trans (Outs.setCell w3 _ _))))⟩⟩
  · refine ⟨b4, ?_, K.l.same fun g c t f hg ht => keyT g c t f hg (by rcases ht with rfl | ⟨rfl, _⟩ | rfl <;> decide) (by rcases ht with rfl | ⟨rfl, _⟩ | rfl <;> decide) (.inl (by rcases ht with rfl | ⟨rfl, _⟩ | rfl <;> decide)), K.s.same fun g c t f hg ht => keyT g c t f hg (by rcases ht with rfl | ⟨rfl, _⟩ | rfl <;> decide) (by rcases ht with rfl | ⟨rfl, _⟩ | rfl <;> decide) (by rcases ht with rfl | ⟨rfl, e⟩ | rfl; (exact .inl (by decide)); (exact .inr (htw g e)); (exact .inl (by decide))), K.r.same fun g c t f hg ht => keyT g c t f hg (by rcases ht with rfl | ⟨rfl, _⟩ | rfl <;> decide) (by rcases ht with rfl | ⟨rfl, _⟩ | rfl <;> decide) (.inl (by rcases ht with rfl | ⟨rfl, _⟩ | rfl <;> decide)), ?_, K.ap2, K.wlo⟩
    · refine ⟨by simpa using hrow, by simpa using hmk, fun p hp => ?_, fun p hp => (List.mem_append.1 hp).elim (K.h.mv p) (fun h => by rw [List.mem_singleton] at h; subst h; exact hmv)⟩
      rcases List.mem_append.1 hp with hp | hp
      · exact (K.h.ok p hp).same fun g _ ⟨c, f, hg⟩ => keyT g c _ f hg (by decide) (by decide) (.inl (by decide))
      · rw [List.mem_singleton] at hp
        subst hp
        exact hM.same fun g _ ⟨c, f, hg⟩ => keyT g c _ f hg (by decide) (by decide) (.inl (by decide))
    · show v2.ownBlock = none ∨ v2.ownBlock ≠ x.sm.ownBlock
      rcases n2 with e | e
      · rw [e]; exact K.ap1
      · cases hv : v2.ownBlock with
        | none => exact .inl rfl
        | some g =>
          right
          intro e2
          have h1 := e g hv
          have h2 := (K.s.marks.lt g e2.symm).2
          omega
  · by_cases h1 : g = wb
    · subst h1
      exact .inr (.inr ⟨_, _, _, K.blk, by decide, K.wlo⟩)
    by_cases h2 : some g = x.h.ownBlock
    · obtain ⟨c, hc⟩ := owns_block K.h.row h2.symm
      exact .inr (.inr ⟨_, _, _, hc, by decide, (K.h.row.lt g h2.symm).1⟩)
    by_cases h3 : some g = x.hm.ownBlock
    · obtain ⟨c, hc⟩ := owns_block K.h.marks h3.symm
      exact .inr (.inr ⟨_, _, _, hc, by decide, (K.h.marks.lt g h3.symm).1⟩)
    exact .inl (key g hg h1 h2 h3)

theorem Kept.push_l {base wb : Nat} {x : WV} {B : Bk} {w w1 w3 : World} {v v1 v2 m : Value} {ob1 ob2 : Obj} (K : Kept base wb x B w)
    (g1 : (w.alloc ob1).grownBy w1 x.l.ownBlock) (o1 : w1.ownsRow base 59 1 v1 (B.l.length + 1) (B.l.map (·.1) ++ [v])) 
    (g2 : ((w1.setCell ⟨wb, 2, none⟩ v1).drew.alloc ob2).grownBy w3 x.lm.ownBlock) (o2 : w3.ownsRow base 9 1 v2 (B.l.length + 1) (B.l.map (·.2) ++ [m])) (n2 : v2.ownBlock = x.lm.ownBlock ∨ ∀ g, v2.ownBlock = some g → w.heap.size ≤ g)
    (hM : Mark 93 2 (patT m) w v) (hmv : MarkV 9 m) :
    Kept base wb { x with l := v1, lm := v2 } { B with l := B.l ++ [(v, m)] } (w3.setCell ⟨wb, 3, none⟩ v2) ∧ Frame base w (w3.setCell ⟨wb, 3, none⟩ v2) (fun _ => False) := by
  have hwb : wb < w.heap.size := (Array.getElem?_eq_some_iff.1 K.blk).1
  have z1 := g1.size
  have z2 := g2.size
  simp at z1 z2
  have nrow : x.l.ownBlock ≠ some wb := fun e => by
    obtain ⟨c, hc⟩ := owns_block K.l.row e
    exact block_ne hc K.blk (by decide) rfl
  have nmk : x.lm.ownBlock ≠ some wb := fun e => by
    obtain ⟨c, hc⟩ := owns_block K.l.marks e
    exact block_ne hc K.blk (by decide) rfl
  have k1 : ∀ g, g < w.heap.size → some g ≠ x.l.ownBlock → w1.heap[g]? = w.heap[g]? := fun g hg hne => by
    rw [g1.block g (by simp; omega) hne]; exact Below.heap_alloc w ob1 g hg
  have k2 : ∀ g, g < w1.heap.size → g ≠ wb → some g ≠ x.lm.ownBlock → w3.heap[g]? = w1.heap[g]? := fun g hg hn hne => by
    rw [g2.block g (by simp; omega) hne, Below.heap_alloc (w1.setCell ⟨wb, 2, none⟩ v1).drew ob2 g (by simp; omega)]
    exact heap_setCell_other _ _ _ _ _ hn
  have b1 : w1.heap[wb]? = some x.obj := (k1 wb hwb (fun e => nrow e.symm)).trans K.blk
  have b2 : (w1.setCell ⟨wb, 2, none⟩ v1).heap[wb]? = some ({ x with l := v1 } : WV).obj := by
    rw [heap_setCell_same _ _ _ _ _ _ _ b1]; rfl
  have b3 : w3.heap[wb]? = some ({ x with l := v1 } : WV).obj := by
    rw [g2.block wb (by simp; omega) (fun e => nmk e.symm), Below.heap_alloc (w1.setCell ⟨wb, 2, none⟩ v1).drew ob2 wb (by simp; omega)]
    exact b2
  have b4 : (w3.setCell ⟨wb, 3, none⟩ v2).heap[wb]? = some ({ x with l := v1, lm := v2 } : WV).obj := by
    rw [heap_setCell_same _ _ _ _ _ _ _ b3]; rfl
  have key : ∀ g, g < w.heap.size → g ≠ wb → some g ≠ x.l.ownBlock → some g ≠ x.lm.ownBlock → (w3.setCell ⟨wb, 3, none⟩ v2).heap[g]? = w.heap[g]? := fun g hg h1 h2 h3 => by
    rw [heap_setCell_other _ _ _ _ _ h1, k2 g (by omega) h1 h3, k1 g hg h2]
  have keyT : ∀ g cur t fr, w.heap[g]? = some (Obj.cells cur t fr) → t ≠ 55 → t ≠ 59 → (t ≠ 9 ∨ some g ≠ x.lm.ownBlock) → (w3.setCell ⟨wb, 3, none⟩ v2).heap[g]? = w.heap[g]? := by
    intro g cur t fr hg h1 h2 h3
    refine key g (Array.getElem?_eq_some_iff.1 hg).1 (block_ne hg K.blk h1) (fun e => ?_) (fun e => ?_)
    · obtain ⟨c, hc⟩ := owns_block K.l.row e.symm
      exact block_ne hg hc h2 rfl
    · rcases h3 with h3 | h3
      · obtain ⟨c, hc⟩ := owns_block K.l.marks e.symm
        exact block_ne hg hc h3 rfl
      · exact h3 e
  have htw : ∀ g, x.rm.ownBlock = some g → some g ≠ x.lm.ownBlock := by
    intro g hg e
    rcases K.ap2 with h | h
    · rw [h] at e; cases e
    · exact h (e.symm.trans hg.symm)
  have hrow : (w3.setCell ⟨wb, 3, none⟩ v2).ownsRow base 59 1 v1 (B.l.length + 1) (B.l.map (·.1) ++ [v]) := by
    refine owns_same o1 fun g hg => ?_
    obtain ⟨c, hc⟩ := owns_block o1 hg
    have hgw : g ≠ wb := block_ne hc b1 (by decide)
    rw [heap_setCell_other _ _ _ _ _ hgw, k2 g (Array.getElem?_eq_some_iff.1 hc).1 hgw (fun e => ?_)]
    obtain ⟨c2, hc2⟩ := owns_block K.l.marks e.symm
    have : w1.heap[g]? = w.heap[g]? := k1 g (Array.getElem?_eq_some_iff.1 hc2).1 (fun e2 => by
      obtain ⟨c3, hc3⟩ := owns_block K.l.row e2.symm
      exact block_ne hc2 hc3 (by decide) rfl)
    rw [this] at hc
    exact block_ne hc hc2 (by decide) rfl
  have hmk : (w3.setCell ⟨wb, 3, none⟩ v2).ownsRow base 9 1 v2 (B.l.length + 1) (B.l.map (·.2) ++ [m]) := by
    refine owns_same o2 fun g hg => ?_
    obtain ⟨c, hc⟩ := owns_block o2 hg
    exact heap_setCell_other _ _ _ _ _ (block_ne hc b3 (by decide))
  refine ⟨?_, ⟨by simp; omega, fun g hg => ?_, ((Outs.alloc w ob1).trans (Outs.of_grown g1)).trans ((Outs.setCell w1 _ _).trans (((Outs.drew _).trans (Outs.alloc _ ob2)).trans ((Outs.of_grown g2).trans (Outs.setCell w3 _ _))))⟩⟩
  · refine ⟨b4, K.h.same fun g c t f hg ht => keyT g c t f hg (by rcases ht with rfl | ⟨rfl, _⟩ | rfl <;> decide) (by rcases ht with rfl | ⟨rfl, _⟩ | rfl <;> decide) (.inl (by rcases ht with rfl | ⟨rfl, _⟩ | rfl <;> decide)), ?_, K.s.same fun g c t f hg ht => keyT g c t f hg (by rcases ht with rfl | ⟨rfl, _⟩ | rfl <;> decide) (by rcases ht with rfl | ⟨rfl, _⟩ | rfl <;> decide) (.inl (by rcases ht with rfl | ⟨rfl, _⟩ | rfl <;> decide)), K.r.same fun g c t f hg ht => keyT g c t f hg (by rcases ht with rfl | ⟨rfl, _⟩ | rfl <;> decide) (by rcases ht with rfl | ⟨rfl, _⟩ | rfl <;> decide) (by rcases ht with rfl | ⟨rfl, e⟩ | rfl; (exact .inl (by decide)); (exact .inr (htw g e)); (exact .inl (by decide))), K.ap1, ?_, K.wlo⟩
    · refine ⟨by simpa using hrow, by simpa using hmk, fun p hp => ?_, fun p hp => (List.mem_append.1 hp).elim (K.l.mv p) (fun h => by rw [List.mem_singleton] at h; subst h; exact hmv)⟩
      rcases List.mem_append.1 hp with hp | hp
      · exact (K.l.ok p hp).same fun g _ ⟨c, f, hg⟩ => keyT g c _ f hg (by decide) (by decide) (.inl (by decide))
      · rw [List.mem_singleton] at hp
        subst hp
        exact hM.same fun g _ ⟨c, f, hg⟩ => keyT g c _ f hg (by decide) (by decide) (.inl (by decide))
    · show v2.ownBlock = none ∨ v2.ownBlock ≠ x.rm.ownBlock
      rcases n2 with e | e
      · rw [e]; exact K.ap2
      · cases hv : v2.ownBlock with
        | none => exact .inl rfl
        | some g =>
          right
          intro e2
          have h1 := e g hv
          have h2 := (K.r.marks.lt g e2.symm).2
          omega
  · by_cases h1 : g = wb
    · subst h1
      exact .inr (.inr ⟨_, _, _, K.blk, by decide, K.wlo⟩)
    by_cases h2 : some g = x.l.ownBlock
    · obtain ⟨c, hc⟩ := owns_block K.l.row h2.symm
      exact .inr (.inr ⟨_, _, _, hc, by decide, (K.l.row.lt g h2.symm).1⟩)
    by_cases h3 : some g = x.lm.ownBlock
    · obtain ⟨c, hc⟩ := owns_block K.l.marks h3.symm
      exact .inr (.inr ⟨_, _, _, hc, by decide, (K.l.marks.lt g h3.symm).1⟩)
    exact .inl (key g hg h1 h2 h3)

theorem Kept.push_s {base wb : Nat} {x : WV} {B : Bk} {w w1 w3 : World} {v v1 v2 m : Value} {ob1 ob2 : Obj} (K : Kept base wb x B w)
    (g1 : (w.alloc ob1).grownBy w1 x.s.ownBlock) (o1 : w1.ownsRow base 37 1 v1 (B.s.length + 1) (B.s.map (·.1) ++ [v])) 
    (g2 : ((w1.setCell ⟨wb, 4, none⟩ v1).drew.alloc ob2).grownBy w3 x.sm.ownBlock) (o2 : w3.ownsRow base 3 1 v2 (B.s.length + 1) (B.s.map (·.2) ++ [m])) (n2 : v2.ownBlock = x.sm.ownBlock ∨ ∀ g, v2.ownBlock = some g → w.heap.size ≤ g)
    (hM : Mark 63 3 (patS m) w v) (hmv : MarkV 3 m) :
    Kept base wb { x with s := v1, sm := v2 } { B with s := B.s ++ [(v, m)] } (w3.setCell ⟨wb, 5, none⟩ v2) ∧ Frame base w (w3.setCell ⟨wb, 5, none⟩ v2) (fun _ => False) := by
  have hwb : wb < w.heap.size := (Array.getElem?_eq_some_iff.1 K.blk).1
  have z1 := g1.size
  have z2 := g2.size
  simp at z1 z2
  have nrow : x.s.ownBlock ≠ some wb := fun e => by
    obtain ⟨c, hc⟩ := owns_block K.s.row e
    exact block_ne hc K.blk (by decide) rfl
  have nmk : x.sm.ownBlock ≠ some wb := fun e => by
    obtain ⟨c, hc⟩ := owns_block K.s.marks e
    exact block_ne hc K.blk (by decide) rfl
  have k1 : ∀ g, g < w.heap.size → some g ≠ x.s.ownBlock → w1.heap[g]? = w.heap[g]? := fun g hg hne => by
    rw [g1.block g (by simp; omega) hne]; exact Below.heap_alloc w ob1 g hg
  have k2 : ∀ g, g < w1.heap.size → g ≠ wb → some g ≠ x.sm.ownBlock → w3.heap[g]? = w1.heap[g]? := fun g hg hn hne => by
    rw [g2.block g (by simp; omega) hne, Below.heap_alloc (w1.setCell ⟨wb, 4, none⟩ v1).drew ob2 g (by simp; omega)]
    exact heap_setCell_other _ _ _ _ _ hn
  have b1 : w1.heap[wb]? = some x.obj := (k1 wb hwb (fun e => nrow e.symm)).trans K.blk
  have b2 : (w1.setCell ⟨wb, 4, none⟩ v1).heap[wb]? = some ({ x with s := v1 } : WV).obj := by
    rw [heap_setCell_same _ _ _ _ _ _ _ b1]; rfl
  have b3 : w3.heap[wb]? = some ({ x with s := v1 } : WV).obj := by
    rw [g2.block wb (by simp; omega) (fun e => nmk e.symm), Below.heap_alloc (w1.setCell ⟨wb, 4, none⟩ v1).drew ob2 wb (by simp; omega)]
    exact b2
  have b4 : (w3.setCell ⟨wb, 5, none⟩ v2).heap[wb]? = some ({ x with s := v1, sm := v2 } : WV).obj := by
    rw [heap_setCell_same _ _ _ _ _ _ _ b3]; rfl
  have key : ∀ g, g < w.heap.size → g ≠ wb → some g ≠ x.s.ownBlock → some g ≠ x.sm.ownBlock → (w3.setCell ⟨wb, 5, none⟩ v2).heap[g]? = w.heap[g]? := fun g hg h1 h2 h3 => by
    rw [heap_setCell_other _ _ _ _ _ h1, k2 g (by omega) h1 h3, k1 g hg h2]
  have keyT : ∀ g cur t fr, w.heap[g]? = some (Obj.cells cur t fr) → t ≠ 55 → t ≠ 37 → (t ≠ 3 ∨ some g ≠ x.sm.ownBlock) → (w3.setCell ⟨wb, 5, none⟩ v2).heap[g]? = w.heap[g]? := by
    intro g cur t fr hg h1 h2 h3
    refine key g (Array.getElem?_eq_some_iff.1 hg).1 (block_ne hg K.blk h1) (fun e => ?_) (fun e => ?_)
    · obtain ⟨c, hc⟩ := owns_block K.s.row e.symm
      exact block_ne hg hc h2 rfl
    · rcases h3 with h3 | h3
      · obtain ⟨c, hc⟩ := owns_block K.s.marks e.symm
        exact block_ne hg hc h3 rfl
      · exact h3 e
  have htw : ∀ g, x.hm.ownBlock = some g → some g ≠ x.sm.ownBlock := by
    intro g hg e
    rcases K.ap1 with h | h
    · rw [h] at hg; cases hg
    · exact h (hg.trans e)
  have hrow : (w3.setCell ⟨wb, 5, none⟩ v2).ownsRow base 37 1 v1 (B.s.length + 1) (B.s.map (·.1) ++ [v]) := by
    refine owns_same o1 fun g hg => ?_
    obtain ⟨c, hc⟩ := owns_block o1 hg
    have hgw : g ≠ wb := block_ne hc b1 (by decide)
    rw [heap_setCell_other _ _ _ _ _ hgw, k2 g (Array.getElem?_eq_some_iff.1 hc).1 hgw (fun e => ?_)]
    obtain ⟨c2, hc2⟩ := owns_block K.s.marks e.symm
    have : w1.heap[g]? = w.heap[g]? := k1 g (Array.getElem?_eq_some_iff.1 hc2).1 (fun e2 => by
      obtain ⟨c3, hc3⟩ := owns_block K.s.row e2.symm
      exact block_ne hc2 hc3 (by decide) rfl)
    rw [this] at hc
    exact block_ne hc hc2 (by decide) rfl
  have hmk : (w3.setCell ⟨wb, 5, none⟩ v2).ownsRow base 3 1 v2 (B.s.length + 1) (B.s.map (·.2) ++ [m]) := by
    refine owns_same o2 fun g hg => ?_
    obtain ⟨c, hc⟩ := owns_block o2 hg
    exact heap_setCell_other _ _ _ _ _ (block_ne hc b3 (by decide))
  refine ⟨?_, ⟨by simp; omega, fun g hg => ?_, ((Outs.alloc w ob1).trans (Outs.of_grown g1)).trans ((Outs.setCell w1 _ _).trans (((Outs.drew _).trans (Outs.alloc _ ob2)).trans ((Outs.of_grown g2).trans (Outs.setCell w3 _ _))))⟩⟩
  · refine ⟨b4, K.h.same fun g c t f hg ht => keyT g c t f hg (by rcases ht with rfl | ⟨rfl, _⟩ | rfl <;> decide) (by rcases ht with rfl | ⟨rfl, _⟩ | rfl <;> decide) (by rcases ht with rfl | ⟨rfl, e⟩ | rfl; (exact .inl (by decide)); (exact .inr (htw g e)); (exact .inl (by decide))), K.l.same fun g c t f hg ht => keyT g c t f hg (by rcases ht with rfl | ⟨rfl, _⟩ | rfl <;> decide) (by rcases ht with rfl | ⟨rfl, _⟩ | rfl <;> decide) (.inl (by rcases ht with rfl | ⟨rfl, _⟩ | rfl <;> decide)), ?_, K.r.same fun g c t f hg ht => keyT g c t f hg (by rcases ht with rfl | ⟨rfl, _⟩ | rfl <;> decide) (by rcases ht with rfl | ⟨rfl, _⟩ | rfl <;> decide) (.inl (by rcases ht with rfl | ⟨rfl, _⟩ | rfl <;> decide)), ?_, K.ap2, K.wlo⟩
    · refine ⟨by simpa using hrow, by simpa using hmk, fun p hp => ?_, fun p hp => (List.mem_append.1 hp).elim (K.s.mv p) (fun h => by rw [List.mem_singleton] at h; subst h; exact hmv)⟩
      rcases List.mem_append.1 hp with hp | hp
      · exact (K.s.ok p hp).same fun g _ ⟨c, f, hg⟩ => keyT g c _ f hg (by decide) (by decide) (.inl (by decide))
      · rw [List.mem_singleton] at hp
        subst hp
        exact hM.same fun g _ ⟨c, f, hg⟩ => keyT g c _ f hg (by decide) (by decide) (.inl (by decide))
    · show x.hm.ownBlock = none ∨ x.hm.ownBlock ≠ v2.ownBlock
      rcases n2 with e | e
      · rw [e]; exact K.ap1
      · cases hv : x.hm.ownBlock with
        | none => exact .inl rfl
        | some g =>
          right
          intro e2
          have h1 := e g e2.symm
          have h2 := (K.h.marks.lt g hv).2
          omega
  · by_cases h1 : g = wb
    · subst h1
      exact .inr (.inr ⟨_, _, _, K.blk, by decide, K.wlo⟩)
    by_cases h2 : some g = x.s.ownBlock
    · obtain ⟨c, hc⟩ := owns_block K.s.row h2.symm
      exact .inr (.inr ⟨_, _, _, hc, by decide, (K.s.row.lt g h2.symm).1⟩)
    by_cases h3 : some g = x.sm.ownBlock
    · obtain ⟨c, hc⟩ := owns_block K.s.marks h3.symm
      exact .inr (.inr ⟨_, _, _, hc, by decide, (K.s.marks.lt g h3.symm).1⟩)
    exact .inl (key g hg h1 h2 h3)

theorem Kept.push_r {base wb : Nat} {x : WV} {B : Bk} {w w1 w3 : World} {v v1 v2 m : Value} {ob1 ob2 : Obj} (K : Kept base wb x B w)
    (g1 : (w.alloc ob1).grownBy w1 x.r.ownBlock) (o1 : w1.ownsRow base 100 1 v1 (B.r.length + 1) (B.r.map (·.1) ++ [v])) 
    (g2 : ((w1.setCell ⟨wb, 6, none⟩ v1).drew.alloc ob2).grownBy w3 x.rm.ownBlock) (o2 : w3.ownsRow base 9 1 v2 (B.r.length + 1) (B.r.map (·.2) ++ [m])) (n2 : v2.ownBlock = x.rm.ownBlock ∨ ∀ g, v2.ownBlock = some g → w.heap.size ≤ g)
    (hM : Mark 101 2 (patT m) w v) (hmv : MarkV 9 m) :
    Kept base wb { x with r := v1, rm := v2 } { B with r := B.r ++ [(v, m)] } (w3.setCell ⟨wb, 7, none⟩ v2) ∧ Frame base w (w3.setCell ⟨wb, 7, none⟩ v2) (fun _ => False) := by
  have hwb : wb < w.heap.size := (Array.getElem?_eq_some_iff.1 K.blk).1
  have z1 := g1.size
  have z2 := g2.size
  simp at z1 z2
  have nrow : x.r.ownBlock ≠ some wb := fun e => by
    obtain ⟨c, hc⟩ := owns_block K.r.row e
    exact block_ne hc K.blk (by decide) rfl
  have nmk : x.rm.ownBlock ≠ some wb := fun e => by
    obtain ⟨c, hc⟩ := owns_block K.r.marks e
    exact block_ne hc K.blk (by decide) rfl
  have k1 : ∀ g, g < w.heap.size → some g ≠ x.r.ownBlock → w1.heap[g]? = w.heap[g]? := fun g hg hne => by
    rw [g1.block g (by simp; omega) hne]; exact Below.heap_alloc w ob1 g hg
  have k2 : ∀ g, g < w1.heap.size → g ≠ wb → some g ≠ x.rm.ownBlock → w3.heap[g]? = w1.heap[g]? := fun g hg hn hne => by
    rw [g2.block g (by simp; omega) hne, Below.heap_alloc (w1.setCell ⟨wb, 6, none⟩ v1).drew ob2 g (by simp; omega)]
    exact heap_setCell_other _ _ _ _ _ hn
  have b1 : w1.heap[wb]? = some x.obj := (k1 wb hwb (fun e => nrow e.symm)).trans K.blk
  have b2 : (w1.setCell ⟨wb, 6, none⟩ v1).heap[wb]? = some ({ x with r := v1 } : WV).obj := by
    rw [heap_setCell_same _ _ _ _ _ _ _ b1]; rfl
  have b3 : w3.heap[wb]? = some ({ x with r := v1 } : WV).obj := by
    rw [g2.block wb (by simp; omega) (fun e => nmk e.symm), Below.heap_alloc (w1.setCell ⟨wb, 6, none⟩ v1).drew ob2 wb (by simp; omega)]
    exact b2
  have b4 : (w3.setCell ⟨wb, 7, none⟩ v2).heap[wb]? = some ({ x with r := v1, rm := v2 } : WV).obj := by
    rw [heap_setCell_same _ _ _ _ _ _ _ b3]; rfl
  have key : ∀ g, g < w.heap.size → g ≠ wb → some g ≠ x.r.ownBlock → some g ≠ x.rm.ownBlock → (w3.setCell ⟨wb, 7, none⟩ v2).heap[g]? = w.heap[g]? := fun g hg h1 h2 h3 => by
    rw [heap_setCell_other _ _ _ _ _ h1, k2 g (by omega) h1 h3, k1 g hg h2]
  have keyT : ∀ g cur t fr, w.heap[g]? = some (Obj.cells cur t fr) → t ≠ 55 → t ≠ 100 → (t ≠ 9 ∨ some g ≠ x.rm.ownBlock) → (w3.setCell ⟨wb, 7, none⟩ v2).heap[g]? = w.heap[g]? := by
    intro g cur t fr hg h1 h2 h3
    refine key g (Array.getElem?_eq_some_iff.1 hg).1 (block_ne hg K.blk h1) (fun e => ?_) (fun e => ?_)
    · obtain ⟨c, hc⟩ := owns_block K.r.row e.symm
      exact block_ne hg hc h2 rfl
    · rcases h3 with h3 | h3
      · obtain ⟨c, hc⟩ := owns_block K.r.marks e.symm
        exact block_ne hg hc h3 rfl
      · exact h3 e
  have htw : ∀ g, x.lm.ownBlock = some g → some g ≠ x.rm.ownBlock := by
    intro g hg e
    rcases K.ap2 with h | h
    · rw [h] at hg; cases hg
    · exact h (hg.trans e)
  have hrow : (w3.setCell ⟨wb, 7, none⟩ v2).ownsRow base 100 1 v1 (B.r.length + 1) (B.r.map (·.1) ++ [v]) := by
    refine owns_same o1 fun g hg => ?_
    obtain ⟨c, hc⟩ := owns_block o1 hg
    have hgw : g ≠ wb := block_ne hc b1 (by decide)
    rw [heap_setCell_other _ _ _ _ _ hgw, k2 g (Array.getElem?_eq_some_iff.1 hc).1 hgw (fun e => ?_)]
    obtain ⟨c2, hc2⟩ := owns_block K.r.marks e.symm
    have : w1.heap[g]? = w.heap[g]? := k1 g (Array.getElem?_eq_some_iff.1 hc2).1 (fun e2 => by
      obtain ⟨c3, hc3⟩ := owns_block K.r.row e2.symm
      exact block_ne hc2 hc3 (by decide) rfl)
    rw [this] at hc
    exact block_ne hc hc2 (by decide) rfl
  have hmk : (w3.setCell ⟨wb, 7, none⟩ v2).ownsRow base 9 1 v2 (B.r.length + 1) (B.r.map (·.2) ++ [m]) := by
    refine owns_same o2 fun g hg => ?_
    obtain ⟨c, hc⟩ := owns_block o2 hg
    exact heap_setCell_other _ _ _ _ _ (block_ne hc b3 (by decide))
  refine ⟨?_, ⟨by simp; omega, fun g hg => ?_, ((Outs.alloc w ob1).trans (Outs.of_grown g1)).trans ((Outs.setCell w1 _ _).trans (((Outs.drew _).trans (Outs.alloc _ ob2)).trans ((Outs.of_grown g2).trans (Outs.setCell w3 _ _))))⟩⟩
  · refine ⟨b4, K.h.same fun g c t f hg ht => keyT g c t f hg (by rcases ht with rfl | ⟨rfl, _⟩ | rfl <;> decide) (by rcases ht with rfl | ⟨rfl, _⟩ | rfl <;> decide) (.inl (by rcases ht with rfl | ⟨rfl, _⟩ | rfl <;> decide)), K.l.same fun g c t f hg ht => keyT g c t f hg (by rcases ht with rfl | ⟨rfl, _⟩ | rfl <;> decide) (by rcases ht with rfl | ⟨rfl, _⟩ | rfl <;> decide) (by rcases ht with rfl | ⟨rfl, e⟩ | rfl; (exact .inl (by decide)); (exact .inr (htw g e)); (exact .inl (by decide))), K.s.same fun g c t f hg ht => keyT g c t f hg (by rcases ht with rfl | ⟨rfl, _⟩ | rfl <;> decide) (by rcases ht with rfl | ⟨rfl, _⟩ | rfl <;> decide) (.inl (by rcases ht with rfl | ⟨rfl, _⟩ | rfl <;> decide)), ?_, K.ap1, ?_, K.wlo⟩
    · refine ⟨by simpa using hrow, by simpa using hmk, fun p hp => ?_, fun p hp => (List.mem_append.1 hp).elim (K.r.mv p) (fun h => by rw [List.mem_singleton] at h; subst h; exact hmv)⟩
      rcases List.mem_append.1 hp with hp | hp
      · exact (K.r.ok p hp).same fun g _ ⟨c, f, hg⟩ => keyT g c _ f hg (by decide) (by decide) (.inl (by decide))
      · rw [List.mem_singleton] at hp
        subst hp
        exact hM.same fun g _ ⟨c, f, hg⟩ => keyT g c _ f hg (by decide) (by decide) (.inl (by decide))
    · show x.lm.ownBlock = none ∨ x.lm.ownBlock ≠ v2.ownBlock
      rcases n2 with e | e
      · rw [e]; exact K.ap2
      · cases hv : x.lm.ownBlock with
        | none => exact .inl rfl
        | some g =>
          right
          intro e2
          have h1 := e g e2.symm
          have h2 := (K.l.marks.lt g hv).2
          omega
  · by_cases h1 : g = wb
    · subst h1
      exact .inr (.inr ⟨_, _, _, K.blk, by decide, K.wlo⟩)
    by_cases h2 : some g = x.r.ownBlock
    · obtain ⟨c, hc⟩ := owns_block K.r.row h2.symm
      exact .inr (.inr ⟨_, _, _, hc, by decide, (K.r.row.lt g h2.symm).1⟩)
    by_cases h3 : some g = x.rm.ownBlock
    · obtain ⟨c, hc⟩ := owns_block K.r.marks h3.symm
      exact .inr (.inr ⟨_, _, _, hc, by decide, (K.r.marks.lt g h3.symm).1⟩)
    exact .inl (key g hg h1 h2 h3)
/-- a block of such things has changed, none of the lists kept lies in it or it bears its mark still -/
theorem Kept.skip_h {base wb : Nat} {x : WV} {B : Bk} {W W' : World} {vb : Option Nat} (K : Kept base wb x B W) (hv : ∀ g, vb = some g → g < W.heap.size → ∃ cur fr, W.heap[g]? = some (.cells cur 61 fr)) (hs : ∀ g, g < W.heap.size → some g ≠ vb → W'.heap[g]? = W.heap[g]?)
    (hf : ∀ p ∈ B.h, (p.1.ownBlock = none ∨ p.1.ownBlock ≠ vb) ∨ Mark 61 5 (patH p.2) W' p.1) : Kept base wb x B W' := by
  have key : ∀ g cur t fr, W.heap[g]? = some (Obj.cells cur t fr) → t ≠ 61 → W'.heap[g]? = W.heap[g]? := fun g cur t fr hg ht => by
    have hlt := (Array.getElem?_eq_some_iff.1 hg).1
    refine hs g hlt (fun e => ?_)
    obtain ⟨c, f, h⟩ := hv g e.symm hlt
    exact block_ne hg h ht rfl
  refine ⟨(key wb _ _ _ K.blk (by decide)).trans K.blk, ?_, K.l.same fun g c t f hg ht => key g c t f hg (by rcases ht with rfl | ⟨rfl, _⟩ | rfl <;> decide), K.s.same fun g c t f hg ht => key g c t f hg (by rcases ht with rfl | ⟨rfl, _⟩ | rfl <;> decide), K.r.same fun g c t f hg ht => key g c t f hg (by rcases ht with rfl | ⟨rfl, _⟩ | rfl <;> decide), K.ap1, K.ap2, K.wlo⟩
  refine ⟨owns_same K.h.row fun g hg => ?_, owns_same K.h.marks fun g hg => ?_, fun p hp => ?_, K.h.mv⟩
  · obtain ⟨c, hc⟩ := owns_block K.h.row hg
    exact key g c _ _ hc (by decide)
  · obtain ⟨c, hc⟩ := owns_block K.h.marks hg
    exact key g c _ _ hc (by decide)
  · rcases hf p hp with (h | h) | h
    · exact (K.h.ok p hp).same fun g e _ => by rw [h] at e; cases e
    · exact (K.h.ok p hp).same fun g e ⟨c, f, hg⟩ => hs g (Array.getElem?_eq_some_iff.1 hg).1 (fun e2 => h (e.trans e2))
    · exact h
/-- a block of such things has changed, none of the lists kept lies in it or it bears its mark still -/
theorem Kept.skip_l {base wb : Nat} {x : WV} {B : Bk} {W W' : World} {vb : Option Nat} (K : Kept base wb x B W) (hv : ∀ g, vb = some g → g < W.heap.size → ∃ cur fr, W.heap[g]? = some (.cells cur 93 fr)) (hs : ∀ g, g < W.heap.size → some g ≠ vb → W'.heap[g]? = W.heap[g]?)
    (hf : ∀ p ∈ B.l, (p.1.ownBlock = none ∨ p.1.ownBlock ≠ vb) ∨ Mark 93 2 (patT p.2) W' p.1) : Kept base wb x B W' := by
  have key : ∀ g cur t fr, W.heap[g]? = some (Obj.cells cur t fr) → t ≠ 93 → W'.heap[g]? = W.heap[g]? := fun g cur t fr hg ht => by
    have hlt := (Array.getElem?_eq_some_iff.1 hg).1
    refine hs g hlt (fun e => ?_)
    obtain ⟨c, f, h⟩ := hv g e.symm hlt
    exact block_ne hg h ht rfl
  refine ⟨(key wb _ _ _ K.blk (by decide)).trans K.blk, K.h.same fun g c t f hg ht => key g c t f hg (by rcases ht with rfl | ⟨rfl, _⟩ | rfl <;> decide), ?_, K.s.same fun g c t f hg ht => key g c t f hg (by rcases ht with rfl | ⟨rfl, _⟩ | rfl <;> decide), K.r.same fun g c t f hg ht => key g c t f hg (by rcases ht with rfl | ⟨rfl, _⟩ | rfl <;> decide), K.ap1, K.ap2, K.wlo⟩
  refine ⟨owns_same K.l.row fun g hg => ?_, owns_same K.l.marks fun g hg => ?_, fun p hp => ?_, K.l.mv⟩
  · obtain ⟨c, hc⟩ := owns_block K.l.row hg
    exact key g c _ _ hc (by decide)
  · obtain ⟨c, hc⟩ := owns_block K.l.marks hg
    exact key g c _ _ hc (by decide)
  · rcases hf p hp with (h | h) | h
    · exact (K.l.ok p hp).same fun g e _ => by rw [h] at e; cases e
    · exact (K.l.ok p hp).same fun g e ⟨c, f, hg⟩ => hs g (Array.getElem?_eq_some_iff.1 hg).1 (fun e2 => h (e.trans e2))
    · exact h
/-- a block of such things has changed, none of the lists kept lies in it or it bears its mark still -/
theorem Kept.skip_s {base wb : Nat} {x : WV} {B : Bk} {W W' : World} {vb : Option Nat} (K : Kept base wb x B W) (hv : ∀ g, vb = some g → g < W.heap.size → ∃ cur fr, W.heap[g]? = some (.cells cur 63 fr)) (hs : ∀ g, g < W.heap.size → some g ≠ vb → W'.heap[g]? = W.heap[g]?)
    (hf : ∀ p ∈ B.s, (p.1.ownBlock = none ∨ p.1.ownBlock ≠ vb) ∨ Mark 63 3 (patS p.2) W' p.1) : Kept base wb x B W' := by
  have key : ∀ g cur t fr, W.heap[g]? = some (Obj.cells cur t fr) → t ≠ 63 → W'.heap[g]? = W.heap[g]? := fun g cur t fr hg ht => by
    have hlt := (Array.getElem?_eq_some_iff.1 hg).1
    refine hs g hlt (fun e => ?_)
    obtain ⟨c, f, h⟩ := hv g e.symm hlt
    exact block_ne hg h ht rfl
  refine ⟨(key wb _ _ _ K.blk (by decide)).trans K.blk, K.h.same fun g c t f hg ht => key g c t f hg (by rcases ht with rfl | ⟨rfl, _⟩ | rfl <;> decide), K.l.same fun g c t f hg ht => key g c t f hg (by rcases ht with rfl | ⟨rfl, _⟩ | rfl <;> decide), ?_, K.r.same fun g c t f hg ht => key g c t f hg (by rcases ht with rfl | ⟨rfl, _⟩ | rfl <;> decide), K.ap1, K.ap2, K.wlo⟩
  refine ⟨owns_same K.s.row fun g hg => ?_, owns_same K.s.marks fun g hg => ?_, fun p hp => ?_, K.s.mv⟩
  · obtain ⟨c, hc⟩ := owns_block K.s.row hg
    exact key g c _ _ hc (by decide)
  · obtain ⟨c, hc⟩ := owns_block K.s.marks hg
    exact key g c _ _ hc (by decide)
  · rcases hf p hp with (h | h) | h
    · exact (K.s.ok p hp).same fun g e _ => by rw [h] at e; cases e
    · exact (K.s.ok p hp).same fun g e ⟨c, f, hg⟩ => hs g (Array.getElem?_eq_some_iff.1 hg).1 (fun e2 => h (e.trans e2))
    · exact h
/-- a block of such things has changed, none of the lists kept lies in it or it bears its mark still -/
theorem Kept.skip_r {base wb : Nat} {x : WV} {B : Bk} {W W' : World} {vb : Option Nat} (K : Kept base wb x B W) (hv : ∀ g, vb = some g → g < W.heap.size → ∃ cur fr, W.heap[g]? = some (.cells cur 101 fr)) (hs : ∀ g, g < W.heap.size → some g ≠ vb → W'.heap[g]? = W.heap[g]?)
    (hf : ∀ p ∈ B.r, (p.1.ownBlock = none ∨ p.1.ownBlock ≠ vb) ∨ Mark 101 2 (patT p.2) W' p.1) : Kept base wb x B W' := by
  have key : ∀ g cur t fr, W.heap[g]? = some (Obj.cells cur t fr) → t ≠ 101 → W'.heap[g]? = W.heap[g]? := fun g cur t fr hg ht => by
    have hlt := (Array.getElem?_eq_some_iff.1 hg).1
    refine hs g hlt (fun e => ?_)
    obtain ⟨c, f, h⟩ := hv g e.symm hlt
    exact block_ne hg h ht rfl
  refine ⟨(key wb _ _ _ K.blk (by decide)).trans K.blk, K.h.same fun g c t f hg ht => key g c t f hg (by rcases ht with rfl | ⟨rfl, _⟩ | rfl <;> decide), K.l.same fun g c t f hg ht => key g c t f hg (by rcases ht with rfl | ⟨rfl, _⟩ | rfl <;> decide), K.s.same fun g c t f hg ht => key g c t f hg (by rcases ht with rfl | ⟨rfl, _⟩ | rfl <;> decide), ?_, K.ap1, K.ap2, K.wlo⟩
  refine ⟨owns_same K.r.row fun g hg => ?_, owns_same K.r.marks fun g hg => ?_, fun p hp => ?_, K.r.mv⟩
  · obtain ⟨c, hc⟩ := owns_block K.r.row hg
    exact key g c _ _ hc (by decide)
  · obtain ⟨c, hc⟩ := owns_block K.r.marks hg
    exact key g c _ _ hc (by decide)
  · rcases hf p hp with (h | h) | h
    · exact (K.r.ok p hp).same fun g e _ => by rw [h] at e; cases e
    · exact (K.r.ok p hp).same fun g e ⟨c, f, hg⟩ => hs g (Array.getElem?_eq_some_iff.1 hg).1 (fun e2 => h (e.trans e2))
    · exact h
/-- what lies below the law's own memory is as it was -/
theorem Frame.low {base : Nat} {w w' : World} {s : Nat → Prop} (h : Frame base w w' s) (hs : ∀ g, s g → base ≤ g) {g : Nat} (hg : g < base) (hw : g < w.heap.size) : w'.heap[g]? = w.heap[g]? := by
  rcases h.2.1 g hw with e | e | ⟨c, t', f, e, _, hb⟩
  · exact e
  · have := hs g e; omega
  · omega
/-- the count alone -/
theorem Kept.count {base wb : Nat} {x : WV} {B : Bk} {w w' : World} {c : Nat} (K : Kept base wb x B w) (hb : w'.heap[wb]? = some ({ x with c := c } : WV).obj) (hs : ∀ g, g < w.heap.size → g ≠ wb → w'.heap[g]? = w.heap[g]?) : Kept base wb { x with c := c } B w' := by
  have key : ∀ g cur t fr, w.heap[g]? = some (Obj.cells cur t fr) → t ≠ 55 → w'.heap[g]? = w.heap[g]? := fun g cur t fr hg ht => hs g (Array.getElem?_eq_some_iff.1 hg).1 (block_ne hg K.blk ht)
  exact ⟨hb, K.h.same fun g c t f hg ht => key g c t f hg (by rcases ht with rfl | ⟨rfl, _⟩ | rfl <;> decide), K.l.same fun g c t f hg ht => key g c t f hg (by rcases ht with rfl | ⟨rfl, _⟩ | rfl <;> decide), K.s.same fun g c t f hg ht => key g c t f hg (by rcases ht with rfl | ⟨rfl, _⟩ | rfl <;> decide), K.r.same fun g c t f hg ht => key g c t f hg (by rcases ht with rfl | ⟨rfl, _⟩ | rfl <;> decide), K.ap1, K.ap2, K.wlo⟩
end Go.Proofs.YtcclgodahlinbaaGreatDoor

namespace Go.Proofs.YtcclgodahlinbaaGreatDoor
open Go.RowKit Go
set_option maxRecDepth 100000

theorem conv_one (b : Nat) (hb : b < 256) (wr : World) : (convert 72 9 (.slice (some ⟨wr.heap.size, 0, none⟩) 1 1)).run Tryz.prog (wr.alloc (.cells #[.int .u8 (b : Int)] 5)) = .ok (.string ⟨#[UInt8.ofNat b]⟩) (wr.alloc (.cells #[.int .u8 (b : Int)] 5)) := by
  have h := run_convert_bytes_back (P := Tryz.prog) (wr.alloc (.cells #[.int .u8 (b : Int)] 5)) 72 9 5 ⟨wr.heap.size, 0, none⟩ 1 [UInt8.ofNat b] Tryz.underlying72 Tryz.underlying5 Tryz.underlying9 (by
    intro j hj
    obtain rfl : j = 0 := by simpa using hj
    refine cell_of (heap_alloc_new wr _) ?_
    simp
    have : b % 256 = b := by omega
    omega)
  exact h
set_option maxHeartbeats 2000000 in
theorem word_ok {wb : Nat} {x : WV} {w : World} (hk : w.heap[wb]? = some x.obj) (hc : x.c ≤ 8000000000000) :
    Calls Tryz.prog 119 #[.pointer (some ⟨wb, 0, none⟩)] w fun e w' => ∃ t : ByteArray, e = .returned (.string t) ∧ t.size ≤ 8 ∧ w'.heap[wb]? = some ({ x with c := x.c + 1 } : WV).obj ∧ (∀ g, g < w.heap.size → g ≠ wb → w'.heap[g]? = w.heap[g]?) ∧ w.heap.size ≤ w'.heap.size ∧ Outs w w' := by
  have hwb : wb < w.heap.size := (Array.getElem?_eq_some_iff.1 hk).1
  have c8 : w.cell? ⟨wb, 8, none⟩ = some (.int .i64 (x.c : Int)) := cell_of hk rfl
  have fz : ∀ k, w.frozen? ⟨wb, k, none⟩ = false := fun k => frozen_of hk
  have hk2 : (w.setCell ⟨wb, 8, none⟩ (.int .i64 ((x.c : Int) + 1))).heap[wb]? = some ({ x with c := x.c + 1 } : WV).obj := by
    rw [heap_setCell_same _ _ _ _ _ _ _ hk]; simp [WV.obj]
  have c8' : (w.setCell ⟨wb, 8, none⟩ (.int .i64 ((x.c : Int) + 1))).cell? ⟨wb, 8, none⟩ = some (.int .i64 ((x.c : Int) + 1)) := cell_of (heap_setCell_same _ _ _ _ _ _ _ hk) rfl
  have hb2 : Hid (∀ W : World, Below (w.setCell ⟨wb, 8, none⟩ (.int .i64 ((x.c : Int) + 1))).heap.size (w.setCell ⟨wb, 8, none⟩ (.int .i64 ((x.c : Int) + 1))) W → W.heap[wb]? = some ({ x with c := x.c + 1 } : WV).obj ∧ (∀ g, g < w.heap.size → g ≠ wb → W.heap[g]? = w.heap[g]?) ∧ w.heap.size ≤ W.heap.size ∧ Outs w W) := by
    intro W hb
    have hz := hb.size
    simp at hz
    refine ⟨(hb.block wb (by simpa using hwb)).trans hk2, fun g hg hne => (hb.block g (by simpa using hg)).trans (heap_setCell_other _ _ _ _ _ hne), hz, (Outs.setCell w _ _).trans (Outs.of_below hb)⟩
  go_enter Tryz.func119, Tryz.ntmps119
  go_wp2_with fail
  clear c8 fz hk2 c8'
  generalize w.setCell ⟨wb, 8, none⟩ (.int .i64 ((x.c : Int) + 1)) = w1 at *
  go_loopg [3, 4, 5] 7 (fun g t3 t4 t5 wr => ∃ (k n : Nat) (t : ByteArray), g = 7 - k ∧ k ≤ 7 ∧ t.size ≤ k + 1 ∧ t3 = .string t ∧ t4 = .int .i64 n ∧ n ≤ 8000000000001 ∧ t5 = .int .i64 k ∧ Below w1.heap.size w1 wr)
  case atStart => exact ⟨0, x.c + 1, ⟨#[35]⟩, rfl, by omega, by decide, rfl, by push_cast; rfl, by omega, rfl, Below.refl _ _⟩
  case round =>
    obtain ⟨k, n, t, hgk, hk7, ht, rfl, rfl, hn, rfl, hb⟩ := hrel
    have hG : Hid (_ = 7 - k) := hgk
    clear hgk
    have hz := hb.size
    by_cases hk : k < 7
    · have hkI : (k : Int) < 7 := by omega
      have hcv := conv_one (97 + n % 16) (by omega) wr
      push_cast at hcv
      have x1 : IntKind.i64.wrap (97 + (n : Int) % 16) = 97 + (n : Int) % 16 := by rw [IntKind.wrap_i64]; omega
      have x2 : IntKind.u8.wrap (97 + (n : Int) % 16) = 97 + (n : Int) % 16 := by rw [IntKind.wrap_u8]; omega
      have hba := hb.alloc hz (.cells #[.int .u8 (97 + (n : Int) % 16)] 5)
      go_wp2_with fail
      go_roundg (7 - (k + 1))
      · exact ⟨k + 1, n / 16, t ++ ⟨#[97 + UInt8.ofNat (n % 16)]⟩, rfl, by omega, by rw [ByteArray.size_append]; show t.size + 1 ≤ _; omega, rfl, by push_cast; rfl, by omega, by push_cast; rfl, hba⟩
      · have := hG.out; omega
    · have hkI : ¬ (k : Int) < 7 := by omega
      go_wp2_with fail
      go_ret
      exact ⟨t, rfl, by omega, hb2.out wr hb⟩
end Go.Proofs.YtcclgodahlinbaaGreatDoor

namespace Go.Proofs.YtcclgodahlinbaaGreatDoor
open Go.RowKit Go
set_option maxRecDepth 100000

theorem owns_addrl {w : World} {base e size n cl : Nat} {al : Option Addr} {xs : List Value} (h : w.ownsRow base e size (.slice al n cl) n xs) : ∀ a, al = some a → a = ⟨a.block, 0, none⟩ := by
  intro a ha
  subst ha
  rcases h.2 with ⟨e, _⟩ | ⟨g, cap, cur, e, _⟩
  · cases e
  · cases e; rfl
theorem info_ls : (Tryz.prog.info? 59).map (fun i => (i.zero, i.size, i.bytes)) = some (some (.slice none 0 0), 1, 24) := by kernel_rfl
/-- a thing of a row is written over -/
theorem owns_set2l {w : World} {bl n i : Nat} {xs : List Value} {a b : Value} {al : Option Addr} {cl : Nat} (h : w.ownsRow bl 93 2 (.slice al n cl) n (pats [a, b] i ++ xs.drop (i * 2))) (hx : xs.length = n * 2) (hi : i < n) :
    ∃ g, al = some ⟨g, 0, none⟩ ∧ g < w.heap.size ∧ (∃ cur, w.heap[g]? = some (.cells cur 93 (0, 0)) ∧ i * 2 + 1 < cur.size) ∧ ((w.setCell ⟨g, i * 2, none⟩ a).setCell ⟨g, i * 2 + 1, none⟩ b).ownsRow bl 93 2 (.slice al n cl) n (pats [a, b] (i + 1) ++ xs.drop ((i + 1) * 2)) := by
  rcases h.2 with ⟨_, h0⟩ | ⟨g, cap, cur, e, hb, hg, h1, h2, h3, h4⟩
  · omega
  · cases e
    have hsz : i * 2 + 1 < cur.size := by rw [h3]; omega
    have hpl : (pats [a, b] i).length = i * 2 := pats_length [a, b] i
    refine ⟨g, rfl, (Array.getElem?_eq_some_iff.1 hg).1, ⟨cur, hg, hsz⟩, ?_, .inr ⟨g, cl, _, rfl, hb, heap_setCell_same _ _ _ _ _ _ _ (heap_setCell_same _ _ _ _ _ _ _ hg), h1, h2, by simp [h3], ?_⟩⟩
    · rw [List.length_append, pats_length, List.length_drop, hx]
      show (i + 1) * 2 + _ = _
      omega
    · have h5 : List.take (n * 2) ((cur.setIfInBounds (i * 2) a).setIfInBounds (i * 2 + 1) b).toList = ((List.take (n * 2) cur.toList).set (i * 2) a).set (i * 2 + 1) b := by
        simp [List.take_set]
      rw [h5, h4]
      apply List.ext_getElem?
      intro j
      rw [List.getElem?_set, List.getElem?_set]
      have hl1 : (pats [a, b] i ++ xs.drop (i * 2)).length = n * 2 := by rw [List.length_append, hpl, List.length_drop, hx]; omega
      have hl2 : (pats [a, b] (i + 1)).length = (i + 1) * 2 := pats_length [a, b] (i + 1)
      by_cases e1 : i * 2 + 1 = j
      · subst e1
        rw [if_pos rfl, if_pos (by rw [List.length_set, hl1]; omega), List.getElem?_append_left (by rw [hl2]; omega)]
        have := pats_get [a, b] (i + 1) i 1 (by omega) (by simp)
        simpa using this.symm
      · rw [if_neg e1]
        by_cases e2 : i * 2 = j
        · subst e2
          rw [if_pos rfl, if_pos (by rw [hl1]; omega), List.getElem?_append_left (by rw [hl2]; omega)]
          have := pats_get [a, b] (i + 1) i 0 (by omega) (by simp)
          simpa using this.symm
        · rw [if_neg e2]
          by_cases e3 : j < i * 2
          · rw [List.getElem?_append_left (by rw [hpl]; omega), List.getElem?_append_left (by rw [hl2]; omega)]
            rw [pats, List.getElem?_append_left (by rw [hpl]; omega)]
          · rw [List.getElem?_append_right (by rw [hpl]; omega), List.getElem?_append_right (by rw [hl2]; omega), List.getElem?_drop, List.getElem?_drop, hpl, hl2]
            congr 1
            omega
/-- one more behind a list of marks: what is kept bears its marks still -/
theorem linesOf_step {base wb bl N cl' : Nat} {al' : Option Addr} {x : WV} {B : Bk} {E : List (Value × Value)} {w4 w5 : World} {t : ByteArray} {v' : Value} {ob : Obj} (K : Kept base wb x { B with l := B.l ++ E } w4) (hN : N ≤ 1990)
    (row4 : w4.ownsRow bl 93 2 (.slice al' N cl') N (pats (patT (.string t)) N)) (hE : ∀ p ∈ E, p.2 = .string t ∧ ∃ al m cl, p.1 = .slice al m cl ∧ m ≤ N ∧ ∀ a, al = some a → a = ⟨a.block, 0, none⟩) (hfr : ∀ p ∈ B.l, p.1.ownBlock = none ∨ p.1.ownBlock ≠ (Value.slice al' N cl').ownBlock)
    (row5 : w5.ownsRow bl 93 2 v' (N + 1) (pats (patT (.string t)) N ++ [.int .u8 63, .string t]))
    (h3 : (v'.ownBlock = (Value.slice al' N cl').ownBlock ∧ (w4.alloc ob).grownBy w5 (Value.slice al' N cl').ownBlock) ∨ ((∀ g, v'.ownBlock = some g → (w4.alloc ob).heap.size ≤ g) ∧ (w4.alloc ob).grownBy w5 none)) :
    Kept base wb x { B with l := B.l ++ E } w5 ∧ Frame base w4 w5 (fun g => some g = (Value.slice al' N cl').ownBlock) ∧ w5.ownsRow bl 93 2 v' (N + 1) (pats (patT (.string t)) (N + 1)) ∧ (∀ p ∈ B.l, p.1.ownBlock = none ∨ p.1.ownBlock ≠ v'.ownBlock) ∧ (∀ g, g < w4.heap.size → some g ≠ (Value.slice al' N cl').ownBlock → w5.heap[g]? = w4.heap[g]?) := by
  have hrow : w5.ownsRow bl 93 2 v' (N + 1) (pats (patT (.string t)) (N + 1)) := row5
  have hold : ∀ g, g < w4.heap.size → some g ≠ (Value.slice al' N cl').ownBlock → w5.heap[g]? = w4.heap[g]? := fun g hg hne => by
    rcases h3 with ⟨_, h⟩ | ⟨_, h⟩
    · rw [h.block g (by simp; omega) hne]; exact Below.heap_alloc w4 ob g hg
    · rw [h.block g (by simp; omega) (by simp)]; exact Below.heap_alloc w4 ob g hg
  have hz : w4.heap.size ≤ w5.heap.size := by
    rcases h3 with ⟨_, h⟩ | ⟨_, h⟩
    · have := h.size; simp at this; omega
    · have := h.size; simp at this; omega
  have hOut : Outs w4 w5 := by
    rcases h3 with ⟨_, h⟩ | ⟨_, h⟩
    · exact (Outs.alloc w4 ob).trans (Outs.of_grown h)
    · exact (Outs.alloc w4 ob).trans (Outs.of_grown h)
  refine ⟨?_, ⟨hz, fun g hg => ?_, hOut⟩, hrow, ?_, hold⟩
  · refine K.skip_l (vb := (Value.slice al' N cl').ownBlock) (fun g hg _ => ?_) hold (fun p hp => ?_)
    · obtain ⟨c, hc⟩ := owns_block row4 hg
      exact ⟨c, _, hc⟩
    · rcases List.mem_append.1 hp with hp' | hp'
      · exact .inl (hfr p hp')
      · by_cases hq : p.1.ownBlock = (Value.slice al' N cl').ownBlock
        · right
          rcases h3 with ⟨e, _⟩ | ⟨_, h⟩
          · obtain ⟨e2, al, m, cl, e1, hm, ha⟩ := hE p hp'
            rw [e2]
            rw [e1] at hq ⊢
            exact Mark.of_owns (pat := patT (.string t)) hrow (by omega) (by omega) (e.trans hq.symm) ha
          · exact (K.l.ok p hp).same fun g _ ⟨c, f, hg⟩ => by
              have hlt := (Array.getElem?_eq_some_iff.1 hg).1
              rw [h.block g (by simp; omega) (by simp)]; exact Below.heap_alloc w4 ob g hlt
        · exact .inl (.inr hq)
  · by_cases hq : some g = (Value.slice al' N cl').ownBlock
    · exact .inr (.inl hq)
    · exact .inl (hold g hg hq)
  · intro p hp
    rcases h3 with ⟨e, _⟩ | ⟨e, _⟩
    · rw [e]; exact hfr p hp
    · cases hv : p.1.ownBlock with
      | none => exact .inl rfl
      | some g =>
        right
        intro e2
        have h1 := e g e2.symm
        have hM := ((K.l.ok p (List.mem_append_left _ hp)).lt g hv).1
        simp at h1
        omega
set_option maxHeartbeats 8000000 in
theorem linesOf_ok {base wb bl n cl : Nat} {al : Option Addr} {x : WV} {B : Bk} {w : World} {xs : List Value} (K : Kept base wb x B w) (hv : w.ownsRow bl 93 2 (.slice al n cl) n xs) (hn : n ≤ 1900)
    (hfresh : ∀ p ∈ B.l, p.1.ownBlock = none ∨ p.1.ownBlock ≠ (Value.slice al n cl).ownBlock) (hbase : base ≤ w.heap.size) (hbl : bl ≤ w.heap.size) (hc : x.c ≤ 8000000000000) (hl : B.l.length ≤ 800000000000) :
    Calls Tryz.prog 113 #[.pointer (some ⟨wb, 0, none⟩), .slice al n cl] w fun e w' => e = .returned (.tuple #[]) ∧ ∃ (x' : WV) (E : List (Value × Value)), Kept base wb x' { B with l := B.l ++ E } w' ∧ E.length = 4 ∧ x'.c = x.c + 1 ∧
      (∀ p ∈ E, p.1.ownBlock = (Value.slice al n cl).ownBlock ∨ ∀ g, p.1.ownBlock = some g → w.heap.size ≤ g) ∧ Frame base w w' (fun g => some g = (Value.slice al n cl).ownBlock) := by
  obtain ⟨i0, hi, ix0, ix1, ix2⟩ := info_parts info_ls
  obtain ⟨j0, ji, jx0, jx1, jx2⟩ := info_parts info_str
  obtain ⟨k0, ki, kx0, kx1, kx2⟩ := info_parts info_line
  have hwb : wb < w.heap.size := (Array.getElem?_eq_some_iff.1 K.blk).1
  go_enter Tryz.func113, Tryz.ntmps113
  go_wp2_with fail
  refine (word_ok K.blk hc).mono ?_
  rintro e w1 ⟨t, rfl, ht8, hk1, hs1, hz1, hO1⟩
  have K1 := K.count hk1 hs1
  have hnw : ∀ g, (Value.slice al n cl).ownBlock = some g → g ≠ wb := fun g hg => by
    obtain ⟨c, hc⟩ := owns_block hv hg
    exact block_ne hc K.blk (by decide)
  have hv1 : w1.ownsRow bl 93 2 (.slice al n cl) n xs := owns_same hv fun g hg => hs1 g (hv.lt g hg).2 (hnw g hg)
  have hxb : (w1.alloc (.cells #[.int .u8 63, .string t] 93)).heap[w1.heap.size]? = some (.cells #[.int .u8 63, .string t] 93 (0, 0)) := heap_alloc_new w1 _
  have hw2 : Hid (∀ g, g < w1.heap.size → (w1.alloc (.cells #[.int .u8 63, .string t] 93)).heap[g]? = w1.heap[g]?) := fun g hg => Below.heap_alloc w1 _ g hg
  have hz2 : (w1.alloc (.cells #[.int .u8 63, .string t] 93)).heap.size = w1.heap.size + 1 := by simp
  have hv2 := hv1.alloc (.cells #[.int .u8 63, .string t] 93)
  have hgx : Hid (∀ g, (Value.slice al n cl).ownBlock = some g → g < w1.heap.size) := fun g hg => (hv1.lt g hg).2
  have hlen : Hid (xs.length = n * 2) := hv.1
  have hF1 : Hid (∀ g, g < w.heap.size → w1.heap[g]? = w.heap[g]? ∨ ∃ cur t fr, w.heap[g]? = some (.cells cur t fr) ∧ t ∈ Tys ∧ base ≤ g) := fun g hg => by
    by_cases e : g = wb
    · subst e; exact .inr ⟨_, _, _, K.blk, by decide, K.wlo⟩
    · exact .inl (hs1 g hg e)
  have hO2 : Hid (Outs w (w1.alloc (.cells #[.int .u8 63, .string t] 93))) := hO1.trans (Outs.alloc _ _)
  have hv0 : Hid (∀ g, (Value.slice al n cl).ownBlock = some g → ∃ cur fr, w1.heap[g]? = some (.cells cur 93 fr)) := fun g hg => by
    obtain ⟨c, hc⟩ := owns_block hv1 hg
    exact ⟨c, _, hc⟩
  go_wp2_with fail
  obtain ⟨xb, hxbE⟩ : ∃ xb, w1.heap.size = xb := ⟨_, rfl⟩
  rw [hxbE] at hxb hz2 ⊢
  generalize w1.alloc (.cells #[.int .u8 63, .string t] 93) = w2 at *
  clear hk1 hs1 hv1
  go_loopg [5] n (fun g t5 wr => ∃ i : Nat, g = n - i ∧ i ≤ n ∧ t5 = .int .i64 i ∧ wr.ownsRow bl 93 2 (.slice al n cl) n (pats (patT (.string t)) i ++ xs.drop (i * 2)) ∧ Hid ((∀ g, some g ≠ (Value.slice al n cl).ownBlock → wr.heap[g]? = w2.heap[g]?) ∧ Outs w wr) ∧ wr.heap.size = xb + 1)
  case atStart => exact ⟨0, by omega, by omega, rfl, by simpa [pats] using hv2, ⟨fun g _ => rfl, hO2.out⟩, hz2⟩
  case round =>
    rename World => wr
    obtain ⟨i, hgi, hin, rfl, hrow, hoth, hzr⟩ := hrel
    have hG : Hid (_ = n - i) := hgi
    clear hgi
    have hxr : wr.heap[xb]? = some (.cells #[.int .u8 63, .string t] 93 (0, 0)) := by
      rw [hoth.out.1 xb (fun e => by have := hgx.out xb e.symm; omega)]; exact hxb
    by_cases hi2 : i < n
    · have hiI : (i : Int) < n := by omega
      obtain ⟨g, rfl, hg, ⟨cur, hcur, hsz⟩, hrow2⟩ := owns_set2l (a := .int .u8 63) (b := .string t) hrow hlen.out hi2
      have c0 : wr.cell? ⟨g, i * 2, none⟩ = some (cur[i * 2]'(by omega)) := cell_of hcur (by simp)
      have c1 : wr.cell? ⟨g, i * 2 + 1, none⟩ = some (cur[i * 2 + 1]'hsz) := cell_of hcur (by simp [hsz])
      have fz : ∀ k, wr.frozen? ⟨g, k, none⟩ = false := fun k => frozen_of hcur
      have y0 : wr.cell? ⟨xb, 0, none⟩ = some (.int .u8 63) := cell_of hxr rfl
      have y1 : wr.cell? ⟨xb, 1, none⟩ = some (.string t) := cell_of hxr rfl
      have hR : (∃ j : Nat, n - (i + 1) = n - j ∧ j ≤ n ∧ Value.int .i64 ((i : Int) + 1) = .int .i64 j ∧ ((wr.setCell ⟨g, i * 2, none⟩ (.int .u8 63)).setCell ⟨g, i * 2 + 1, none⟩ (.string t)).ownsRow bl 93 2 (.slice (some ⟨g, 0, none⟩) n cl) n (pats (patT (.string t)) j ++ xs.drop (j * 2)) ∧ Hid ((∀ g', some g' ≠ (Value.slice (some ⟨g, 0, none⟩) n cl).ownBlock → ((wr.setCell ⟨g, i * 2, none⟩ (.int .u8 63)).setCell ⟨g, i * 2 + 1, none⟩ (.string t)).heap[g']? = w2.heap[g']?) ∧ Outs w ((wr.setCell ⟨g, i * 2, none⟩ (.int .u8 63)).setCell ⟨g, i * 2 + 1, none⟩ (.string t))) ∧ ((wr.setCell ⟨g, i * 2, none⟩ (.int .u8 63)).setCell ⟨g, i * 2 + 1, none⟩ (.string t)).heap.size = xb + 1) := by
        refine ⟨i + 1, rfl, by omega, by push_cast; rfl, hrow2, ⟨fun g' hne => ?_, hoth.out.2.trans ((Outs.setCell _ _ _).trans (Outs.setCell _ _ _))⟩, by simp; exact hzr⟩
        have hgg : g' ≠ g := fun e => hne (by rw [e]; rfl)
        rw [heap_setCell_other _ _ _ _ _ hgg, heap_setCell_other _ _ _ _ _ hgg]
        exact hoth.out.1 g' hne
      have hRH : Hid _ := hR
      clear hR hrow2 hrow hoth hcur hxr
      go_wp2_with fail
      go_roundg (n - (i + 1))
      · exact hRH.out
      · have := hG.out; omega
    · obtain rfl : i = n := by omega
      have hiI : ¬ ((i : Int) < i) := by omega
      have hrow3 : wr.ownsRow bl 93 2 (.slice al i cl) i (pats (patT (.string t)) i) := by
        have h := hrow
        rw [List.drop_of_length_le (by rw [hlen.out]; exact Nat.le_refl _), List.append_nil] at h
        exact h
      have K3 : Kept base wb { x with c := x.c + 1 } B wr := by
        refine Kept.skip_l (vb := (Value.slice al i cl).ownBlock) K1 (fun g hg _ => hv0.out g hg) (fun g hg hne => (hoth.out.1 g hne).trans (hw2.out g hg)) (fun p hp => .inl (hfresh p hp))
      have hFr : Frame base w wr (fun g => some g = (Value.slice al i cl).ownBlock) := by
        refine ⟨by omega, fun g hg => ?_, hoth.out.2⟩
        by_cases e : some g = (Value.slice al i cl).ownBlock
        · exact .inr (.inl e)
        · rw [hoth.out.1 g e, hw2.out g (by omega)]
          rcases hF1.out g hg with h | h
          · exact .inl h
          · exact .inr (.inr h)
      have hKH : Hid (Kept base wb { x with c := x.c + 1 } B wr ∧ Frame base w wr (fun g => some g = (Value.slice al i cl).ownBlock)) := ⟨K3, hFr⟩
      have hnx : Hid ((Value.slice al i cl).ownBlock ≠ some xb) := fun e => by have := hgx.out xb e; omega
      clear K1 K3 hFr hrow hoth hv2 hxb hF1 hv0 hgx
      go_wp2_with fail
      go_loopg [1, 6] 4 (fun g t1 t6 wk => ∃ (j : Nat) (al' : Option Addr) (cl' : Nat) (x' : WV) (E : List (Value × Value)), g = 4 - j ∧ j ≤ 4 ∧ t6 = .int .i64 j ∧ t1 = .slice al' (i + j) cl' ∧ wk.ownsRow bl 93 2 (.slice al' (i + j) cl') (i + j) (pats (patT (.string t)) (i + j)) ∧ Kept base wb x' { B with l := B.l ++ E } wk ∧ E.length = j ∧ x'.c = x.c + 1 ∧
        Hid ((∀ p ∈ E, p.1.ownBlock = (Value.slice al i cl).ownBlock ∨ ∀ g, p.1.ownBlock = some g → w.heap.size ≤ g) ∧ (∀ p ∈ E, p.2 = .string t ∧ ∃ al m cl, p.1 = .slice al m cl ∧ m ≤ i + j ∧ ∀ a, al = some a → a = ⟨a.block, 0, none⟩) ∧ (∀ p ∈ B.l, p.1.ownBlock = none ∨ p.1.ownBlock ≠ (Value.slice al' (i + j) cl').ownBlock) ∧ ((Value.slice al' (i + j) cl').ownBlock = (Value.slice al i cl).ownBlock ∨ ∀ g, (Value.slice al' (i + j) cl').ownBlock = some g → w.heap.size ≤ g) ∧ (Value.slice al' (i + j) cl').ownBlock ≠ some xb ∧ Frame base w wk (fun g => some g = (Value.slice al i cl).ownBlock)) ∧ wk.heap[xb]? = some (.cells #[.int .u8 63, .string t] 93 (0, 0)))
      case atStart => exact ⟨0, al, cl, { x with c := x.c + 1 }, [], rfl, by omega, rfl, rfl, hrow3, by simpa using hKH.out.1, rfl, rfl, ⟨by simp, by simp, hfresh, .inl rfl, hnx.out, hKH.out.2⟩, hxr⟩
      case round =>
        rename World => wk
        obtain ⟨j, al', cl', x', E, hgj, hj4, rfl, rfl, hrowk, Kk, hEl, hxc, hH, hxk⟩ := hrel
        have hG2 : Hid (_ = 4 - j) := hgj
        have hxbk : xb < wk.heap.size := (Array.getElem?_eq_some_iff.1 hxk).1
        clear hgj hKH hnx hrow3 hxr
        by_cases hj2 : j < 4
        · have hjI : (j : Int) < 4 := by omega
          obtain ⟨N, hNe⟩ : ∃ N, (B.l ++ E).length = N := ⟨_, rfl⟩
          have hNN : Hid ((B.l ++ E).length = N) := hNe
          have hN : N = B.l.length + j := by rw [← hNe, List.length_append, hEl]
          have hwbk : wb < wk.heap.size := (Array.getElem?_eq_some_iff.1 Kk.blk).1
          have hbk : base ≤ wk.heap.size := by have := hH.out.2.2.2.2.2.1; omega
          have hblk : bl ≤ wk.heap.size := by have := hH.out.2.2.2.2.2.1; omega
          have c2 : wk.cell? ⟨wb, 2, none⟩ = some x'.l := cell_of Kk.blk rfl
          have hor : wk.ownsRow base 59 1 x'.l N ((B.l ++ E).map (·.1)) := by rw [← hNe]; exact Kk.l.row
          have hmar : wk.ownsRow base 9 1 x'.lm N ((B.l ++ E).map (·.2)) := by rw [← hNe]; exact Kk.l.marks
          have hon1 : ∀ u ∈ [Value.slice al' (i + j) cl'], u.oneCell' = true := by intro u hu; simp at hu; subst hu; rfl
          have hon2 : ∀ u ∈ [Value.string t], u.oneCell' = true := by intro u hu; simp at hu; subst hu; rfl
          have hon3 : ∀ u ∈ [Value.int .u8 63, Value.string t], u.oneCell' = true := by intro u hu; simp at hu; rcases hu with rfl | rfl <;> rfl
          have hm2 : (N + 1) * 24 ≤ 140737488355328 := by omega
          have hm3 : (N + 1) * 16 ≤ 140737488355328 := by omega
          have hm6 : i + j + 1 ≤ 1990 := Nat.le_trans (Nat.add_le_add_right (Nat.add_le_add hn (Nat.le_of_lt hj2)) 1) (by decide)
          have hm5 : (i + j + 1) * 24 ≤ 140737488355328 := Nat.le_trans (Nat.mul_le_mul_right 24 hm6) (by decide)
          have hxcb : x'.c ≤ 8000000000001 := by rw [hxc]; exact Nat.succ_le_succ hc
          have hm1 : N + 1 ≤ maxLen := by unfold maxLen; omega
          have hm4 : i + j + 1 ≤ maxLen := Nat.le_trans hm6 (by decide)
          have hnr : Hid (x'.l.ownBlock ≠ some wb ∧ x'.lm.ownBlock ≠ some wb ∧ x'.l.ownBlock ≠ some xb ∧ x'.lm.ownBlock ≠ some xb ∧ ∀ g, x'.lm.ownBlock = some g → g ≠ wb ∧ some g ≠ x'.l.ownBlock) := by
            refine ⟨fun e => ?_, fun e => ?_, fun e => ?_, fun e => ?_, fun g e => ⟨?_, fun e2 => ?_⟩⟩
            · obtain ⟨c, hc⟩ := owns_block Kk.l.row e; exact block_ne hc Kk.blk (by decide) rfl
            · obtain ⟨c, hc⟩ := owns_block Kk.l.marks e; exact block_ne hc Kk.blk (by decide) rfl
            · obtain ⟨c, hc⟩ := owns_block Kk.l.row e; exact block_ne hc hxk (by decide) rfl
            · obtain ⟨c, hc⟩ := owns_block Kk.l.marks e; exact block_ne hc hxk (by decide) rfl
            · obtain ⟨c, hc⟩ := owns_block Kk.l.marks e; exact block_ne hc Kk.blk (by decide)
            · obtain ⟨c, hc⟩ := owns_block Kk.l.marks e; obtain ⟨c2, hc2⟩ := owns_block Kk.l.row e2.symm; exact block_ne hc hc2 (by decide) rfl
          have hA : Hid (∀ (ob : Obj) (wA : World), (wk.alloc ob).grownBy wA x'.l.ownBlock → wA.heap[wb]? = some x'.obj ∧ wA.heap[xb]? = some (.cells #[.int .u8 63, .string t] 93 (0, 0)) ∧ wA.ownsRow base 9 1 x'.lm N ((B.l ++ E).map (·.2)) ∧ wk.heap.size ≤ wA.heap.size) := by
            intro ob wA g1
            have k1 : ∀ g, g < wk.heap.size → some g ≠ x'.l.ownBlock → wA.heap[g]? = wk.heap[g]? := fun g hg hne => by
              rw [g1.block g (by simp; omega) hne]; exact Below.heap_alloc wk ob g hg
            have z1 := g1.size
            simp at z1
            exact ⟨(k1 wb hwbk (fun e => hnr.out.1 e.symm)).trans Kk.blk, (k1 xb hxbk (fun e => hnr.out.2.2.1 e.symm)).trans hxk, owns_same hmar fun g hg => k1 g (Kk.l.marks.lt g hg).2 (hnr.out.2.2.2.2 g hg).2, by omega⟩
          have hM : Hid (Mark 93 2 (patT (.string t)) wk (.slice al' (i + j) cl')) := Mark.of_owns (pat := patT (.string t)) hrowk (Nat.le_refl _) (by exact Nat.le_trans (Nat.le_succ _) (Nat.le_trans hm6 (by decide))) rfl (owns_addrl hrowk)
          have hKH : Hid (Kept base wb x' { B with l := B.l ++ E } wk) := Kk
          have hrH : Hid (wk.ownsRow bl 93 2 (.slice al' (i + j) cl') (i + j) (pats (patT (.string t)) (i + j))) := hrowk
          have haddr : Hid (∀ a, al' = some a → a = ⟨a.block, 0, none⟩) := owns_addrl hrowk
          have hfzk : ∀ k, wk.frozen? ⟨wb, k, none⟩ = false := fun k => frozen_of Kk.blk
          have hxkH : Hid (wk.heap[xb]? = some (.cells #[.int .u8 63, .string t] 93 (0, 0))) := hxk
          have hxw : xb ≠ wb := block_ne hxk Kk.blk (by decide)
          clear Kk hrowk hxk hlen hw2 hN hNe
          go_wp2_with (at_builtin; refine wpList_append_own2 rfl (.tmp 28) (.tmp 30) 51 rfl base 59 i0 _ 1 24 Tryz.underlying51 hi ix0 ix1 ix2 rfl (by decide) x'.l N ((B.l ++ E).map (·.1)) rfl (hor.alloc _) ⟨wk.heap.size, 0, none⟩ 1 1 [.slice al' (i + j) cl'] rfl rfl (cells_new wk _ _) hon1 hm1 hm2 (by simp; omega) ?_; intro v1 wA o1 g1 n1; obtain ⟨a1, c1, rfl⟩ := owns_isSlice o1; obtain ⟨bA, xA, mA, zA⟩ := hA.out _ wA g1; have cA : wA.cell? ⟨wb, 2, none⟩ = some x'.l := cell_of bA rfl; have fA : ∀ k, wA.frozen? ⟨wb, k, none⟩ = false := fun k => frozen_of bA; have o1H : Hid _ := o1; have g1H : Hid _ := g1; clear o1 g1 n1)
          obtain ⟨U, hUe⟩ : ∃ U, wA.setCell ⟨wb, 2, none⟩ (.slice a1 (N + 1) c1) = U := ⟨_, rfl⟩
          have bU : U.heap[wb]? = some ({ x' with l := .slice a1 (N + 1) c1 } : WV).obj := by rw [← hUe, heap_setCell_same _ _ _ _ _ _ _ bA]; rfl
          have xU : U.heap[xb]? = some (.cells #[.int .u8 63, .string t] 93 (0, 0)) := by rw [← hUe, heap_setCell_other _ _ _ _ _ hxw]; exact xA
          have mU : U.ownsRow base 9 1 x'.lm N ((B.l ++ E).map (·.2)) := by rw [← hUe]; exact owns_same mA fun g hg => heap_setCell_other _ _ _ _ _ (hnr.out.2.2.2.2 g hg).1
          have zU : wk.heap.size ≤ U.heap.size := by rw [← hUe]; simpa using zA
          have d3 : U.cell? ⟨wb, 3, none⟩ = some x'.lm := cell_of bU rfl
          have dx : U.cell? ⟨xb, 1, none⟩ = some (.string t) := cell_of xU rfl
          have dfz : ∀ k, U.frozen? ⟨wb, k, none⟩ = false := fun k => frozen_of bU
          have hxbU : xb < U.heap.size := Nat.lt_of_lt_of_le hxbk zU
          have hwbU : wb < U.heap.size := Nat.lt_of_lt_of_le hwbk zU
          have hbs : ∀ ob, base ≤ ((U.alloc ob).drew).heap.size := by intro ob; simp; exact Nat.le_trans (Nat.le_trans hbk zU) (Nat.le_succ _)
          have mUd : ((U.alloc (.cells #[.string t] 9)).drew).ownsRow base 9 1 x'.lm N ((B.l ++ E).map (·.2)) := mU.alloc _
          have hcn : ∀ (j : Nat) (u : Value), [Value.string t][j]? = some u → ((U.alloc (.cells #[.string t] 9)).drew).cell? ((⟨U.heap.size, 0, none⟩ : Addr).add j) = some u := cells_new U [.string t] 9
          have hY : Hid (∀ (ob : Obj) (w3 : World), ((U.alloc ob).drew).grownBy w3 x'.lm.ownBlock → w3.heap[wb]? = U.heap[wb]?) := by
            intro ob w3 g2
            rw [g2.block wb (by simp; exact Nat.lt_of_lt_of_le hwbU (Nat.le_succ _)) (fun e => hnr.out.2.1 e.symm)]
            exact Below.heap_alloc U ob wb hwbU
          have hpush : Hid (∀ (ob : Obj) (v2 : Value) (w3 : World), ((U.alloc ob).drew).grownBy w3 x'.lm.ownBlock → w3.ownsRow base 9 1 v2 (N + 1) ((B.l ++ E).map (·.2) ++ [.string t]) → (v2.ownBlock = x'.lm.ownBlock ∨ ∀ g, v2.ownBlock = some g → ((U.alloc ob).drew).heap.size ≤ g) →
              ∃ x2 : WV, Kept base wb x2 { B with l := B.l ++ (E ++ [(.slice al' (i + j) cl', .string t)]) } (w3.setCell ⟨wb, 3, none⟩ v2) ∧ x2.c = x'.c ∧ Frame base wk (w3.setCell ⟨wb, 3, none⟩ v2) (fun _ => False)) := by
            intro ob v2 w3 g2 o2 n2
            obtain ⟨k1, k2⟩ := hKH.out.push_l (m := .string t) (v1 := .slice a1 (N + 1) c1) (v2 := v2) (w3 := w3) g1H.out (by show wA.ownsRow base 59 1 _ ((B.l ++ E).length + 1) _; rw [hNN.out]; exact o1H.out) (by rw [hUe]; exact ⟨g2.os, g2.tape, g2.output, g2.size, g2.block⟩) (by show w3.ownsRow base 9 1 _ ((B.l ++ E).length + 1) _; rw [hNN.out]; exact o2) (n2.imp id fun h g e => by have h1 := h g e; simp at h1; omega) hM.out ⟨fun h => absurd h (by decide), fun _ => ⟨t, rfl⟩⟩
            refine ⟨{ x' with l := .slice a1 (N + 1) c1, lm := v2 }, ?_, rfl, k2⟩
            rw [← List.append_assoc]
            exact k1
          clear bA xA mA zA cA fA
          rw [hUe]
          clear hUe o1H g1H bU xU hA hor c2 hfzk hmar
          go_cut [] (fun wx => ∃ x2 : WV, Kept base wb x2 { B with l := B.l ++ (E ++ [(.slice al' (i + j) cl', .string t)]) } wx ∧ x2.c = x'.c ∧ Frame base wk wx (fun _ => False))
          case first =>
            go_region_law (refine step_append_own rfl (.tmp 38) (.tmp 41) 27 rfl base 9 j0 _ 1 16 Tryz.underlying27 ji jx0 jx1 jx2 rfl (by decide) x'.lm N ((B.l ++ E).map (·.2)) (by simp [Act.eval]) mUd ⟨U.heap.size, 0, none⟩ 1 1 [.string t] (by simp [Act.eval]) rfl hcn hon2 hm1 hm3 (hbs _) ?_; intro v2 w3 o2 g2 n2; obtain ⟨a2, c2, rfl⟩ := owns_isSlice o2; have b3 := hY.out _ w3 g2; have e3 := (World.cell?_of_block (a := ⟨wb, 3, none⟩) b3).trans d3; have f3 := fun k => (World.frozen?_of_block (a := ⟨wb, k, none⟩) b3).trans (dfz k))
            all_goals
              have hR := hpush.out _ _ w3 g2 o2 n2
              have hRH : Hid _ := hR
              clear hR hpush hY g2 o2 n2
              go_wp2_with fail
              go_meet
              case rel => exact hRH.out
          case rest =>
            obtain ⟨x2, K4, hx2c, F4⟩ := hcut
            obtain ⟨W4, rfl⟩ : ∃ W4, W4 = wc := ⟨_, rfl⟩
            have hx4 : W4.heap[xb]? = some (.cells #[.int .u8 63, .string t] 93 (0, 0)) := (F4.at hxkH.out (by decide) (fun h => h)).trans hxkH.out
            have row4 : W4.ownsRow bl 93 2 (.slice al' (i + j) cl') (i + j) (pats (patT (.string t)) (i + j)) := owns_same hrH.out fun g hg => by
              obtain ⟨c, hc⟩ := owns_block hrH.out hg
              exact F4.at hc (by decide) (fun h => h)
            have hbl4 : bl ≤ W4.heap.size := Nat.le_trans hblk F4.1
            have e0 : W4.cell? ⟨xb, 0, none⟩ = some (.int .u8 63) := cell_of hx4 rfl
            have e1 : W4.cell? ⟨xb, 1, none⟩ = some (.string t) := cell_of hx4 rfl
            have hFin : Hid (∀ (ob : Obj) (v5 : Value) (w5 : World), w5.ownsRow bl 93 2 v5 (i + j + 1) (pats (patT (.string t)) (i + j) ++ [.int .u8 63, .string t]) → ((v5.ownBlock = (Value.slice al' (i + j) cl').ownBlock ∧ (W4.alloc ob).grownBy w5 (Value.slice al' (i + j) cl').ownBlock) ∨ ((∀ g, v5.ownBlock = some g → (W4.alloc ob).heap.size ≤ g) ∧ (W4.alloc ob).grownBy w5 none)) →
                ∃ (j' : Nat) (al5 : Option Addr) (cl5 : Nat) (x5 : WV) (E5 : List (Value × Value)), 4 - (j + 1) = 4 - j' ∧ j' ≤ 4 ∧ Value.int .i64 ((j : Int) + 1) = .int .i64 j' ∧ v5 = .slice al5 (i + j') cl5 ∧ w5.ownsRow bl 93 2 (.slice al5 (i + j') cl5) (i + j') (pats (patT (.string t)) (i + j')) ∧ Kept base wb x5 { B with l := B.l ++ E5 } w5 ∧ E5.length = j' ∧ x5.c = x.c + 1 ∧
                Hid ((∀ p ∈ E5, p.1.ownBlock = (Value.slice al i cl).ownBlock ∨ ∀ g, p.1.ownBlock = some g → w.heap.size ≤ g) ∧ (∀ p ∈ E5, p.2 = .string t ∧ ∃ al m cl, p.1 = .slice al m cl ∧ m ≤ i + j' ∧ ∀ a, al = some a → a = ⟨a.block, 0, none⟩) ∧ (∀ p ∈ B.l, p.1.ownBlock = none ∨ p.1.ownBlock ≠ (Value.slice al5 (i + j') cl5).ownBlock) ∧ ((Value.slice al5 (i + j') cl5).ownBlock = (Value.slice al i cl).ownBlock ∨ ∀ g, (Value.slice al5 (i + j') cl5).ownBlock = some g → w.heap.size ≤ g) ∧ (Value.slice al5 (i + j') cl5).ownBlock ≠ some xb ∧ Frame base w w5 (fun g => some g = (Value.slice al i cl).ownBlock)) ∧ w5.heap[xb]? = some (.cells #[.int .u8 63, .string t] 93 (0, 0))) := by
              intro ob v5 w5 row5 h3
              obtain ⟨q1, q2, q3, q4, q5, q6⟩ := hH.out
              have hE2 : ∀ p ∈ E ++ [(Value.slice al' (i + j) cl', Value.string t)], p.2 = .string t ∧ ∃ al m cl, p.1 = .slice al m cl ∧ m ≤ i + j ∧ ∀ a, al = some a → a = ⟨a.block, 0, none⟩ := by
                intro p hp
                rcases List.mem_append.1 hp with hp | hp
                · exact q2 p hp
                · rw [List.mem_singleton] at hp
                  subst hp
                  exact ⟨rfl, al', i + j, cl', rfl, Nat.le_refl _, haddr.out⟩
              obtain ⟨s1, s2, s3, s4, s5⟩ := linesOf_step (ob := ob) K4 (Nat.le_of_succ_le hm6) row4 hE2 q3 row5 h3
              obtain ⟨al5, cl5, rfl⟩ := owns_isSlice row5
              have hFz := F4.1
              have hq61 := q6.1
              have hold : (Value.slice al5 (i + j + 1) cl5).ownBlock = (Value.slice al' (i + j) cl').ownBlock ∨ ∀ g, (Value.slice al5 (i + j + 1) cl5).ownBlock = some g → W4.heap.size ≤ g := h3.imp (fun h => h.1) (fun h g e => by have := h.1 g e; simp at this; omega)
              refine ⟨j + 1, al5, cl5, x2, _, rfl, hj2, by push_cast; rfl, rfl, s3, s1, by rw [List.length_append, hEl]; rfl, hx2c.trans hxc, ⟨?_, ?_, s4, ?_, ?_, ?_⟩, ?_⟩
              · intro p hp
                rcases List.mem_append.1 hp with hp | hp
                · exact q1 p hp
                · rw [List.mem_singleton] at hp
                  subst hp
                  exact q4
              · intro p hp
                obtain ⟨r1, al, m, cl, r2, r3, r4⟩ := hE2 p hp
                exact ⟨r1, al, m, cl, r2, Nat.le_succ_of_le r3, r4⟩
              · rcases hold with h | h
                · have h' : (Value.slice al5 (i + (j + 1)) cl5).ownBlock = (Value.slice al' (i + j) cl').ownBlock := h
                  rw [h']; exact q4
                · right
                  intro g e
                  have := h g e
                  omega
              · rcases hold with h | h
                · have h' : (Value.slice al5 (i + (j + 1)) cl5).ownBlock = (Value.slice al' (i + j) cl').ownBlock := h
                  rw [h']; exact q5
                · intro e
                  have := h xb e
                  omega
              · have hF := (q6.trans F4).trans s2
                refine hF.mono fun g hg h => ?_
                rcases h with (h | h) | h
                · exact h
                · exact h.elim
                · rcases q4 with e | e
                  · exact h.trans e
                  · have := e g h.symm; omega
              · rw [s5 xb (by omega) (fun e => q5 e.symm)]
                exact hx4
            clear hH hKH hM K4 F4 hnr hrH
            go_wp2_with (at_builtin; refine wpList_append_own3 rfl (.tmp 45) (.tmp 47) 59 rfl bl 93 k0 _ 2 24 Tryz.underlying59 ki kx0 kx1 kx2 rfl (by decide) (.slice al' (i + j) cl') (i + j) (pats (patT (.string t)) (i + j)) rfl (row4.alloc _) ⟨W4.heap.size, 0, none⟩ 1 1 [.int .u8 63, .string t] rfl rfl (cells_new W4 _ _) hon3 hm4 hm5 (by simp; omega) ?_; intro v5 w5 row5 h3; have hR := hFin.out _ v5 w5 row5 h3; have hRH : Hid _ := hR; clear hR row5 h3)
            go_roundg (4 - (j + 1))
            · exact hRH.out
            · have := hG2.out; omega
        · obtain rfl : j = 4 := by omega
          have hR : ∃ (x' : WV) (E : List (Value × Value)), Kept base wb x' { B with l := B.l ++ E } wk ∧ E.length = 4 ∧ x'.c = x.c + 1 ∧ (∀ p ∈ E, p.1.ownBlock = (Value.slice al i cl).ownBlock ∨ ∀ g, p.1.ownBlock = some g → w.heap.size ≤ g) ∧ Frame base w wk (fun g => some g = (Value.slice al i cl).ownBlock) := ⟨x', E, Kk, hEl, hxc, hH.out.1, hH.out.2.2.2.2.2⟩
          have hRH : Hid _ := hR
          clear hR Kk hH hrowk hxk
          go_wp2_with fail
          go_end0
          exact ⟨rfl, hRH.out⟩
end Go.Proofs.YtcclgodahlinbaaGreatDoor

namespace Go.Proofs.YtcclgodahlinbaaGreatDoor
open Go.RowKit Go
set_option maxRecDepth 100000

theorem info_hs : (Tryz.prog.info? 30).map (fun i => (i.zero, i.size, i.bytes)) = some (some (.slice none 0 0), 1, 24) := by kernel_rfl
theorem info_i : (Tryz.prog.info? 3).map (fun i => (i.zero, i.size, i.bytes)) = some (some (.int .i64 0), 1, 8) := by kernel_rfl
/-- five cells of a row are written over -/
theorem owns_set5 {w : World} {bl n i : Nat} {xs : List Value} {a b c d e : Value} {al : Option Addr} {cl : Nat} (h : w.ownsRow bl 61 5 (.slice al n cl) n (pats [a, b, c, d, e] i ++ xs.drop (i * 5))) (hx : xs.length = n * 5) (hi : i < n) :
    ∃ g, al = some ⟨g, 0, none⟩ ∧ g < w.heap.size ∧ (∃ cur, w.heap[g]? = some (.cells cur 61 (0, 0)) ∧ i * 5 + 4 < cur.size) ∧ (((((w.setCell ⟨g, i * 5, none⟩ a).setCell ⟨g, i * 5 + 1, none⟩ b).setCell ⟨g, i * 5 + 2, none⟩ c).setCell ⟨g, i * 5 + 3, none⟩ d).setCell ⟨g, i * 5 + 4, none⟩ e).ownsRow bl 61 5 (.slice al n cl) n (pats [a, b, c, d, e] (i + 1) ++ xs.drop ((i + 1) * 5)) := by
  rcases h.2 with ⟨_, h0⟩ | ⟨g, cap, cur, e', hb, hg, h1, h2, h3, h4⟩
  · omega
  · cases e'
    have hsz : i * 5 + 4 < cur.size := by rw [h3]; omega
    have hpl : (pats [a, b, c, d, e] i).length = i * 5 := pats_length [a, b, c, d, e] i
    refine ⟨g, rfl, (Array.getElem?_eq_some_iff.1 hg).1, ⟨cur, hg, hsz⟩, ?_, .inr ⟨g, cl, _, rfl, hb, heap_setCell_same _ _ _ _ _ _ _ (heap_setCell_same _ _ _ _ _ _ _ (heap_setCell_same _ _ _ _ _ _ _ (heap_setCell_same _ _ _ _ _ _ _ (heap_setCell_same _ _ _ _ _ _ _ hg)))), h1, h2, by simp [h3], ?_⟩⟩
    · rw [List.length_append, pats_length, List.length_drop, hx]
      show (i + 1) * 5 + _ = _
      omega
    · have h5 : List.take (n * 5) (((((cur.setIfInBounds (i * 5) a).setIfInBounds (i * 5 + 1) b).setIfInBounds (i * 5 + 2) c).setIfInBounds (i * 5 + 3) d).setIfInBounds (i * 5 + 4) e).toList = (((((List.take (n * 5) cur.toList).set (i * 5) a).set (i * 5 + 1) b).set (i * 5 + 2) c).set (i * 5 + 3) d).set (i * 5 + 4) e := by
        simp [List.take_set]
      rw [h5, h4]
      apply List.ext_getElem?
      intro j
      have hl1 : (pats [a, b, c, d, e] i ++ xs.drop (i * 5)).length = n * 5 := by rw [List.length_append, hpl, List.length_drop, hx]; omega
      have hl2 : (pats [a, b, c, d, e] (i + 1)).length = (i + 1) * 5 := pats_length [a, b, c, d, e] (i + 1)
      simp only [List.getElem?_set, List.length_set, hl1]
      have hp := fun k hk => pats_get [a, b, c, d, e] (i + 1) i k (Nat.lt_succ_self i) hk
      by_cases e4 : i * 5 + 4 = j
      · subst e4
        rw [if_pos rfl, if_pos (by omega), List.getElem?_append_left (by rw [hl2]; omega)]
        simpa using (hp 4 (by simp)).symm
      rw [if_neg e4]
      by_cases e3 : i * 5 + 3 = j
      · subst e3
        rw [if_pos rfl, if_pos (by omega), List.getElem?_append_left (by rw [hl2]; omega)]
        simpa using (hp 3 (by simp)).symm
      rw [if_neg e3]
      by_cases e2 : i * 5 + 2 = j
      · subst e2
        rw [if_pos rfl, if_pos (by omega), List.getElem?_append_left (by rw [hl2]; omega)]
        simpa using (hp 2 (by simp)).symm
      rw [if_neg e2]
      by_cases e1 : i * 5 + 1 = j
      · subst e1
        rw [if_pos rfl, if_pos (by omega), List.getElem?_append_left (by rw [hl2]; omega)]
        simpa using (hp 1 (by simp)).symm
      rw [if_neg e1]
      by_cases e0 : i * 5 = j
      · subst e0
        rw [if_pos rfl, if_pos (by omega), List.getElem?_append_left (by rw [hl2]; omega)]
        simpa using (hp 0 (by simp)).symm
      rw [if_neg e0]
      by_cases ej : j < i * 5
      · rw [List.getElem?_append_left (by rw [hpl]; omega), List.getElem?_append_left (by rw [hl2]; omega)]
        rw [pats, List.getElem?_append_left (by rw [hpl]; omega)]
      · rw [List.getElem?_append_right (by rw [hpl]; omega), List.getElem?_append_right (by rw [hl2]; omega), List.getElem?_drop, List.getElem?_drop, hpl, hl2]
        congr 1
        omega
/-- one more behind a list of marks: what is kept bears its marks still -/
theorem patch_step {base wb bl N cl' : Nat} {al' : Option Addr} {x : WV} {B : Bk} {E : List (Value × Value)} {w4 w5 : World} {c : Int} {v' : Value} {ob : Obj} (K : Kept base wb x { B with h := B.h ++ E } w4) (hN : N ≤ 1990)
    (row4 : w4.ownsRow bl 61 5 (.slice al' N cl') N (pats (patH (.int .i64 c)) N)) (hE : ∀ p ∈ E, p.2 = .int .i64 c ∧ ∃ al m cl, p.1 = .slice al m cl ∧ m ≤ N ∧ ∀ a, al = some a → a = ⟨a.block, 0, none⟩) (hfr : ∀ p ∈ B.h, p.1.ownBlock = none ∨ p.1.ownBlock ≠ (Value.slice al' N cl').ownBlock)
    (row5 : w5.ownsRow bl 61 5 v' (N + 1) (pats (patH (.int .i64 c)) N ++ patH (.int .i64 c)))
    (h3 : (v'.ownBlock = (Value.slice al' N cl').ownBlock ∧ (w4.alloc ob).grownBy w5 (Value.slice al' N cl').ownBlock) ∨ ((∀ g, v'.ownBlock = some g → (w4.alloc ob).heap.size ≤ g) ∧ (w4.alloc ob).grownBy w5 none)) :
    Kept base wb x { B with h := B.h ++ E } w5 ∧ Frame base w4 w5 (fun g => some g = (Value.slice al' N cl').ownBlock) ∧ w5.ownsRow bl 61 5 v' (N + 1) (pats (patH (.int .i64 c)) (N + 1)) ∧ (∀ p ∈ B.h, p.1.ownBlock = none ∨ p.1.ownBlock ≠ v'.ownBlock) ∧ (∀ g, g < w4.heap.size → some g ≠ (Value.slice al' N cl').ownBlock → w5.heap[g]? = w4.heap[g]?) := by
  have hrow : w5.ownsRow bl 61 5 v' (N + 1) (pats (patH (.int .i64 c)) (N + 1)) := row5
  have hold : ∀ g, g < w4.heap.size → some g ≠ (Value.slice al' N cl').ownBlock → w5.heap[g]? = w4.heap[g]? := fun g hg hne => by
    rcases h3 with ⟨_, h⟩ | ⟨_, h⟩
    · rw [h.block g (by simp; omega) hne]; exact Below.heap_alloc w4 ob g hg
    · rw [h.block g (by simp; omega) (by simp)]; exact Below.heap_alloc w4 ob g hg
  have hz : w4.heap.size ≤ w5.heap.size := by
    rcases h3 with ⟨_, h⟩ | ⟨_, h⟩
    · have := h.size; simp at this; omega
    · have := h.size; simp at this; omega
  have hOut : Outs w4 w5 := by
    rcases h3 with ⟨_, h⟩ | ⟨_, h⟩
    · exact (Outs.alloc w4 ob).trans (Outs.of_grown h)
    · exact (Outs.alloc w4 ob).trans (Outs.of_grown h)
  refine ⟨?_, ⟨hz, fun g hg => ?_, hOut⟩, hrow, ?_, hold⟩
  · refine K.skip_h (vb := (Value.slice al' N cl').ownBlock) (fun g hg _ => ?_) hold (fun p hp => ?_)
    · obtain ⟨c, hc⟩ := owns_block row4 hg
      exact ⟨c, _, hc⟩
    · rcases List.mem_append.1 hp with hp' | hp'
      · exact .inl (hfr p hp')
      · by_cases hq : p.1.ownBlock = (Value.slice al' N cl').ownBlock
        · right
          rcases h3 with ⟨e, _⟩ | ⟨_, h⟩
          · obtain ⟨e2, al, m, cl, e1, hm, ha⟩ := hE p hp'
            rw [e2]
            rw [e1] at hq ⊢
            exact Mark.of_owns (pat := patH (.int .i64 c)) hrow (by omega) (by omega) (e.trans hq.symm) ha
          · exact (K.h.ok p hp).same fun g _ ⟨c, f, hg⟩ => by
              have hlt := (Array.getElem?_eq_some_iff.1 hg).1
              rw [h.block g (by simp; omega) (by simp)]; exact Below.heap_alloc w4 ob g hlt
        · exact .inl (.inr hq)
  · by_cases hq : some g = (Value.slice al' N cl').ownBlock
    · exact .inr (.inl hq)
    · exact .inl (hold g hg hq)
  · intro p hp
    rcases h3 with ⟨e, _⟩ | ⟨e, _⟩
    · rw [e]; exact hfr p hp
    · cases hv : p.1.ownBlock with
      | none => exact .inl rfl
      | some g =>
        right
        intro e2
        have h1 := e g e2.symm
        have hM := ((K.h.ok p (List.mem_append_left _ hp)).lt g hv).1
        simp at h1
        omega
/-- what stands ahead of hunk i's lines being written over -/
def LinesLeft (base wb bl : Nat) (x : WV) (B : Bk) (v : Value) (hv : List HV) (w : World) (i : Nat) (wi : World) : Prop :=
  ∃ (x' : WV) (E : List (Value × Value)), Kept base wb x' { B with l := B.l ++ E } wi ∧ E.length = 4 * i ∧ x'.c = x.c + i ∧ (∀ q ∈ hv.drop i, wi.ownsRow bl 93 2 q.2 q.1.lines.length (stepCells q.1.lines)) ∧ wi.ownsRow bl 61 5 v hv.length (hunkCells hv) ∧
    (∀ p ∈ B.l ++ E, ∀ q ∈ hv.drop i, p.1.ownBlock = none ∨ p.1.ownBlock ≠ q.2.ownBlock) ∧ Frame base w wi (fun g => bl ≤ g) ∧ ∀ p ∈ E, ∀ g, p.1.ownBlock = some g → bl ≤ g
theorem LinesLeft.start {base wb bl : Nat} {x : WV} {B : Bk} {v : Value} {hv : List HV} {w w0 : World} (K : Kept base wb x B w0) (hso : HSo bl v hv w0) (hF : Frame base w w0 (fun g => bl ≤ g)) (hfr : ∀ p ∈ B.l, ∀ g, p.1.ownBlock = some g → g < bl) : LinesLeft base wb bl x B v hv w 0 w0 := by
  refine ⟨x, [], by simpa using K, rfl, rfl, fun q hq => ?_, hso.owns, fun p hp q hq => ?_, hF, by simp⟩
  · rw [List.drop_zero] at hq
    rcases hso with ⟨rfl, _⟩ | ⟨g, cap, _, _, hs⟩
    · simp at hq
    · exact hs.lines q hq
  · rw [List.drop_zero] at hq
    rw [List.append_nil] at hp
    rcases hso with ⟨rfl, _⟩ | ⟨g, cap, _, _, hs⟩
    · simp at hq
    · cases hv' : p.1.ownBlock with
      | none => exact .inl rfl
      | some g =>
        right
        intro e
        have h1 := hfr p hp g hv'
        have h2 := ((hs.lines q hq).lt g e.symm).1
        omega
theorem LinesLeft.next {base wb bl : Nat} {x : WV} {B : Bk} {v : Value} {hv : List HV} {w : World} {i : Nat} {wi w' : World} (hi : i < hv.length) (hap : hv.Pairwise fun p q => p.2.ownBlock = none ∨ p.2.ownBlock ≠ q.2.ownBlock) {x1 : WV} {E : List (Value × Value)}
    (h : Kept base wb x1 { B with l := B.l ++ E } wi ∧ E.length = 4 * i ∧ x1.c = x.c + i ∧ (∀ q ∈ hv.drop i, wi.ownsRow bl 93 2 q.2 q.1.lines.length (stepCells q.1.lines)) ∧ wi.ownsRow bl 61 5 v hv.length (hunkCells hv) ∧ (∀ p ∈ B.l ++ E, ∀ q ∈ hv.drop i, p.1.ownBlock = none ∨ p.1.ownBlock ≠ q.2.ownBlock) ∧ Frame base w wi (fun g => bl ≤ g) ∧ ∀ p ∈ E, ∀ g, p.1.ownBlock = some g → bl ≤ g)
    {x2 : WV} {E2 : List (Value × Value)} (k : Kept base wb x2 { B with l := B.l ++ E ++ E2 } w') (he : E2.length = 4) (hc : x2.c = x1.c + 1) (ho : ∀ p ∈ E2, p.1.ownBlock = hv[i].2.ownBlock ∨ ∀ g, p.1.ownBlock = some g → wi.heap.size ≤ g) (hF : Frame base wi w' (fun g => some g = hv[i].2.ownBlock)) (hbl : bl ≤ wi.heap.size) :
    LinesLeft base wb bl x B v hv w (i + 1) w' := by
  obtain ⟨h1, h2, h3, h4, h5, h6, h7, h8⟩ := h
  have hdrop : hv.drop i = hv[i] :: hv.drop (i + 1) := List.drop_eq_getElem_cons hi
  have hap2 : ∀ q ∈ hv.drop (i + 1), hv[i].2.ownBlock = none ∨ hv[i].2.ownBlock ≠ q.2.ownBlock := by
    have h0 := List.Pairwise.sublist (List.drop_sublist i hv) hap
    rw [hdrop] at h0
    exact (List.pairwise_cons.1 h0).1
  have hi0 := h4 hv[i] (by rw [hdrop]; exact List.mem_cons_self)
  refine ⟨x2, E ++ E2, by rw [← List.append_assoc]; exact k, by rw [List.length_append, h2, he]; omega, by rw [hc, h3]; omega, fun q hq => ?_, ?_, fun p hp q hq => ?_, ?_, fun p hp g e => ?_⟩
  · refine owns_same (h4 q (by rw [hdrop]; exact List.mem_cons_of_mem _ hq)) fun g hg => ?_
    obtain ⟨c, hcc⟩ := owns_block (h4 q (by rw [hdrop]; exact List.mem_cons_of_mem _ hq)) hg
    refine hF.at hcc (by decide) (fun e => ?_)
    rcases hap2 q hq with e2 | e2
    · rw [e2] at e; cases e
    · exact e2 (e.symm.trans hg.symm)
  · refine owns_same h5 fun g hg => ?_
    obtain ⟨c, hcc⟩ := owns_block h5 hg
    refine hF.at hcc (by decide) (fun e => ?_)
    obtain ⟨c2, hc2⟩ := owns_block hi0 e.symm
    exact block_ne hcc hc2 (by decide) rfl
  · rw [← List.append_assoc] at hp
    rcases List.mem_append.1 hp with hp | hp
    · exact h6 p hp q (by rw [hdrop]; exact List.mem_cons_of_mem _ hq)
    · rcases ho p hp with e | e
      · rw [e]
        exact hap2 q hq
      · cases hv' : p.1.ownBlock with
        | none => exact .inl rfl
        | some g =>
          right
          intro e2
          have q1 := e g hv'
          have q2 := ((h4 q (by rw [hdrop]; exact List.mem_cons_of_mem _ hq)).lt g e2.symm).2
          omega
  · refine (h7.trans hF).mono fun g hg h => ?_
    rcases h with h | h
    · exact h
    · exact (hi0.lt g h.symm).1
  · rcases List.mem_append.1 hp with hp | hp
    · exact h8 p hp g e
    · rcases ho p hp with e2 | e2
      · rw [e2] at e
        exact (hi0.lt g e).1
      · have := e2 g e
        omega
end Go.Proofs.YtcclgodahlinbaaGreatDoor

namespace Go.Proofs.YtcclgodahlinbaaGreatDoor
open Go.RowKit Go
set_option maxRecDepth 100000

set_option maxHeartbeats 8000000 in
theorem patch_ok {base wb bl cl : Nat} {al : Option Addr} {x : WV} {B : Bk} {w : World} {hv : List HV} (K : Kept base wb x B w) (hso : HSo bl (.slice al hv.length cl) hv w) (hn : hv.length ≤ 1000) (hln : ∀ p ∈ hv, p.1.lines.length ≤ 1900)
    (hfl : ∀ p ∈ B.l, ∀ g, p.1.ownBlock = some g → g < bl) (hfh : ∀ p ∈ B.h, ∀ g, p.1.ownBlock = some g → g < bl) (hbase : base ≤ w.heap.size) (hbl : bl ≤ w.heap.size) (hc : x.c ≤ 7000000000000) (hll : B.l.length ≤ 700000000000) (hlh : B.h.length ≤ 700000000000) :
    Calls Tryz.prog 82 #[.pointer (some ⟨wb, 0, none⟩), .agg #[.slice al hv.length cl]] w fun e w' => e = .returned (.tuple #[]) ∧ ∃ (x' : WV) (B' : Bk), Kept base wb x' B' w' ∧ B'.s = B.s ∧ B'.r = B.r ∧ B'.h.length = B.h.length + 4 ∧ B'.l.length = B.l.length + 4 * hv.length ∧ x'.c = x.c + hv.length + 1 ∧ Frame base w w' (fun g => bl ≤ g) := by
  obtain ⟨i0, hi, ix0, ix1, ix2⟩ := info_parts info_hs
  obtain ⟨j0, ji, jx0, jx1, jx2⟩ := info_parts info_i
  obtain ⟨k0, ki, kx0, kx1, kx2⟩ := info_parts info_hunk
  have hap : Hid (hv.Pairwise fun p q => p.2.ownBlock = none ∨ p.2.ownBlock ≠ q.2.ownBlock) := by
    rcases hso with ⟨rfl, _⟩ | ⟨g, cap, _, _, hs⟩
    · exact List.Pairwise.nil
    · exact hs.apart
  have hadr : Hid (∀ a, al = some a → a = ⟨a.block, 0, none⟩) := owns_addrl hso.owns
  have hw0 : Below w.heap.size w (w.alloc (.cells #[.slice al hv.length cl] 32)) := (Below.refl _ _).alloc (Nat.le_refl _) _
  have hpb : (w.alloc (.cells #[.slice al hv.length cl] 32)).heap[w.heap.size]? = some (.cells #[.slice al hv.length cl] 32 (0, 0)) := heap_alloc_new w _
  have c0 : (w.alloc (.cells #[.slice al hv.length cl] 32)).cell? ⟨w.heap.size, 0, none⟩ = some (.slice al hv.length cl) := cell_of hpb rfl
  have hst : Hid (LinesLeft base wb bl x B (.slice al hv.length cl) hv w 0 (w.alloc (.cells #[.slice al hv.length cl] 32))) := LinesLeft.start (K.old fun g hg => hw0.block g hg) (hso.alloc _) ((Frame.of_below hw0).mono fun g _ h => h.elim) hfl
  have hz0 : (w.alloc (.cells #[.slice al hv.length cl] 32)).heap.size = w.heap.size + 1 := by simp
  have hfhH : Hid (∀ p ∈ B.h, ∀ g, p.1.ownBlock = some g → g < bl) := hfh
  have hlnH : Hid (∀ p ∈ hv, p.1.lines.length ≤ 1900) := hln
  have hwb : wb < w.heap.size := (Array.getElem?_eq_some_iff.1 K.blk).1
  have hvbl : Hid (∀ g, (Value.slice al hv.length cl).ownBlock = some g → bl ≤ g) := fun g e => (hso.owns.lt g e).1
  go_enter Tryz.func82, Tryz.ntmps82
  go_wp2_with fail
  clear K hso hw0 hpb c0 hfl hfh hln
  generalize w.alloc (.cells #[.slice al hv.length cl] 32) = w0 at *
  obtain ⟨n, hne⟩ : ∃ n, hv.length = n := ⟨_, rfl⟩
  have hnE : Hid (hv.length = n) := hne
  rw [hne] at hn hst hvbl ⊢
  clear hne
  go_loopg [5] n (fun g t5 wi => ∃ i : Nat, g = n - i ∧ i ≤ n ∧ t5 = .int .i64 i ∧ Hid (LinesLeft base wb bl x B (.slice al n cl) hv w i wi) ∧ w.heap.size ≤ wi.heap.size)
  case atStart => exact ⟨0, by omega, by omega, rfl, hst, by omega⟩
  case round =>
    rename World => wi
    obtain ⟨i, hgi, hin, rfl, hL, hzi⟩ := hrel
    have hG : Hid (_ = n - i) := hgi
    clear hgi hst
    by_cases hi2 : i < n
    · have hiI : (i : Int) < n := by omega
      obtain ⟨x1, E, hP⟩ := hL.out
      have hi3 : i < hv.length := by rw [hnE.out]; exact hi2
      have hPr := hP.2.2.2.2.1
      have hrl := hP.2.2.2.1 hv[i] (by rw [List.drop_eq_getElem_cons hi3]; exact List.mem_cons_self)
      obtain ⟨g, cap, e, hgb, hgi, _⟩ := owns_slice hPr (by omega)
      have hag : al = some ⟨g, 0, none⟩ := by cases e; rfl
      have hrow5 := hPr
      rw [hag, hnE.out] at hrow5
      obtain ⟨_, _, _, _, d4⟩ := owns_hunk hrow5 hi3
      obtain ⟨alq, clq, hq⟩ := owns_isSlice hrl
      have hcall : Hid (Calls Tryz.prog 113 #[.pointer (some ⟨wb, 0, none⟩), .slice alq hv[i].1.lines.length clq] wi fun e w' => e = .returned (.tuple #[]) ∧ LinesLeft base wb bl x B (.slice al n cl) hv w (i + 1) w' ∧ w.heap.size ≤ w'.heap.size) := by
        have hz := hP.2.2.2.2.2.2.1.1
        refine (linesOf_ok (bl := bl) hP.1 (by rw [← hq]; exact hrl) (hlnH.out _ (List.getElem_mem hi3)) (fun p hp => by rw [← hq]; exact hP.2.2.2.2.2.1 p hp _ (by rw [List.drop_eq_getElem_cons hi3]; exact List.mem_cons_self)) (by omega) (by omega) (by have := hP.2.2.1; omega) (by
          show (B.l ++ E).length ≤ _
          have := hP.2.1; rw [List.length_append]; omega)).mono ?_
        rintro e w' ⟨rfl, x2, E2, k1, k2, k3, k4, k5⟩
        rw [← hq] at k4 k5
        exact ⟨rfl, LinesLeft.next hi3 hap.out hP k1 k2 k3 k4 k5 (by omega), Nat.le_trans hzi k5.1⟩
      rw [hq] at d4
      generalize hv[i].1.lines.length = ll at *
      subst hag
      clear hP hPr hrl hq e hrow5 hL
      go_wp2_with fail
      refine hcall.out.mono ?_
      rintro e w' ⟨rfl, hL', hz'⟩
      go_wp2_with fail
      go_roundg (n - (i + 1))
      · exact ⟨i + 1, rfl, by omega, by push_cast; rfl, hL', hz'⟩
      · have := hG.out; omega
    · obtain rfl : i = n := by omega
      have hiI : ¬ ((i : Int) < i) := by omega
      obtain ⟨x1, E, hP⟩ := hL.out
      have hxs : Hid ((hunkCells hv).length = i * 5) := by
        have := hP.2.2.2.2.1.1
        rw [hnE.out] at this
        exact this
      have hrw : wi.ownsRow bl 61 5 (.slice al i cl) i (hunkCells hv) := by
        have := hP.2.2.2.2.1
        rw [hnE.out] at this
        exact this
      obtain ⟨B1, hB1⟩ : ∃ B1 : Bk, { B with l := B.l ++ E } = B1 := ⟨_, rfl⟩
      have hBH : Hid (B1.h = B.h ∧ B1.s = B.s ∧ B1.r = B.r ∧ B1.l.length = B.l.length + 4 * i) := by
        rw [← hB1]
        exact ⟨rfl, rfl, rfl, by show (B.l ++ E).length = _; rw [List.length_append, hP.2.1]⟩
      have K1 := hP.1
      rw [hB1] at K1
      have hxc := hP.2.2.1
      have hFi := hP.2.2.2.2.2.2.1
      clear hL hP hB1
      have hwbi : wb < wi.heap.size := (Array.getElem?_eq_some_iff.1 K1.blk).1
      have c8 : wi.cell? ⟨wb, 8, none⟩ = some (.int .i64 (x1.c : Int)) := cell_of K1.blk rfl
      have fz8 : ∀ k, wi.frozen? ⟨wb, k, none⟩ = false := fun k => frozen_of K1.blk
      have hk2 : (wi.setCell ⟨wb, 8, none⟩ (.int .i64 ((x1.c : Int) + 1))).heap[wb]? = some ({ x1 with c := x1.c + 1 } : WV).obj := by
        rw [heap_setCell_same _ _ _ _ _ _ _ K1.blk]; simp [WV.obj]
      have K2 := K1.count hk2 (fun g _ hne => heap_setCell_other _ _ _ _ _ hne)
      have hF2 : Frame base w (wi.setCell ⟨wb, 8, none⟩ (.int .i64 ((x1.c : Int) + 1))) (fun g => bl ≤ g) := by
        refine (hFi.trans (s2 := fun _ => False) ⟨by simp, fun g hg => ?_, Outs.setCell _ _ _⟩).mono fun g _ h => h.elim id False.elim
        by_cases e : g = wb
        · subst e; exact .inr (.inr ⟨_, _, _, K1.blk, by decide, K1.wlo⟩)
        · exact .inl (heap_setCell_other _ _ _ _ _ e)
      have hv2 : (wi.setCell ⟨wb, 8, none⟩ (.int .i64 ((x1.c : Int) + 1))).ownsRow bl 61 5 (.slice al i cl) i (hunkCells hv) := owns_same hrw fun g hg => by
        obtain ⟨c, hc⟩ := owns_block hrw hg
        exact heap_setCell_other _ _ _ _ _ (block_ne hc K1.blk (by decide))
      have hz2 : (wi.setCell ⟨wb, 8, none⟩ (.int .i64 ((x1.c : Int) + 1))).heap.size = wi.heap.size := by simp
      have hxcb : x1.c ≤ 7000000001000 := by omega
      have hxcH : Hid (x1.c = x.c + i) := hxc
      clear hxc
      go_wp2_with fail
      have c9 : (wi.setCell ⟨wb, 8, none⟩ (.int .i64 ((x1.c : Int) + 1))).cell? ⟨wb, 8, none⟩ = some (.int .i64 ((x1.c : Int) + 1)) := cell_of (heap_setCell_same _ _ _ _ _ _ _ K1.blk) rfl
      clear c8 fz8 hk2 K1 hFi hrw
      generalize wi.setCell ⟨wb, 8, none⟩ (.int .i64 ((x1.c : Int) + 1)) = w2 at *
      obtain ⟨C, hCe⟩ : ∃ C : Nat, x1.c + 1 = C := ⟨_, rfl⟩
      have hCI : ((x1.c : Int) + 1) = (C : Int) := by rw [← hCe]; push_cast; rfl
      have hCH : Hid (C = x.c + i + 1) := by show _ = _; rw [← hCe, hxcH.out]
      rw [hCe] at K2
      rw [hCI] at c9
      have hCb : C ≤ 8000000000000 := by omega
      obtain ⟨xb, hxbE⟩ : ∃ xb, w2.heap.size = xb := ⟨_, rfl⟩
      have hwb2 : wb < w2.heap.size := (Array.getElem?_eq_some_iff.1 K2.blk).1
      have K2H : Hid (Kept base wb { x1 with c := C } B1 w2) := K2
      have hv2H : Hid (w2.ownsRow bl 61 5 (.slice al i cl) i (hunkCells hv) ∧ Frame base w w2 (fun g => bl ≤ g)) := ⟨hv2, hF2⟩
      clear K2 hv2 hF2 hCe
      go_cut [6] (fun s6 wx => s6 = .pointer (some ⟨xb, 0, none⟩) ∧ ((∀ g, g < w2.heap.size → wx.heap[g]? = w2.heap[g]?) ∧ Outs w2 wx) ∧ wx.heap[xb]? = some (.cells #[.int .i64 (-(C : Int)), .int .i64 0, .int .i64 (C : Int), .int .i64 0, .slice none 0 0] 61 (0, 0)) ∧ wx.heap.size = xb + 1)
      case first =>
        go_region
        all_goals
          go_wp2_with fail
          go_meet
          case rel => exact ⟨by rw [← hxbE, hz2], ⟨fun g hg => Below.heap_alloc w2 _ g hg, (Outs.alloc w2 _).trans (Outs.drew _)⟩, by rw [← hxbE]; exact heap_alloc_new w2 _, by rw [← hxbE]; simp⟩
      case rest =>
        obtain ⟨rfl, ⟨hw3, hO3⟩, hxb, hz3⟩ := hcut
        obtain ⟨w3, rfl⟩ : ∃ w3, w3 = wc := ⟨_, rfl⟩
        have hv3 : w3.ownsRow bl 61 5 (.slice al i cl) i (hunkCells hv) := owns_same hv2H.out.1 fun g hg => hw3 g (hv2H.out.1.lt g hg).2
        have hgx : Hid (∀ g, (Value.slice al i cl).ownBlock = some g → g < xb) := fun g hg => by have := (hv2H.out.1.lt g hg).2; omega
        have hv0 : Hid (∀ g, (Value.slice al i cl).ownBlock = some g → ∃ cur fr, w3.heap[g]? = some (.cells cur 61 fr)) := fun g hg => by
          obtain ⟨c, hc⟩ := owns_block hv3 hg
          exact ⟨c, _, hc⟩
        have K3H : Hid (Kept base wb { x1 with c := C } B1 w3) := K2H.out.old hw3
        have hF3 : Hid (Frame base w w3 (fun g => bl ≤ g)) := (hv2H.out.2.trans (s2 := fun _ => False) ⟨by omega, fun g hg => .inl (hw3 g hg), hO3⟩).mono fun g _ h => h.elim id False.elim
        have hfresh : Hid (∀ p ∈ B1.h, p.1.ownBlock = none ∨ p.1.ownBlock ≠ (Value.slice al i cl).ownBlock) := fun p hp => by
          rw [hBH.out.1] at hp
          cases hq : p.1.ownBlock with
          | none => exact .inl rfl
          | some g =>
            right
            intro e
            have h1 := hfhH.out p hp g hq
            have h2 := hvbl.out g e.symm
            omega
        have hz23 : Hid (w.heap.size ≤ w3.heap.size ∧ w.heap.size ≤ xb) := ⟨by omega, by omega⟩
        have hbb : base ≤ xb ∧ bl ≤ xb := ⟨by omega, by omega⟩
        clear K2H hv2H hw3 hfhH c9 hz2 hxbE hwb2 hadr hap hlnH hzi hwbi hxcb hxcH
        generalize hunkCells hv = xs at *
        go_wp2_with fail
        go_loopg [7] i (fun g t7 wr => ∃ k : Nat, g = i - k ∧ k ≤ i ∧ t7 = .int .i64 k ∧ wr.ownsRow bl 61 5 (.slice al i cl) i (pats (patH (.int .i64 (C : Int))) k ++ xs.drop (k * 5)) ∧ Hid ((∀ g, some g ≠ (Value.slice al i cl).ownBlock → wr.heap[g]? = w3.heap[g]?) ∧ Outs w3 wr) ∧ wr.heap.size = xb + 1)
        case atStart => exact ⟨0, by omega, by omega, rfl, by simpa [pats] using hv3, ⟨fun g _ => rfl, Outs.refl _⟩, hz3⟩
        case round =>
          rename World => wr
          obtain ⟨k, hgk, hkn, rfl, hrow, hoth, hzr⟩ := hrel
          have hG3 : Hid (_ = i - k) := hgk
          clear hgk
          have hxr : wr.heap[xb]? = some (.cells #[.int .i64 (-(C : Int)), .int .i64 0, .int .i64 (C : Int), .int .i64 0, .slice none 0 0] 61 (0, 0)) := by
            rw [hoth.out.1 xb (fun e => by have := hgx.out xb e.symm; omega)]; exact hxb
          by_cases hk2 : k < i
          · have hkI : (k : Int) < i := by omega
            obtain ⟨g, rfl, hg, ⟨cur, hcur, hsz⟩, hrow2⟩ := owns_set5 hrow hxs.out hk2
            have c0 : wr.cell? ⟨g, k * 5, none⟩ = some (cur[k * 5]'(by omega)) := cell_of hcur (by simp)
            have c1 : wr.cell? ⟨g, k * 5 + 1, none⟩ = some (cur[k * 5 + 1]'(by omega)) := cell_of hcur (by simp)
            have c2 : wr.cell? ⟨g, k * 5 + 2, none⟩ = some (cur[k * 5 + 2]'(by omega)) := cell_of hcur (by simp)
            have c3 : wr.cell? ⟨g, k * 5 + 3, none⟩ = some (cur[k * 5 + 3]'(by omega)) := cell_of hcur (by simp)
            have c4 : wr.cell? ⟨g, k * 5 + 4, none⟩ = some (cur[k * 5 + 4]'hsz) := cell_of hcur (by simp)
            have fz : ∀ k, wr.frozen? ⟨g, k, none⟩ = false := fun k => frozen_of hcur
            have y0 : wr.cell? ⟨xb, 0, none⟩ = some (.int .i64 (-(C : Int))) := cell_of hxr rfl
            have y1 : wr.cell? ⟨xb, 1, none⟩ = some (.int .i64 0) := cell_of hxr rfl
            have y2 : wr.cell? ⟨xb, 2, none⟩ = some (.int .i64 (C : Int)) := cell_of hxr rfl
            have y3 : wr.cell? ⟨xb, 3, none⟩ = some (.int .i64 0) := cell_of hxr rfl
            have y4 : wr.cell? ⟨xb, 4, none⟩ = some (.slice none 0 0) := cell_of hxr rfl
            have hR : (∃ j : Nat, i - (k + 1) = i - j ∧ j ≤ i ∧ Value.int .i64 ((k : Int) + 1) = .int .i64 j ∧ (((((wr.setCell ⟨g, k * 5, none⟩ (.int .i64 (-(C : Int)))).setCell ⟨g, k * 5 + 1, none⟩ (.int .i64 0)).setCell ⟨g, k * 5 + 2, none⟩ (.int .i64 (C : Int))).setCell ⟨g, k * 5 + 3, none⟩ (.int .i64 0)).setCell ⟨g, k * 5 + 4, none⟩ (.slice none 0 0)).ownsRow bl 61 5 (.slice (some ⟨g, 0, none⟩) i cl) i (pats (patH (.int .i64 (C : Int))) j ++ xs.drop (j * 5)) ∧ Hid ((∀ g', some g' ≠ (Value.slice (some ⟨g, 0, none⟩) i cl).ownBlock → (((((wr.setCell ⟨g, k * 5, none⟩ (.int .i64 (-(C : Int)))).setCell ⟨g, k * 5 + 1, none⟩ (.int .i64 0)).setCell ⟨g, k * 5 + 2, none⟩ (.int .i64 (C : Int))).setCell ⟨g, k * 5 + 3, none⟩ (.int .i64 0)).setCell ⟨g, k * 5 + 4, none⟩ (.slice none 0 0)).heap[g']? = w3.heap[g']?) ∧ Outs w3 (((((wr.setCell ⟨g, k * 5, none⟩ (.int .i64 (-(C : Int)))).setCell ⟨g, k * 5 + 1, none⟩ (.int .i64 0)).setCell ⟨g, k * 5 + 2, none⟩ (.int .i64 (C : Int))).setCell ⟨g, k * 5 + 3, none⟩ (.int .i64 0)).setCell ⟨g, k * 5 + 4, none⟩ (.slice none 0 0))) ∧ (((((wr.setCell ⟨g, k * 5, none⟩ (.int .i64 (-(C : Int)))).setCell ⟨g, k * 5 + 1, none⟩ (.int .i64 0)).setCell ⟨g, k * 5 + 2, none⟩ (.int .i64 (C : Int))).setCell ⟨g, k * 5 + 3, none⟩ (.int .i64 0)).setCell ⟨g, k * 5 + 4, none⟩ (.slice none 0 0)).heap.size = xb + 1) := by
              refine ⟨k + 1, rfl, by omega, by push_cast; rfl, hrow2, ⟨fun g' hne => ?_, hoth.out.2.trans ((Outs.setCell _ _ _).trans ((Outs.setCell _ _ _).trans ((Outs.setCell _ _ _).trans ((Outs.setCell _ _ _).trans (Outs.setCell _ _ _)))))⟩, by simp; exact hzr⟩
              have hgg : g' ≠ g := fun e => hne (by rw [e]; rfl)
              rw [heap_setCell_other _ _ _ _ _ hgg, heap_setCell_other _ _ _ _ _ hgg, heap_setCell_other _ _ _ _ _ hgg, heap_setCell_other _ _ _ _ _ hgg, heap_setCell_other _ _ _ _ _ hgg]
              exact hoth.out.1 g' hne
            have hRH : Hid _ := hR
            clear hR hrow2 hrow hoth hcur hxr
            obtain ⟨O, hO⟩ : ∃ O, k * 5 = O := ⟨_, rfl⟩
            simp only [hO] at c0 c1 c2 c3 c4 hRH
            go_wp2_with fail
            go_roundg (i - (k + 1))
            · exact hRH.out
            · have := hG3.out; omega
          · obtain rfl : k = i := by omega
            have hkI : ¬ ((k : Int) < k) := by omega
            have hrow3 : wr.ownsRow bl 61 5 (.slice al k cl) k (pats (patH (.int .i64 (C : Int))) k) := by
              have h := hrow
              rw [List.drop_of_length_le (by rw [hxs.out]; exact Nat.le_refl _), List.append_nil] at h
              exact h
            have K3 : Kept base wb { x1 with c := C } B1 wr := Kept.skip_h (vb := (Value.slice al k cl).ownBlock) K3H.out (fun g hg _ => hv0.out g hg) (fun g hg hne => hoth.out.1 g hne) (fun p hp => .inl (hfresh.out p hp))
            have hFr : Frame base w wr (fun g => bl ≤ g) := by
              refine (hF3.out.trans (s2 := fun g => some g = (Value.slice al k cl).ownBlock) ⟨by omega, fun g hg => ?_, hoth.out.2⟩).mono fun g _ h => ?_
              · by_cases e : some g = (Value.slice al k cl).ownBlock
                · exact .inr (.inl e)
                · exact .inl (hoth.out.1 g e)
              · rcases h with h | h
                · exact h
                · exact hvbl.out g h.symm
            have hKH : Hid (Kept base wb { x1 with c := C } B1 wr ∧ Frame base w wr (fun g => bl ≤ g)) := ⟨K3, hFr⟩
            have hnx : Hid ((Value.slice al k cl).ownBlock ≠ some xb) := fun e => by have := hgx.out xb e; omega
            clear K3H K3 hFr hrow hoth hv3 hxb hF3 hv0 hgx hxs
            go_wp2_with fail
            go_loopg [4, 8] 4 (fun g t4 t8 wk => ∃ (j : Nat) (al' : Option Addr) (cl' : Nat) (x' : WV) (E : List (Value × Value)), g = 4 - j ∧ j ≤ 4 ∧ t8 = .int .i64 j ∧ t4 = .slice al' (k + j) cl' ∧ wk.ownsRow bl 61 5 (.slice al' (k + j) cl') (k + j) (pats (patH (.int .i64 (C : Int))) (k + j)) ∧ Kept base wb x' { B1 with h := B1.h ++ E } wk ∧ E.length = j ∧ x'.c = C ∧
              Hid ((∀ p ∈ E, p.2 = (.int .i64 (C : Int)) ∧ ∃ al m cl, p.1 = .slice al m cl ∧ m ≤ k + j ∧ ∀ a, al = some a → a = ⟨a.block, 0, none⟩) ∧ (∀ p ∈ B1.h, p.1.ownBlock = none ∨ p.1.ownBlock ≠ (Value.slice al' (k + j) cl').ownBlock) ∧ (Value.slice al' (k + j) cl').ownBlock ≠ some xb ∧ Frame base w wk (fun g => bl ≤ g)) ∧ wk.heap[xb]? = some (.cells #[.int .i64 (-(C : Int)), .int .i64 0, .int .i64 (C : Int), .int .i64 0, .slice none 0 0] 61 (0, 0)))
            case atStart => exact ⟨0, al, cl, { x1 with c := C }, [], rfl, by omega, rfl, rfl, hrow3, by simpa using hKH.out.1, rfl, rfl, ⟨by simp, hfresh.out, hnx.out, hKH.out.2⟩, hxr⟩
            case round =>
              rename World => wk
              obtain ⟨j, al', cl', x', E, hgj, hj4, rfl, rfl, hrowk, Kk, hEl, hxc, hH, hxk⟩ := hrel
              have hG2 : Hid (_ = 4 - j) := hgj
              have hxbk : xb < wk.heap.size := (Array.getElem?_eq_some_iff.1 hxk).1
              clear hgj hKH hnx hrow3 hxr hfresh
              by_cases hj2 : j < 4
              · have hjI : (j : Int) < 4 := by omega
                obtain ⟨N, hNe⟩ : ∃ N, (B1.h ++ E).length = N := ⟨_, rfl⟩
                have hNN : Hid ((B1.h ++ E).length = N) := hNe
                have hN : N ≤ 700000000004 := by
                  have h1 := hBH.out.1
                  rw [← hNe, List.length_append, hEl, h1]
                  omega
                have hwbk : wb < wk.heap.size := (Array.getElem?_eq_some_iff.1 Kk.blk).1
                have hzk := hH.out.2.2.2.1
                have hbk : base ≤ wk.heap.size := Nat.le_trans hbase hzk
                have hblk : bl ≤ wk.heap.size := Nat.le_trans hbl hzk
                have c2 : wk.cell? ⟨wb, 0, none⟩ = some x'.h := cell_of Kk.blk rfl
                have hor : wk.ownsRow base 30 1 x'.h N ((B1.h ++ E).map (·.1)) := by rw [← hNe]; exact Kk.h.row
                have hmar : wk.ownsRow base 3 1 x'.hm N ((B1.h ++ E).map (·.2)) := by rw [← hNe]; exact Kk.h.marks
                have hon1 : ∀ u ∈ [Value.slice al' (k + j) cl'], u.oneCell' = true := by intro u hu; simp at hu; subst hu; rfl
                have hon2 : ∀ u ∈ [Value.int .i64 (C : Int)], u.oneCell' = true := by intro u hu; simp at hu; subst hu; rfl
                have hon3 : ∀ u ∈ [Value.int .i64 (-(C : Int)), .int .i64 0, .int .i64 (C : Int), .int .i64 0, .slice none 0 0], u.oneCell' = true := by intro u hu; simp at hu; rcases hu with rfl | rfl | rfl | rfl | rfl <;> rfl
                have hm2 : (N + 1) * 24 ≤ 140737488355328 := by clear hxc; omega
                have hm3 : (N + 1) * 8 ≤ 140737488355328 := by clear hxc; omega
                have hm6 : k + j + 1 ≤ 1990 := Nat.le_trans (Nat.add_le_add_right (Nat.add_le_add hn (Nat.le_of_lt hj2)) 1) (by decide)
                have hm5 : (k + j + 1) * 56 ≤ 140737488355328 := Nat.le_trans (Nat.mul_le_mul_right 56 hm6) (by decide)
                have hm1 : N + 1 ≤ maxLen := Nat.le_trans (Nat.succ_le_succ hN) (by decide)
                have hm4 : k + j + 1 ≤ maxLen := Nat.le_trans hm6 (by decide)
                have hnr : Hid (x'.h.ownBlock ≠ some wb ∧ x'.hm.ownBlock ≠ some wb ∧ x'.h.ownBlock ≠ some xb ∧ x'.hm.ownBlock ≠ some xb ∧ ∀ g, x'.hm.ownBlock = some g → g ≠ wb ∧ some g ≠ x'.h.ownBlock) := by
                  refine ⟨fun e => ?_, fun e => ?_, fun e => ?_, fun e => ?_, fun g e => ⟨?_, fun e2 => ?_⟩⟩
                  · obtain ⟨c, hc⟩ := owns_block Kk.h.row e; exact block_ne hc Kk.blk (by decide) rfl
                  · obtain ⟨c, hc⟩ := owns_block Kk.h.marks e; exact block_ne hc Kk.blk (by decide) rfl
                  · obtain ⟨c, hc⟩ := owns_block Kk.h.row e; exact block_ne hc hxk (by decide) rfl
                  · obtain ⟨c, hc⟩ := owns_block Kk.h.marks e; exact block_ne hc hxk (by decide) rfl
                  · obtain ⟨c, hc⟩ := owns_block Kk.h.marks e; exact block_ne hc Kk.blk (by decide)
                  · obtain ⟨c, hc⟩ := owns_block Kk.h.marks e; obtain ⟨c2, hc2⟩ := owns_block Kk.h.row e2.symm; exact block_ne hc hc2 (by decide) rfl
                have hA : Hid (∀ (ob : Obj) (wA : World), (wk.alloc ob).grownBy wA x'.h.ownBlock → wA.heap[wb]? = some x'.obj ∧ wA.ownsRow base 3 1 x'.hm N ((B1.h ++ E).map (·.2)) ∧ wk.heap.size ≤ wA.heap.size) := by
                  intro ob wA g1
                  have k1 : ∀ g, g < wk.heap.size → some g ≠ x'.h.ownBlock → wA.heap[g]? = wk.heap[g]? := fun g hg hne => by
                    rw [g1.block g (by simp; omega) hne]; exact Below.heap_alloc wk ob g hg
                  have z1 := g1.size
                  simp at z1
                  exact ⟨(k1 wb hwbk (fun e => hnr.out.1 e.symm)).trans Kk.blk, owns_same hmar fun g hg => k1 g (Kk.h.marks.lt g hg).2 (hnr.out.2.2.2.2 g hg).2, by omega⟩
                have hM : Hid (Mark 61 5 (patH (.int .i64 (C : Int))) wk (.slice al' (k + j) cl')) := Mark.of_owns (pat := patH (.int .i64 (C : Int))) hrowk (Nat.le_refl _) (Nat.le_trans (Nat.le_succ _) (Nat.le_trans hm6 (by decide))) rfl (owns_addrl hrowk)
                have hKH : Hid (Kept base wb x' { B1 with h := B1.h ++ E } wk) := Kk
                have hrH : Hid (wk.ownsRow bl 61 5 (.slice al' (k + j) cl') (k + j) (pats (patH (.int .i64 (C : Int))) (k + j))) := hrowk
                have haddr : Hid (∀ a, al' = some a → a = ⟨a.block, 0, none⟩) := owns_addrl hrowk
                have hfzk : ∀ k, wk.frozen? ⟨wb, k, none⟩ = false := fun k => frozen_of Kk.blk
                have hxkH : Hid (wk.heap[xb]? = some (.cells #[.int .i64 (-(C : Int)), .int .i64 0, .int .i64 (C : Int), .int .i64 0, .slice none 0 0] 61 (0, 0))) := hxk
                have hxcH : Hid (x'.c = C) := hxc
                have hElH : Hid (E.length = j) := hEl
                clear Kk hrowk hxk hNe hxc hEl hN
                go_wp2_with (at_builtin; refine wpList_append_own2 rfl (.tmp 60) (.tmp 62) 50 rfl base 30 i0 _ 1 24 Tryz.underlying50 hi ix0 ix1 ix2 rfl (by decide) x'.h N ((B1.h ++ E).map (·.1)) rfl (hor.alloc _) ⟨wk.heap.size, 0, none⟩ 1 1 [.slice al' (k + j) cl'] rfl rfl (cells_new wk _ _) hon1 hm1 hm2 (by simp; omega) ?_; intro v1 wA o1 g1 n1; obtain ⟨a1, c1, rfl⟩ := owns_isSlice o1; obtain ⟨bA, mA, zA⟩ := hA.out _ wA g1; have cA : wA.cell? ⟨wb, 0, none⟩ = some x'.h := cell_of bA rfl; have fA : ∀ k, wA.frozen? ⟨wb, k, none⟩ = false := fun k => frozen_of bA; have o1H : Hid _ := o1; have g1H : Hid _ := g1; clear o1 g1 n1)
                obtain ⟨U, hUe⟩ : ∃ U, wA.setCell ⟨wb, 0, none⟩ (.slice a1 (N + 1) c1) = U := ⟨_, rfl⟩
                have bU : U.heap[wb]? = some ({ x' with h := .slice a1 (N + 1) c1 } : WV).obj := by rw [← hUe, heap_setCell_same _ _ _ _ _ _ _ bA]; rfl
                have mU : U.ownsRow base 3 1 x'.hm N ((B1.h ++ E).map (·.2)) := by rw [← hUe]; exact owns_same mA fun g hg => heap_setCell_other _ _ _ _ _ (hnr.out.2.2.2.2 g hg).1
                have zU : wk.heap.size ≤ U.heap.size := by rw [← hUe]; simpa using zA
                have d1 : U.cell? ⟨wb, 1, none⟩ = some x'.hm := cell_of bU rfl
                have d8 : U.cell? ⟨wb, 8, none⟩ = some (.int .i64 (C : Int)) := by rw [← hxcH.out]; exact cell_of bU rfl
                have dfz : ∀ k, U.frozen? ⟨wb, k, none⟩ = false := fun k => frozen_of bU
                have hwbU : wb < U.heap.size := Nat.lt_of_lt_of_le hwbk zU
                have hbs : ∀ ob, base ≤ ((U.alloc ob).drew).heap.size := by intro ob; simp; exact Nat.le_trans (Nat.le_trans hbk zU) (Nat.le_succ _)
                have mUd : ((U.alloc (.cells #[.int .i64 (C : Int)] 3)).drew).ownsRow base 3 1 x'.hm N ((B1.h ++ E).map (·.2)) := mU.alloc _
                have hcn : ∀ (j : Nat) (u : Value), [Value.int .i64 (C : Int)][j]? = some u → ((U.alloc (.cells #[.int .i64 (C : Int)] 3)).drew).cell? ((⟨U.heap.size, 0, none⟩ : Addr).add j) = some u := cells_new U [.int .i64 (C : Int)] 3
                have hY : Hid (∀ (ob : Obj) (w3 : World), ((U.alloc ob).drew).grownBy w3 x'.hm.ownBlock → w3.heap[wb]? = U.heap[wb]?) := by
                  intro ob w3 g2
                  rw [g2.block wb (by simp; exact Nat.lt_of_lt_of_le hwbU (Nat.le_succ _)) (fun e => hnr.out.2.1 e.symm)]
                  exact Below.heap_alloc U ob wb hwbU
                have hpush : Hid (∀ (ob : Obj) (v2 : Value) (w3 : World), ((U.alloc ob).drew).grownBy w3 x'.hm.ownBlock → w3.ownsRow base 3 1 v2 (N + 1) ((B1.h ++ E).map (·.2) ++ [(.int .i64 (C : Int))]) → (v2.ownBlock = x'.hm.ownBlock ∨ ∀ g, v2.ownBlock = some g → ((U.alloc ob).drew).heap.size ≤ g) →
                    ∃ x2 : WV, Kept base wb x2 { B1 with h := B1.h ++ (E ++ [(.slice al' (k + j) cl', (.int .i64 (C : Int)))]) } (w3.setCell ⟨wb, 1, none⟩ v2) ∧ x2.c = x'.c ∧ Frame base wk (w3.setCell ⟨wb, 1, none⟩ v2) (fun _ => False)) := by
                  intro ob v2 w3 g2 o2 n2
                  obtain ⟨k1, k2⟩ := hKH.out.push_h (m := (.int .i64 (C : Int))) (v1 := .slice a1 (N + 1) c1) (v2 := v2) (w3 := w3) g1H.out (by show wA.ownsRow base 30 1 _ ((B1.h ++ E).length + 1) _; rw [hNN.out]; exact o1H.out) (by rw [hUe]; exact ⟨g2.os, g2.tape, g2.output, g2.size, g2.block⟩) (by show w3.ownsRow base 3 1 _ ((B1.h ++ E).length + 1) _; rw [hNN.out]; exact o2) (n2.imp id fun h g e => by have h1 := h g e; simp at h1; omega) hM.out ⟨fun _ => ⟨C, by omega, rfl⟩, fun h => absurd h (by decide)⟩
                  refine ⟨{ x' with h := .slice a1 (N + 1) c1, hm := v2 }, ?_, rfl, k2⟩
                  rw [← List.append_assoc]
                  exact k1
                clear bA mA zA cA fA
                rw [hUe]
                clear hUe o1H g1H bU hA hor c2 hfzk hmar
                go_cut [] (fun wx => ∃ x2 : WV, Kept base wb x2 { B1 with h := B1.h ++ (E ++ [(.slice al' (k + j) cl', (.int .i64 (C : Int)))]) } wx ∧ x2.c = x'.c ∧ Frame base wk wx (fun _ => False))
                case first =>
                  go_region_law (refine step_append_own rfl (.tmp 70) (.tmp 75) 25 rfl base 3 j0 _ 1 8 Tryz.underlying25 ji jx0 jx1 jx2 rfl (by decide) x'.hm N ((B1.h ++ E).map (·.2)) (by simp [Act.eval]) mUd ⟨U.heap.size, 0, none⟩ 1 1 [.int .i64 (C : Int)] (by simp [Act.eval]) rfl hcn hon2 hm1 hm3 (hbs _) ?_; intro v2 w3 o2 g2 n2; obtain ⟨a2, c2, rfl⟩ := owns_isSlice o2; have b3 := hY.out _ w3 g2; have e3 := (World.cell?_of_block (a := ⟨wb, 1, none⟩) b3).trans d1; have f3 := fun k => (World.frozen?_of_block (a := ⟨wb, k, none⟩) b3).trans (dfz k))
                  all_goals
                    have hR := hpush.out _ _ w3 g2 o2 n2
                    have hRH : Hid _ := hR
                    clear hR hpush hY g2 o2 n2
                    go_wp2_with fail
                    go_meet
                    case rel => exact hRH.out
                case rest =>
                  obtain ⟨x2, K4, hx2c, F4⟩ := hcut
                  obtain ⟨W4, rfl⟩ : ∃ W4, W4 = wc := ⟨_, rfl⟩
                  have hx4 : W4.heap[xb]? = some (.cells #[.int .i64 (-(C : Int)), .int .i64 0, .int .i64 (C : Int), .int .i64 0, .slice none 0 0] 61 (0, 0)) := (F4.at hxkH.out (by decide) (fun h => h)).trans hxkH.out
                  have row4 : W4.ownsRow bl 61 5 (.slice al' (k + j) cl') (k + j) (pats (patH (.int .i64 (C : Int))) (k + j)) := owns_same hrH.out fun g hg => by
                    obtain ⟨c, hc⟩ := owns_block hrH.out hg
                    exact F4.at hc (by decide) (fun h => h)
                  have hbl4 : bl ≤ W4.heap.size := Nat.le_trans hblk F4.1
                  have e0 : W4.cell? ⟨xb, 0, none⟩ = some (.int .i64 (-(C : Int))) := cell_of hx4 rfl
                  have e1 : W4.cell? ⟨xb, 1, none⟩ = some (.int .i64 0) := cell_of hx4 rfl
                  have e2 : W4.cell? ⟨xb, 2, none⟩ = some (.int .i64 (C : Int)) := cell_of hx4 rfl
                  have e3 : W4.cell? ⟨xb, 3, none⟩ = some (.int .i64 0) := cell_of hx4 rfl
                  have e4 : W4.cell? ⟨xb, 4, none⟩ = some (.slice none 0 0) := cell_of hx4 rfl
                  have hFin : Hid (∀ (ob : Obj) (v5 : Value) (w5 : World), w5.ownsRow bl 61 5 v5 (k + j + 1) (pats (patH (.int .i64 (C : Int))) (k + j) ++ [.int .i64 (-(C : Int)), .int .i64 0, .int .i64 (C : Int), .int .i64 0, .slice none 0 0]) → ((v5.ownBlock = (Value.slice al' (k + j) cl').ownBlock ∧ (W4.alloc ob).grownBy w5 (Value.slice al' (k + j) cl').ownBlock) ∨ ((∀ g, v5.ownBlock = some g → (W4.alloc ob).heap.size ≤ g) ∧ (W4.alloc ob).grownBy w5 none)) →
                      ∃ (j' : Nat) (al5 : Option Addr) (cl5 : Nat) (x5 : WV) (E5 : List (Value × Value)), 4 - (j + 1) = 4 - j' ∧ j' ≤ 4 ∧ Value.int .i64 ((j : Int) + 1) = .int .i64 j' ∧ v5 = .slice al5 (k + j') cl5 ∧ w5.ownsRow bl 61 5 (.slice al5 (k + j') cl5) (k + j') (pats (patH (.int .i64 (C : Int))) (k + j')) ∧ Kept base wb x5 { B1 with h := B1.h ++ E5 } w5 ∧ E5.length = j' ∧ x5.c = C ∧
                      Hid ((∀ p ∈ E5, p.2 = (.int .i64 (C : Int)) ∧ ∃ al m cl, p.1 = .slice al m cl ∧ m ≤ k + j' ∧ ∀ a, al = some a → a = ⟨a.block, 0, none⟩) ∧ (∀ p ∈ B1.h, p.1.ownBlock = none ∨ p.1.ownBlock ≠ (Value.slice al5 (k + j') cl5).ownBlock) ∧ (Value.slice al5 (k + j') cl5).ownBlock ≠ some xb ∧ Frame base w w5 (fun g => bl ≤ g)) ∧ w5.heap[xb]? = some (.cells #[.int .i64 (-(C : Int)), .int .i64 0, .int .i64 (C : Int), .int .i64 0, .slice none 0 0] 61 (0, 0))) := by
                    intro ob v5 w5 row5 h3
                    obtain ⟨q2, q3, q5, q6⟩ := hH.out
                    have hE2 : ∀ p ∈ E ++ [(Value.slice al' (k + j) cl', Value.int .i64 (C : Int))], p.2 = (.int .i64 (C : Int)) ∧ ∃ al m cl, p.1 = .slice al m cl ∧ m ≤ k + j ∧ ∀ a, al = some a → a = ⟨a.block, 0, none⟩ := by
                      intro p hp
                      rcases List.mem_append.1 hp with hp | hp
                      · exact q2 p hp
                      · rw [List.mem_singleton] at hp
                        subst hp
                        exact ⟨rfl, al', k + j, cl', rfl, Nat.le_refl _, haddr.out⟩
                    obtain ⟨s1, s2, s3, s4, s5⟩ := patch_step (ob := ob) (c := (C : Int)) K4 (Nat.le_of_succ_le hm6) row4 hE2 q3 row5 h3
                    obtain ⟨al5, cl5, rfl⟩ := owns_isSlice row5
                    have hFz := F4.1
                    have hold : (Value.slice al5 (k + j + 1) cl5).ownBlock = (Value.slice al' (k + j) cl').ownBlock ∨ ∀ g, (Value.slice al5 (k + j + 1) cl5).ownBlock = some g → W4.heap.size ≤ g := h3.imp (fun h => h.1) (fun h g e => by have := h.1 g e; simp at this; omega)
                    refine ⟨j + 1, al5, cl5, x2, _, rfl, hj2, by push_cast; rfl, rfl, s3, s1, by rw [List.length_append, hElH.out]; rfl, hx2c.trans hxcH.out, ⟨?_, s4, ?_, ?_⟩, ?_⟩
                    · intro p hp
                      obtain ⟨r1, al, m, cl, r2, r3, r4⟩ := hE2 p hp
                      exact ⟨r1, al, m, cl, r2, Nat.le_succ_of_le r3, r4⟩
                    · rcases hold with h | h
                      · have h' : (Value.slice al5 (k + (j + 1)) cl5).ownBlock = (Value.slice al' (k + j) cl').ownBlock := h
                        rw [h']; exact q5
                      · intro e
                        have := h xb e
                        omega
                    · have hF := (q6.trans F4).trans s2
                      refine hF.mono fun g hg h => ?_
                      rcases h with (h | h) | h
                      · exact h
                      · exact h.elim
                      · exact (row4.lt g h.symm).1
                    · rw [s5 xb (by omega) (fun e => q5 e.symm)]
                      exact hx4
                  clear hH hKH hM K4 F4 hnr hrH
                  go_wp2_with (at_builtin; refine wpList_append_own3 rfl (.tmp 79) (.tmp 81) 30 rfl bl 61 k0 _ 5 56 Tryz.underlying30 ki kx0 kx1 kx2 rfl (by decide) (.slice al' (k + j) cl') (k + j) (pats (patH (.int .i64 (C : Int))) (k + j)) rfl (row4.alloc _) ⟨W4.heap.size, 0, none⟩ 1 1 [.int .i64 (-(C : Int)), .int .i64 0, .int .i64 (C : Int), .int .i64 0, .slice none 0 0] rfl rfl (cells_new W4 _ _) hon3 hm4 hm5 (by simp; omega) ?_; intro v5 w5 row5 h3; have hR := hFin.out _ v5 w5 row5 h3; have hRH : Hid _ := hR; clear hR row5 h3)
                  go_roundg (4 - (j + 1))
                  · exact hRH.out
                  · have := hG2.out; omega
              · obtain rfl : j = 4 := by omega
                have hR : ∃ (x' : WV) (B' : Bk), Kept base wb x' B' wk ∧ B'.s = B.s ∧ B'.r = B.r ∧ B'.h.length = B.h.length + 4 ∧ B'.l.length = B.l.length + 4 * hv.length ∧ x'.c = x.c + hv.length + 1 ∧ Frame base w wk (fun g => bl ≤ g) := by
                  obtain ⟨r1, r2, r3, r4⟩ := hBH.out
                  exact ⟨x', { B1 with h := B1.h ++ E }, Kk, r2, r3, by show (B1.h ++ E).length = _; rw [List.length_append, hEl, r1], by rw [hnE.out]; exact r4, by rw [hxc, hnE.out]; exact hCH.out, hH.out.2.2.2⟩
                have hRH : Hid _ := hR
                clear hR Kk hH hrowk hxk
                go_wp2_with fail
                go_end0
                exact ⟨rfl, hRH.out⟩
end Go.Proofs.YtcclgodahlinbaaGreatDoor

namespace Go.Proofs.YtcclgodahlinbaaGreatDoor
open Go.RowKit Go Go.Shelf
attribute [local go_sem] Oper.semAt_some
set_option maxRecDepth 100000

theorem alloc4 (w : World) (A B C D : Obj) : let W := (((w.alloc A).alloc B).alloc C).alloc D
    W.heap.size = w.heap.size + 4 ∧ Below w.heap.size w W ∧ W.heap[w.heap.size]? = some A ∧ W.heap[w.heap.size + 1]? = some B ∧ W.heap[w.heap.size + 2]? = some C ∧ W.heap[w.heap.size + 3]? = some D := by
  intro W
  have e1 : (w.alloc A).heap.size = w.heap.size + 1 := by simp
  have e2 : ((w.alloc A).alloc B).heap.size = w.heap.size + 2 := by simp
  have e3 : (((w.alloc A).alloc B).alloc C).heap.size = w.heap.size + 3 := by simp
  refine ⟨by simp [W], ((((Below.refl _ w).alloc (Nat.le_refl _) A).alloc (by simp) B).alloc (by omega) C).alloc (by omega) D, ?_, ?_, ?_, ?_⟩
  · exact (Below.heap_alloc _ D _ (by omega)).trans ((Below.heap_alloc _ C _ (by omega)).trans ((Below.heap_alloc _ B _ (by omega)).trans (World.alloc_heap_new w A)))
  · have := World.alloc_heap_new (w.alloc A) B
    rw [e1] at this
    exact (Below.heap_alloc _ D _ (by omega)).trans ((Below.heap_alloc _ C _ (by omega)).trans this)
  · have := World.alloc_heap_new ((w.alloc A).alloc B) C
    rw [e2] at this
    exact (Below.heap_alloc _ D _ (by omega)).trans this
  · have := World.alloc_heap_new (((w.alloc A).alloc B).alloc C) D
    rw [e3] at this
    exact this

/-- the mark that a range over a function leaves -/
def markD (D : Nat) : Deferred := { target := .collected D, args := #[] }
def Marks (Ds : List Nat) (w : World) : Prop := Ds.Nodup ∧ ∀ D ∈ Ds, w.heap[D]? = some (.deferred (some []))

theorem range86 : List.range 86 = [0, 1, 2, 3, 4, 5, 6, 7, 8, 9, 10, 11, 12, 13, 14, 15, 16, 17, 18, 19, 20, 21, 22, 23, 24, 25, 26, 27, 28, 29, 30, 31, 32, 33, 34, 35, 36, 37, 38, 39, 40, 41, 42, 43, 44, 45, 46, 47, 48, 49, 50, 51, 52, 53, 54, 55, 56, 57, 58, 59, 60, 61, 62, 63, 64, 65, 66, 67, 68, 69, 70, 71, 72, 73, 74, 75, 76, 77, 78, 79, 80, 81, 82, 83, 84, 85] := by decide
theorem arr86 {A : Array Value} {x0 x1 x2 x3 x4 x6 x7 x8 x9 x10 x34 x35 : Value} (hz : A.size = 86) (h0 : A[0]? = some x0) (h1 : A[1]? = some x1) (h2 : A[2]? = some x2) (h3 : A[3]? = some x3) (h4 : A[4]? = some x4) (h6 : A[6]? = some x6) (h7 : A[7]? = some x7) (h8 : A[8]? = some x8) (h9 : A[9]? = some x9) (h10 : A[10]? = some x10) (h34 : A[34]? = some x34) (h35 : A[35]? = some x35) : ∃ u : Nat → Value, A = #[x0, x1, x2, x3, x4, u 5, x6, x7, x8, x9, x10, u 11, u 12, u 13, u 14, u 15, u 16, u 17, u 18, u 19, u 20, u 21, u 22, u 23, u 24, u 25, u 26, u 27, u 28, u 29, u 30, u 31, u 32, u 33, x34, x35, u 36, u 37, u 38, u 39, u 40, u 41, u 42, u 43, u 44, u 45, u 46, u 47, u 48, u 49, u 50, u 51, u 52, u 53, u 54, u 55, u 56, u 57, u 58, u 59, u 60, u 61, u 62, u 63, u 64, u 65, u 66, u 67, u 68, u 69, u 70, u 71, u 72, u 73, u 74, u 75, u 76, u 77, u 78, u 79, u 80, u 81, u 82, u 83, u 84, u 85] := by
  refine ⟨fun i => A.getD i undef, ?_⟩
  have e : A.toList = (List.range 86).map (fun i => A.getD i undef) := by
    apply List.ext_getElem
    · simp [hz]
    · intro i h1 h2
      simp at h1
      simp [Array.getD, h1]
  have f : ∀ i x, A[i]? = some x → A.getD i undef = x := by intro i x hx; rw [Array.getD_eq_getD_getElem?, hx]; rfl
  rw [range86] at e
  simp only [List.map_cons, List.map_nil] at e
  rw [f 0 _ h0, f 1 _ h1, f 2 _ h2, f 3 _ h3, f 4 _ h4, f 6 _ h6, f 7 _ h7, f 8 _ h8, f 9 _ h9, f 10 _ h10, f 34 _ h34, f 35 _ h35] at e
  exact Array.toList_inj.1 e

theorem alloc2 (w : World) (A B : Obj) : let W := (w.alloc A).alloc B
    W.heap.size = w.heap.size + 2 ∧ Below w.heap.size w W ∧ W.heap[w.heap.size]? = some A ∧ W.heap[w.heap.size + 1]? = some B := by
  intro W
  have e1 : (w.alloc A).heap.size = w.heap.size + 1 := by simp
  refine ⟨by simp [W], ((Below.refl _ w).alloc (Nat.le_refl _) A).alloc (by simp) B, ?_, ?_⟩
  · exact (Below.heap_alloc _ B _ (by omega)).trans (World.alloc_heap_new w A)
  · have := World.alloc_heap_new (w.alloc A) B
    rw [e1] at this
    exact this
theorem textL_sub (l : List ByteArray) (i n : Nat) : (textL ((l.drop i).take n)).length ≤ (textL l).length := by
  conv => rhs; rw [← List.take_append_drop i l, textL_append, List.length_append, ← List.take_append_drop n (l.drop i), textL_append, List.length_append]
  omega
theorem SewA.below {S : Nat} {vl : Value} {t : List UInt8} {en mv : Int} {w w' : World} (h : SewA S vl t en mv w) (hb : Below w.heap.size w w') : SewA S vl t en mv w' := by
  obtain ⟨ad, vb, h⟩ := h
  exact ⟨ad, vb, (hb.block S h.lt).trans h.blk, h.adr, owns_below h.own hb (fun k e => (h.own.lt k e).2)⟩
theorem SewA.grow {S : Nat} {vl : Value} {t : List UInt8} {en mv : Int} {W W' : World} {row : Option Nat} (h : SewA S vl t en mv W) (hg : W.grownBy W' row) (hr : ∀ r, row = some r → ∃ o : Obj, W.heap[r]? = some o ∧ o.isCells = false) : SewA S vl t en mv W' := by
  obtain ⟨ad, vb, h⟩ := h
  have hS : some S ≠ row := by
    intro e
    obtain ⟨o, ho, hc⟩ := hr S e.symm
    rw [h.blk] at ho; cases ho; cases hc
  refine ⟨ad, vb, (hg.block S h.lt hS).trans h.blk, h.adr, h.own.kept hg ?_⟩
  cases hb : vb.ownBlock with
  | none => exact .inl rfl
  | some g =>
    right
    intro e
    obtain ⟨cur, hc⟩ := owns_block h.own hb
    obtain ⟨o, ho, hn⟩ := hr g e.symm
    rw [hc] at ho; cases ho; cases hn
theorem others_grow {e : TypeId} {b : Option Nat} {w W W' : World} {row : Option Nat} (h : Lib.OthersKept e b w W) (hg : W.grownBy W' row) (hz : w.heap.size ≤ W.heap.size) (hr : ∀ r, row = some r → w.heap.size ≤ r) : Lib.OthersKept e b w W' := by
  intro k o hk hb ho
  have hl := (Array.getElem?_eq_some_iff.1 hk).1
  rw [hg.block k (by omega) (by intro e; have := hr k e.symm; omega)]
  exact h k o hk hb ho
theorem others_below {e : TypeId} {b : Option Nat} {w w' : World} (h : Below w.heap.size w w') : Lib.OthersKept e b w w' := fun k _ hk _ _ => (h.block k (Array.getElem?_eq_some_iff.1 hk).1).trans hk
theorem keeps_below {w w' : World} (h : Below w.heap.size w w') : KeepsOthers w w' := ⟨h.size, fun k _ hk _ => (h.block k (Array.getElem?_eq_some_iff.1 hk).1).trans hk⟩
theorem keeps_others {S : Nat} {w w' : World} {cs : Array Value} {t : TypeId} {fr : Nat × Nat} (hS : w.heap[S]? = some (.cells cs t fr)) (hz : w.heap.size ≤ w'.heap.size) (h : Lib.OthersKept 5 (some S) w w') : KeepsOthers w w' :=
  ⟨hz, fun k o hk hc => h k o hk (by intro e; cases e; rw [hS] at hk; cases hk; cases hc) (by rintro c z rfl; cases hc)⟩

theorem leaves_marks {fn : Func} {tmps : Array Value} {R : Ending → World → Prop} {n : Nat} {P : Program} (B : Nat) (G : World → Prop)
    (hG : ∀ W D, B ≤ D → G W → W.heap[D]? = some (.deferred (some [])) → G (W.putObj D (.deferred none))) (hfin : ∀ W, G W → ∃ v, (results fn tmps).run P W = .ok v W ∧ R (.returned v) W) :
    ∀ Ds W, Marks Ds W → (∀ D ∈ Ds, B ≤ D) → G W → LeavesInM Fence.wide n P fn tmps R (Ds.map markD) .returning W := by
  intro Ds
  induction Ds with
  | nil => intro W _ _ hg; exact hfin W hg
  | cons D Ds ih =>
    intro W hm hB hg
    have hD := hm.2 D (by simp)
    refine ⟨by simp, .inl ⟨D, _, rfl, run_takeDeferred hD, ih _ ⟨(List.nodup_cons.1 hm.1).2, fun D' h' => ?_⟩ (fun D' h' => hB D' (by simp [h'])) (hG W D (hB D (by simp)) hg hD)⟩⟩
    have hne : D' ≠ D := fun e => (List.nodup_cons.1 hm.1).1 (e ▸ h')
    rw [World.putObj_heap_other hne]
    exact hm.2 D' (by simp [h'])
/-- a hunk has been sewn in -/
def SewFin (S : Nat) (w : World) (vl : Value) (b6 : Nat) (st : SewS) (sm : SeamM) (W : World) : Prop :=
  SewA S vl st.t (st.en : Nat) st.mv W ∧ W.heap[b6]? = some (.cells #[.bool sm.done, .int .i64 sm.at', .int .i64 (sm.fz : Nat)] 63 (0, 0)) ∧ Below S w W ∧ Lib.OthersKept 5 (some S) w W
theorem SewFin.grow {S B : Nat} {w : World} {vl : Value} {b6 : Nat} {st : SewS} {sm : SeamM} {W W' : World} {row : Option Nat} (h : SewFin S w vl b6 st sm W) (hg : W.grownBy W' row)
    (hr : ∀ r, row = some r → B ≤ r ∧ ∃ o : Obj, W.heap[r]? = some o ∧ o.isCells = false) (hB : w.heap.size ≤ B) (hS : S < w.heap.size) : SewFin S w vl b6 st sm W' := by
  obtain ⟨h1, h2, h3, h4⟩ := h
  refine ⟨h1.grow hg (fun r e => (hr r e).2), ?_, h3.grown hg (by have := h3.size; omega) (fun k e => by have := (hr k e).1; omega), others_grow h4 hg h3.size (fun r e => by have := (hr r e).1; omega)⟩
  have hl := (Array.getElem?_eq_some_iff.1 h2).1
  rw [hg.block b6 hl ?_]
  · exact h2
  · intro e
    obtain ⟨_, o, ho, hc⟩ := hr b6 e.symm
    rw [h2] at ho; cases ho; cases hc
theorem SewA.setOther {S b o : Nat} {vl v : Value} {t : List UInt8} {en mv : Int} {w : World} {cs : Array Value} {ty : TypeId} {fr : Nat × Nat} (h : SewA S vl t en mv w) (hb : w.heap[b]? = some (.cells cs ty fr)) (ht : 5 ≠ ty) (hS : b ≠ S) : SewA S vl t en mv (w.setCell ⟨b, o, none⟩ v) :=
  let ⟨ad, vb, h⟩ := h
  ⟨ad, vb, (heap_setCell_other _ _ _ _ _ (fun e => hS e.symm)).trans h.blk, h.adr, h.own.kept (grownBy_setCell _ _ _ _) (.inr (owns_ne h.own hb ht))⟩
theorem others_set {e : TypeId} {b : Option Nat} {w W : World} {k o : Nat} {v : Value} (h : Lib.OthersKept e b w W) (hz : w.heap.size ≤ W.heap.size) (hk : w.heap.size ≤ k) : Lib.OthersKept e b w (W.setCell ⟨k, o, none⟩ v) :=
  others_grow h (grownBy_setCell _ _ _ _) hz (fun r e => by cases e; exact hk)

theorem sew_final {S : Nat} {w W W10 : World} {vl : Value} {t : List UInt8} {en : Nat} {mv : Int} {f : Nat} {Ds : List Nat} (hw7 : Below w.heap.size w W) (htag : ∃ cs, W.heap[S]? = some (.cells cs 76 (0, 0)))
    (hs : SewA S vl t (en : Int) mv W10) (m6 : W10.heap[w.heap.size + 2]? = some (.cells #[.bool false, .int .i64 0, .int .i64 0] 63 (0, 0))) (hb : Below S W W10) (jo : Lib.OthersKept 5 (some S) W W10) (hS : S < w.heap.size)
    (hm : ∀ D ∈ Ds, W.heap[D]? = some (.deferred (some []))) :
    let WF := (((W10.setCell ⟨w.heap.size + 1 + 1, 0, none⟩ (.bool true)).setCell ⟨w.heap.size + 1 + 1, 1, none⟩ (.int .i64 mv)).setCell ⟨w.heap.size + 1 + 1, 2, none⟩ (.int .i64 (f : Int))).drew
    KeepsOthers W WF ∧ SewFin S w vl (w.heap.size + 2) ⟨t, en, mv⟩ ⟨true, mv, f⟩ WF ∧ ∀ D ∈ Ds, WF.heap[D]? = some (.deferred (some [])) := by
  intro WF
  obtain ⟨cs7, hcs7⟩ := htag
  have n1 := heap_setCell_same W10 (w.heap.size + 2) 0 (.bool true) _ _ _ m6
  have n2 := heap_setCell_same (W10.setCell ⟨w.heap.size + 2, 0, none⟩ (.bool true)) (w.heap.size + 2) 1 (.int .i64 mv) _ _ _ n1
  have n3 := heap_setCell_same ((W10.setCell ⟨w.heap.size + 2, 0, none⟩ (.bool true)).setCell ⟨w.heap.size + 2, 1, none⟩ (.int .i64 mv)) (w.heap.size + 2) 2 (.int .i64 (f : Int)) _ _ _ n2
  have hz := hb.size
  have hz7 := hw7.size
  have hbw : Below S w W10 := (hw7.mono (by omega)).trans hb
  have how : Lib.OthersKept 5 (some S) w W10 := (others_below hw7).trans jo
  have hzz : w.heap.size ≤ W10.heap.size := by omega
  refine ⟨(((keeps_others hcs7 hz jo).trans (KeepsOthers.setCell _ _ _)).trans (KeepsOthers.setCell _ _ _)).trans ((KeepsOthers.setCell _ _ _).trans (KeepsOthers.drew _)), ⟨?_, n3, ?_, ?_⟩, ?_⟩
  · have h1 := hs.setOther (o := 0) (v := .bool true) m6 (by decide) (by omega)
    have h2 := h1.setOther (o := 1) (v := .int .i64 mv) n1 (by decide) (by omega)
    have h3 := h2.setOther (o := 2) (v := .int .i64 (f : Int)) n2 (by decide) (by omega)
    exact h3.drew
  · exact (((hbw.setCell (p := ⟨w.heap.size + 1 + 1, 0, none⟩) (by show S ≤ w.heap.size + 1 + 1; omega) _).setCell (p := ⟨w.heap.size + 1 + 1, 1, none⟩) (by show S ≤ w.heap.size + 1 + 1; omega) _).setCell (p := ⟨w.heap.size + 1 + 1, 2, none⟩) (by show S ≤ w.heap.size + 1 + 1; omega) _).drew
  · exact others_set (others_set (others_set how hzz (by omega)) (by simpa using hzz) (by omega)) (by simpa using hzz) (by omega)
  · intro D hD
    have h1 := hm D hD
    have hDS : some D ≠ some S := by intro e; cases e; rw [hcs7] at h1; cases h1
    have h2 := jo D _ h1 hDS (by intro c z e; cases e)
    have hDb : D ≠ w.heap.size + 1 + 1 := by intro e; subst e; rw [m6] at h2; cases h2
    show (((W10.setCell ⟨w.heap.size + 1 + 1, 0, none⟩ (.bool true)).setCell ⟨w.heap.size + 1 + 1, 1, none⟩ (.int .i64 mv)).setCell ⟨w.heap.size + 1 + 1, 2, none⟩ (.int .i64 (f : Int))).heap[D]? = _
    rw [heap_setCell_other _ _ _ _ _ hDb, heap_setCell_other _ _ _ _ _ hDb, heap_setCell_other _ _ _ _ _ hDb]
    exact h2
theorem sew_leave {S : Nat} {w : World} {vl : Value} {st : SewS} {sm : SeamM} {tmps : Array Value} {Ds : List Nat} {W : World} (hfin : SewFin S w vl (w.heap.size + 2) st sm W) (hS : S < w.heap.size) (hM : Marks Ds W) (hB : ∀ D ∈ Ds, w.heap.size ≤ D)
    (hres : ∀ W : World, W.cell? ⟨w.heap.size + 1 + 1, 0, none⟩ = some (.bool sm.done) → W.cell? ⟨w.heap.size + 1 + 1, 1, none⟩ = some (.int .i64 sm.at') → W.cell? ⟨w.heap.size + 1 + 1, 2, none⟩ = some (.int .i64 (sm.fz : Nat)) → (results Tryz.f29 tmps).run Tryz.prog W = .ok (.agg #[.bool sm.done, .int .i64 sm.at', .int .i64 (sm.fz : Nat)]) W) :
    LeavesInM Fence.wide 9 Tryz.prog Tryz.f29 tmps (fun e w' => e = .returned (.agg #[.bool sm.done, .int .i64 sm.at', .int .i64 (sm.fz : Nat)]) ∧ SewA S vl st.t (st.en : Nat) st.mv w' ∧ Below S w w' ∧ Lib.OthersKept 5 (some S) w w') (Ds.map markD) .returning W := by
  refine leaves_marks w.heap.size (fun W => SewFin S w vl (w.heap.size + 2) st sm W) (fun W D hD hg hd => hg.grow (grownBy_putObj' W D _) (fun r e => by cases e; exact ⟨hD, _, hd, rfl⟩) (Nat.le_refl _) hS) (fun W hg => ?_) Ds W hM hB hfin
  obtain ⟨g1, g2, g3, g4⟩ := hg
  exact ⟨_, hres W (cell_of g2 rfl) (cell_of g2 rfl) (cell_of g2 rfl), rfl, g1, g3, g4⟩
theorem sewFrom_some {T : List ByteArray} {ei : Nat} {mv : Int} {h : HunkM} {f n : Nat} {x : Int} (hn : 0 < n) (hx : sewAt T ei mv h f = some x) : sewFrom T ei mv h f n = some (f, x) := by
  obtain ⟨m, rfl⟩ : ∃ m, n = m + 1 := ⟨n - 1, by omega⟩
  unfold sewFrom; rw [hx]
theorem sewFrom_none {T : List ByteArray} {ei : Nat} {mv : Int} {h : HunkM} {f n : Nat} (hx : sewAt T ei mv h f = none) : sewFrom T ei mv h f (n + 1) = sewFrom T ei mv h (f + 1) n := by
  conv => lhs; unfold sewFrom
  rw [hx]
theorem sew_none {S : Nat} {w W : World} {vl : Value} {s : SewS} (hS : S < w.heap.size) (hs : SewA S vl s.t (s.en : Nat) s.mv W) (m6 : W.heap[w.heap.size + 2]? = some (.cells #[.bool false, .int .i64 0, .int .i64 0] 63 (0, 0))) (hb : Below w.heap.size w W) :
    SewFin S w vl (w.heap.size + 2) s ⟨false, 0, 0⟩ (((W.setCell ⟨w.heap.size + 1 + 1, 0, none⟩ (.bool false)).setCell ⟨w.heap.size + 1 + 1, 1, none⟩ (.int .i64 0)).setCell ⟨w.heap.size + 1 + 1, 2, none⟩ (.int .i64 0)) := by
  have n1 := heap_setCell_same W (w.heap.size + 2) 0 (.bool false) _ _ _ m6
  have n2 := heap_setCell_same (W.setCell ⟨w.heap.size + 2, 0, none⟩ (.bool false)) (w.heap.size + 2) 1 (.int .i64 0) _ _ _ n1
  have n3 := heap_setCell_same ((W.setCell ⟨w.heap.size + 2, 0, none⟩ (.bool false)).setCell ⟨w.heap.size + 2, 1, none⟩ (.int .i64 0)) (w.heap.size + 2) 2 (.int .i64 0) _ _ _ n2
  have hbw : Below S w W := hb.mono (by omega)
  have how : Lib.OthersKept 5 (some S) w W := others_below hb
  have hzz := hb.size
  refine ⟨?_, n3, ?_, ?_⟩
  · have h1 := hs.setOther (o := 0) (v := .bool false) m6 (by decide) (by omega)
    have h2 := h1.setOther (o := 1) (v := .int .i64 0) n1 (by decide) (by omega)
    exact h2.setOther (o := 2) (v := .int .i64 0) n2 (by decide) (by omega)
  · exact ((hbw.setCell (p := ⟨w.heap.size + 1 + 1, 0, none⟩) (by show S ≤ w.heap.size + 1 + 1; omega) _).setCell (p := ⟨w.heap.size + 1 + 1, 1, none⟩) (by show S ≤ w.heap.size + 1 + 1; omega) _).setCell (p := ⟨w.heap.size + 1 + 1, 2, none⟩) (by show S ≤ w.heap.size + 1 + 1; omega) _
  · exact others_set (others_set (others_set how hzz (by omega)) (by simpa using hzz) (by omega)) (by simpa using hzz) (by omega)
end Go.Proofs.YtcclgodahlinbaaGreatDoor

namespace Go.Proofs.YtcclgodahlinbaaGreatDoor
open Go.RowKit Go Go.Shelf
attribute [local go_sem] Oper.semAt_some
set_option maxRecDepth 100000

set_option maxHeartbeats 2000000 in
theorem sew_any {S : Nat} {s : SewS} {w : World} {al : Option Addr} {cl : Nat} {T : List ByteArray} {h : HunkM} {a : Option Addr} {c fz : Nat}
    (hs : SewA S (.slice al T.length cl) s.t (s.en : Nat) s.mv w) (hT : RowS w (.slice al T.length cl) T) (hl : StepsAt w.heap.size w (.slice a h.lines.length c) h.lines)
    (hk : ∀ x ∈ h.lines, x.kind = 32 ∨ x.kind = 45 ∨ x.kind = 43) (hL : h.lines.length ≤ 1000) (hfr : h.fr ≤ 40000) (hfc : min h.fc 1 ≤ h.fr) (hTl : T.length ≤ 40000) (hmv : -50000 ≤ s.mv ∧ s.mv ≤ 50000)
    (hlen : s.t.length + (textL T).length + (textL (Dn.newOf h.lines)).length ≤ 50000000) (hfz : fz ≤ 1000) :
    Calls Tryz.prog 29 #[.pointer (some ⟨S, 0, none⟩), hunkVal h (.slice a h.lines.length c), .int .i64 (fz : Int)] w fun e w' =>
      e = .returned (.agg #[.bool (sewM T s h fz).2.done, .int .i64 (sewM T s h fz).2.at', .int .i64 (sewM T s h fz).2.fz]) ∧ SewA S (.slice al T.length cl) (sewM T s h fz).1.t ((sewM T s h fz).1.en : Nat) (sewM T s h fz).1.mv w' ∧ Below S w w' ∧ Lib.OthersKept 5 (some S) w w' := by
  have hp := fun w => placeOf_any h.fr h.fc w (by omega) hfc
  refine (callsIn_wide (n := 9)).1 (callsIn_of_wp_marks Tryz.func29 rfl trivial (wpIn_wide.2 ?_) rfl)
  simp only [Tryz.ntmps29, List.size_toArray, List.length_cons, List.length_nil, Nat.reduceAdd, Nat.reduceSub, Array.replicate_succ, Array.replicate_zero, List.push_toArray, List.append_toArray, List.nil_append, List.cons_append]
  go_wp2_with (go_at_call 59; refine (hp _).mono ?_; rintro e w' ⟨rfl, rfl⟩)
  obtain ⟨z1, b1, k3, k4, k6, k7⟩ := alloc4 w (.cells #[.pointer (some ⟨S, 0, none⟩)] 123) (.cells #[.int .i64 (h.fr : Int), .int .i64 (h.fc : Int), .int .i64 (h.tr : Int), .int .i64 (h.tc : Int), .slice a h.lines.length c] 61) (.cells #[.bool false, .int .i64 0, .int .i64 0] 63) (.cells #[.int .i64 (placeM h.fr h.fc : Nat)] 3)
  generalize (((w.alloc (.cells #[.pointer (some ⟨S, 0, none⟩)] 123)).alloc (.cells #[.int .i64 (h.fr : Int), .int .i64 (h.fc : Int), .int .i64 (h.tr : Int), .int .i64 (h.tc : Int), .slice a h.lines.length c] 61)).alloc (.cells #[.bool false, .int .i64 0, .int .i64 0] 63)).alloc (.cells #[.int .i64 (placeM h.fr h.fc : Nat)] 3) = W1 at z1 b1 k3 k4 k6 k7 ⊢
  have hl1 : StepsAt W1.heap.size W1 (.slice a h.lines.length c) h.lines := (hl.below b1).mono b1.size
  refine (pieceOf_any hl1 hL hk).mono ?_
  rintro e w2 ⟨vo, vf, rfl, ho, hf, b2⟩
  have hz2 := b2.size
  obtain ⟨ao, co, rfl⟩ := owns_isSlice ho
  obtain ⟨af, cf, rfl⟩ := owns_isSlice hf
  have hro := RowS.of_owns ho
  have hrf := RowS.of_owns hf
  clear ho hf
  have c4 : w2.cell? ⟨w.heap.size + 1, 4, none⟩ = some (.slice a h.lines.length c) := (b2.cell (p := ⟨w.heap.size + 1, 4, none⟩) (by show w.heap.size + 1 < _; omega)).trans (cell_of k4 rfl)
  have hne1 : w.heap.size + 1 < w2.heap.size := by omega
  have c4' := fun ob => (World.cell?_of_block (a := ⟨w.heap.size + 1, 4, none⟩) (Below.heap_alloc w2 ob (w.heap.size + 1) hne1)).trans c4
  go_wp2_with fail
  have hW2b := b2.alloc b2.size (.cells #[.slice ao (Dn.oldOf h.lines).length co, .slice af (Dn.newOf h.lines).length cf] 125)
  have k8 := heap_alloc_new w2 (.cells #[.slice ao (Dn.oldOf h.lines).length co, .slice af (Dn.newOf h.lines).length cf] 125)
  have hro2 := hro.alloc (.cells #[.slice ao (Dn.oldOf h.lines).length co, .slice af (Dn.newOf h.lines).length cf] 125)
  have hrf2 := hrf.alloc (.cells #[.slice ao (Dn.oldOf h.lines).length co, .slice af (Dn.newOf h.lines).length cf] 125)
  have z2 : (w2.alloc (.cells #[.slice ao (Dn.oldOf h.lines).length co, .slice af (Dn.newOf h.lines).length cf] 125)).heap.size = w2.heap.size + 1 := by simp
  generalize w2.alloc (.cells #[.slice ao (Dn.oldOf h.lines).length co, .slice af (Dn.newOf h.lines).length cf] 125) = W2 at hW2b k8 hro2 hrf2 z2 ⊢
  have hl2 : StepsAt W2.heap.size W2 (.slice a h.lines.length c) h.lines := (hl1.below hW2b).mono hW2b.size
  refine (keeps_any hl2 hL).mono ?_
  rintro e w3 ⟨rfl, b3⟩
  have hz3 := b3.size
  obtain ⟨hks1, hks2⟩ := keeps_sum_all h.lines
  have hkl := keepsK_le h.lines h.lines.length
  have hB8 : w2.heap.size < W2.heap.size := by omega
  -- the boxes, where the loop begins
  have hb03 : Below W1.heap.size W1 w3 := hW2b.trans (b3.mono (by omega))
  have k3' := (hb03.block w.heap.size (by omega)).trans k3
  have k6' := (hb03.block (w.heap.size + 2) (by omega)).trans k6
  have k7' := (hb03.block (w.heap.size + 3) (by omega)).trans k7
  have k8' := (b3.block w2.heap.size hB8).trans k8
  have hro3 := hro2.below b3
  have hrf3 := hrf2.below b3
  have hbw : Below w.heap.size w w3 := b1.trans (hb03.mono (by omega))
  clear hro hrf hro2 hrf2 k3 k4 k6 k7 k8 c4 b3 hl1 hl2 hW2b hb03 b1 b2
  go_wp2_with fail
  have hN : (min (fz : Int) (max ((keepsK h.lines h.lines.length).1 : Int) ((keepsK h.lines h.lines.length).2.1 : Int)) + 1) = ((sewRounds h fz : Nat) : Int) := by unfold sewRounds; omega
  rw [hN]
  have hN2 : Hid (sewRounds h fz = min fz (max (keepsK h.lines h.lines.length).1 (keepsK h.lines h.lines.length).2.1) + 1) := rfl
  have hF2 : Hid (sewFind T s.en s.mv h fz = sewFrom T s.en s.mv h 0 (sewRounds h fz)) := rfl
  have hAt : Hid (∀ f, sewAt T s.en s.mv h f = (aroundL ((placeM h.fr h.fc : Nat) + s.mv) T.length).find? fun x => standM T s.en (pieceO h.lines f) (x + (min f (keepsK h.lines h.lines.length).1 : Nat))) := fun _ => rfl
  have hpo : Hid (∀ f, pieceO h.lines f = ((Dn.oldOf h.lines).drop (min f (keepsK h.lines h.lines.length).1)).take ((Dn.oldOf h.lines).length - min f (keepsK h.lines h.lines.length).2.1 - min f (keepsK h.lines h.lines.length).1)) := fun _ => rfl
  have hpf : Hid (∀ f, pieceF h.lines f = ((Dn.newOf h.lines).drop (min f (keepsK h.lines h.lines.length).1)).take ((Dn.newOf h.lines).length - min f (keepsK h.lines h.lines.length).2.1 - min f (keepsK h.lines h.lines.length).1)) := fun _ => rfl
  have hto : Hid (∀ f x, sewTo T s h f x = ⟨s.t ++ textL ((T.drop s.en).take ((x + (min f (keepsK h.lines h.lines.length).1 : Nat)).toNat - s.en)) ++ textL (pieceF h.lines f), (x + (min f (keepsK h.lines h.lines.length).1 : Nat)).toNat + (pieceO h.lines f).length, x - (placeM h.fr h.fc : Nat)⟩) := fun _ _ => rfl
  have hol := oldOf_len h.lines
  have hnl := newOf_len h.lines
  have hpl : placeM h.fr h.fc ≤ 40000 := by unfold placeM; split <;> omega
  generalize (keepsK h.lines h.lines.length).1 = F at hN hN2 hAt hpo hpf hto hks1 hks2 hkl ⊢
  generalize (keepsK h.lines h.lines.length).2.1 = G at hN hN2 hpo hpf hks1 hks2 hkl ⊢
  have hNb : sewRounds h fz ≤ 1001 := by have := hN2.out; omega
  generalize sewRounds h fz = N at hN hN2 hF2 hNb ⊢
  clear hN hN2 hp
  refine wp_loop_ghost_k (fun k a' w' => ∃ (f : Nat) (Ds : List Nat), k = N - f ∧ f ≤ N ∧ sewFrom T s.en s.mv h 0 N = sewFrom T s.en s.mv h f (N - f) ∧ a'.defers = Ds.map markD ∧ Marks Ds w' ∧ (∀ D ∈ Ds, w3.heap.size ≤ D) ∧ Below w3.heap.size w3 w' ∧ a'.tmps.size = 86 ∧
      a'.tmps[0]? = some (.pointer (some ⟨S, 0, none⟩)) ∧ a'.tmps[1]? = some (hunkVal h (.slice a h.lines.length c)) ∧ a'.tmps[2]? = some (.int .i64 (fz : Int)) ∧ a'.tmps[3]? = some (.pointer (some ⟨w.heap.size, 0, none⟩)) ∧ a'.tmps[4]? = some (.pointer (some ⟨w.heap.size + 1, 0, none⟩)) ∧ a'.tmps[6]? = some (.pointer (some ⟨w.heap.size + 1 + 1, 0, none⟩)) ∧ a'.tmps[7]? = some (.pointer (some ⟨w.heap.size + 1 + 1 + 1, 0, none⟩)) ∧ a'.tmps[8]? = some (.pointer (some ⟨w2.heap.size, 0, none⟩)) ∧ a'.tmps[9]? = some (.int .i64 (F : Int)) ∧ a'.tmps[10]? = some (.int .i64 (G : Int)) ∧ a'.tmps[34]? = some (.int .i64 (N : Int)) ∧ a'.tmps[35]? = some (.int .i64 (f : Int))) N ?_ ?_
  · exact ⟨0, [], by omega, by omega, by simp, rfl, ⟨List.nodup_nil, by simp⟩, by simp, Below.refl _ _, rfl, rfl, rfl, rfl, rfl, rfl, rfl, rfl, rfl, rfl, rfl, rfl, rfl⟩
  · rintro gk ⟨A, ds⟩ wr ⟨f, Ds, hgk, hfN, hsf, hds, hmk, hDs, hbel, hz86, e0, e1, e2, e3, e4, e6, e7, e8, e9, e10, e34, e35⟩ J K hJ hK
    obtain ⟨u, rfl⟩ := arr86 hz86 e0 e1 e2 e3 e4 e6 e7 e8 e9 e10 e34 e35
    clear e0 e1 e2 e3 e4 e6 e7 e8 e9 e10 e34 e35 hz86
    dsimp only at hds ⊢
    have hszr := hbel.size
    have hbw' : Below w.heap.size w wr := hbw.trans (hbel.mono (by omega))
    have c3 : wr.cell? ⟨w.heap.size, 0, none⟩ = some (.pointer (some ⟨S, 0, none⟩)) := cell_of ((hbel.block _ (by omega)).trans k3') rfl
    have c7 : wr.cell? ⟨w.heap.size + 1 + 1 + 1, 0, none⟩ = some (.int .i64 (placeM h.fr h.fc : Nat)) := cell_of ((hbel.block (w.heap.size + 3) (by omega)).trans k7') rfl
    have c80 : wr.cell? ⟨w2.heap.size, 0, none⟩ = some (.slice ao (Dn.oldOf h.lines).length co) := cell_of ((hbel.block _ (by omega)).trans k8') rfl
    have c81 : wr.cell? ⟨w2.heap.size, 1, none⟩ = some (.slice af (Dn.newOf h.lines).length cf) := cell_of ((hbel.block _ (by omega)).trans k8') rfl
    have hwr1 : w.heap.size + 3 < wr.heap.size := by omega
    have hwr2 : w2.heap.size < wr.heap.size := by omega
    have hwr3 : w.heap.size < wr.heap.size := by omega
    have hror := hro3.below hbel
    have hrfr := hrf3.below hbel
    have hz3' : Hid (W1.heap.size ≤ w2.heap.size ∧ W1.heap.size = w.heap.size + 4 ∧ W2.heap.size = w2.heap.size + 1 ∧ W2.heap.size ≤ w3.heap.size ∧ w3.heap.size ≤ wr.heap.size) := ⟨hz2, z1, z2, hz3, hszr⟩
    have hH : Hid (gk = N - f ∧ sewFrom T s.en s.mv h 0 N = sewFrom T s.en s.mv h f (N - f) ∧ ds = Ds.map markD) := ⟨hgk, hsf, hds⟩
    clear hgk hsf hds z1 z2 hz2 hz3 hszr
    by_cases hff : f < N
    · have hfI : (f : Int) < N := by omega
      have m1 : min (f : Int) F = ((min f F : Nat) : Int) := by omega
      have m2 : min (f : Int) G = ((min f G : Nat) : Int) := by omega
      go_wp2_with fail
      obtain ⟨z4, hb4, q11, q12⟩ := alloc2 wr (.cells #[.int .i64 (f : Int)] 3) (.cells #[.int .i64 ((min f F : Nat) : Int)] 3)
      generalize (wr.alloc (.cells #[.int .i64 (f : Int)] 3)).alloc (.cells #[.int .i64 ((min f F : Nat) : Int)] 3) = W4 at z4 hb4 q11 q12 ⊢
      have hwo := without_any (f := min f F) (l := min f G) (hror.below hb4) (hrfr.below hb4) (by omega) (by omega) (by omega) (by omega)
      rw [← hpo.out f, ← hpf.out f] at hwo
      have hpoL : (pieceO h.lines f).length ≤ 1000 := by rw [hpo.out f]; exact Nat.le_trans (List.length_take_le' _ _) (by rw [List.length_drop]; omega)
      have hpfT : (textL (pieceF h.lines f)).length ≤ (textL (Dn.newOf h.lines)).length := by rw [hpf.out f]; exact textL_sub _ _ _
      have hat := hAt.out f
      have hto2 := hto.out f
      have hAT : Hid (sewAt T s.en s.mv h f = (aroundL ((placeM h.fr h.fc : Nat) + s.mv) T.length).find? fun x => standM T s.en (pieceO h.lines f) (x + (min f F : Nat))) := hat
      have hTO : Hid (∀ x, sewTo T s h f x = ⟨s.t ++ textL ((T.drop s.en).take ((x + (min f F : Nat)).toNat - s.en)) ++ textL (pieceF h.lines f), (x + (min f F : Nat)).toNat + (pieceO h.lines f).length, x - (placeM h.fr h.fc : Nat)⟩) := hto2
      clear hat hto2 hto hAt hpo hpf m1 m2
      refine hwo.mono ?_
      clear hwo
      generalize pieceO h.lines f = po at hpoL hAT hTO ⊢
      generalize pieceF h.lines f = pf at hpfT hTO ⊢
      generalize hahd : min f F = ahd at q12 hAT hTO ⊢
      have hahd2 : ahd ≤ 1000 := by omega
      clear hahd
      rintro e w5 ⟨ao', co', af', cf', rfl, hro5, hrf5, hb5⟩
      have hz5 := hb5.size
      have hb45 : Below wr.heap.size wr w5 := hb4.trans (hb5.mono (by omega))
      generalize hPL : placeM h.fr h.fc = PL at *
      have hpl2 : PL ≤ 40000 := hpl
      have hPLh : Hid (placeM h.fr h.fc = PL) := hPL
      clear hPL hpl
      go_wp2_with fail
      have hb6 := hb45.alloc hb45.size (.cells #[.slice ao' po.length co', .slice af' pf.length cf'] 125)
      have z6 : (w5.alloc (.cells #[.slice ao' po.length co', .slice af' pf.length cf'] 125)).heap.size = w5.heap.size + 1 := by simp
      have q13 := heap_alloc_new w5 (.cells #[.slice ao' po.length co', .slice af' pf.length cf'] 125)
      have q11' := (Below.heap_alloc w5 (.cells #[.slice ao' po.length co', .slice af' pf.length cf'] 125) wr.heap.size (by omega)).trans ((hb5.block wr.heap.size (by omega)).trans q11)
      have q12' := (Below.heap_alloc w5 (.cells #[.slice ao' po.length co', .slice af' pf.length cf'] 125) (wr.heap.size + 1) (by omega)).trans ((hb5.block (wr.heap.size + 1) (by omega)).trans q12)
      have hro6 := hro5.alloc (.cells #[.slice ao' po.length co', .slice af' pf.length cf'] 125)
      have hrf6 := hrf5.alloc (.cells #[.slice ao' po.length co', .slice af' pf.length cf'] 125)
      generalize w5.alloc (.cells #[.slice ao' po.length co', .slice af' pf.length cf'] 125) = W6 at hb6 z6 q13 q11' q12' hro6 hrf6 ⊢
      have hw6 : Below w.heap.size w W6 := hbw'.trans (hb6.mono (by omega))
      have hs6 := hs.below hw6
      have hT6 := hT.below hw6
      obtain ⟨s0, s3, s4, sf⟩ := hs6.cells
      have d3 : W6.cell? ⟨w.heap.size, 0, none⟩ = some (.pointer (some ⟨S, 0, none⟩)) := (hb6.cell (p := ⟨w.heap.size, 0, none⟩) hwr3).trans c3
      have d7 : W6.cell? ⟨w.heap.size + 1 + 1 + 1, 0, none⟩ = some (.int .i64 (PL : Int)) := (hb6.cell (p := ⟨w.heap.size + 1 + 1 + 1, 0, none⟩) hwr1).trans c7
      have hx : IntKind.i64.wrap ((PL : Int) + s.mv) = (PL : Int) + s.mv := by rw [IntKind.wrap_i64]; omega
      refine wp_still_tail 11 mixed (by kernel_rfl) ?_
      simp only [List.take_succ_cons, List.take_zero, List.drop_succ_cons, List.drop_zero]
      repeat still_step
      refine wpStill_nil ?_
      go_wp2_with (go_at_call 63; refine (around_any ((PL : Int) + s.mv) T.length _).mono ?_; rintro e w7 ⟨rfl, rfl⟩)
      obtain ⟨z7, hb7, r1, r2⟩ := alloc2 W6 (.cells #[.int .i64 ((PL : Int) + s.mv)] 3) (.cells #[.int .i64 (T.length : Int)] 3)
      replace hb7 := hb7.drew
      have z7' : (((W6.alloc (.cells #[.int .i64 ((PL : Int) + s.mv)] 3)).alloc (.cells #[.int .i64 (T.length : Int)] 3)).drew).heap.size = W6.heap.size + 2 := z7
      have r1' : (((W6.alloc (.cells #[.int .i64 ((PL : Int) + s.mv)] 3)).alloc (.cells #[.int .i64 (T.length : Int)] 3)).drew).heap[W6.heap.size]? = _ := r1
      have r2' : (((W6.alloc (.cells #[.int .i64 ((PL : Int) + s.mv)] 3)).alloc (.cells #[.int .i64 (T.length : Int)] 3)).drew).heap[W6.heap.size + 1]? = _ := r2
      clear z7 r1 r2
      generalize ((W6.alloc (.cells #[.int .i64 ((PL : Int) + s.mv)] 3)).alloc (.cells #[.int .i64 (T.length : Int)] 3)).drew = W7 at z7' hb7 r1' r2' ⊢
      rw [z6] at r1' r2' z7'
      have hDs7 : ∀ D ∈ Ds, D < W7.heap.size := fun D hD => by have := (Array.getElem?_eq_some_iff.1 (hmk.2 D hD)).1; have := hb6.size; omega
      have hwz : w.heap.size ≤ W7.heap.size := by have := hw6.size; omega
      have hSw := hs.lt
      refine wpIn_wide.1 (wpIn_rangeFunc_ownF (F := Fence.wide) (n := 9) (α := Pl) rfl (by omega) (gf := 103) (lb := #[.pointer (some ⟨w5.heap.size + 1, 0, none⟩), .pointer (some ⟨w5.heap.size + 1 + 1, 0, none⟩)]) rfl trivial (enters_of Tryz.func103 (by kernel_rfl) rfl)
        (around_stops 8 (by omega) (w5.heap.size + 1) (w5.heap.size + 1 + 1) W7.heap.size T.length ((PL : Int) + s.mv) (by omega) (by omega) (by omega) (by omega) W7 (Nat.le_refl _) (cell_of r1' rfl) (cell_of r2' rfl)) belowK_t (belowK_b (Nat.le_refl _)) (Below.refl _ _) (fun _ => rfl)
        (fun pre W => Below W7.heap.size W7 W ∧ ∀ y ∈ vals pre, standM T s.en po (y + (ahd : Int)) = false)
        (fun c pre W => c = .ret ∧ ∃ pre' x, vals pre = pre' ++ [x] ∧ (∀ y ∈ pre', standM T s.en po (y + (ahd : Int)) = false) ∧ standM T s.en po (x + (ahd : Int)) = true ∧ SewFin S w (.slice al T.length cl) (w.heap.size + 2) (sewTo T s h f x) ⟨true, x - (PL : Int), f⟩ W ∧ ∀ D ∈ Ds, W.heap[D]? = some (.deferred (some [])))
        (OwnFrom.and (ownFrom_below (Nat.le_refl _) (Nat.le_refl _)) (ownFrom_pure _ _))
        (fun c pre A B row hI hg hr => by
          obtain ⟨e, pre', x, e1, e2, e3, e4, e5⟩ := hI
          exact ⟨e, pre', x, e1, e2, e3, e4.grow hg hr hwz hSw, fun D hD => (hg.block D (Array.getElem?_eq_some_iff.1 (e5 D hD)).1 (fun e => by have := (hr D e.symm).1; have := hDs7 D hD; omega)).trans (e5 D hD)⟩)
        ⟨Below.refl _ _, by simp [vals]⟩
        (fun x => { tmps := #[.pointer (some ⟨S, 0, none⟩), hunkVal h (.slice a h.lines.length c), .int .i64 (fz : Int), .pointer (some ⟨w.heap.size, 0, none⟩), .pointer (some ⟨w.heap.size + 1, 0, none⟩), u 5, .pointer (some ⟨w.heap.size + 1 + 1, 0, none⟩), .pointer (some ⟨w.heap.size + 1 + 1 + 1, 0, none⟩), .pointer (some ⟨w2.heap.size, 0, none⟩), .int .i64 (F : Int), .int .i64 (G : Int), .pointer (some ⟨wr.heap.size, 0, none⟩), .pointer (some ⟨wr.heap.size + 1, 0, none⟩), .pointer (some ⟨w5.heap.size, 0, none⟩), .int .i64 x.1, u 15, u 16, u 17, u 18, u 19, u 20, u 21, u 22, u 23, u 24, u 25, u 26, u 27, u 28, u 29, u 30, u 31, u 32, u 33, .int .i64 (N : Int), .int .i64 (f : Int), .bool true, .int .i64 (f : Int), .int .i64 (f : Int), .int .i64 (F : Int), .int .i64 (ahd : Int), .agg #[.slice ao (Dn.oldOf h.lines).length co, .slice af (Dn.newOf h.lines).length cf], .int .i64 (ahd : Int), .int .i64 (f : Int), .int .i64 (G : Int), .int .i64 ((min f G : Nat) : Int), .agg #[.slice ao' po.length co', .slice af' pf.length cf'], .int .i64 (PL : Int), .pointer (some ⟨S, 0, none⟩), .pointer (some ⟨S, 0, none⟩), .pointer (some ⟨S, 4, none⟩), .int .i64 s.mv, .int .i64 ((PL : Int) + s.mv), .pointer (some ⟨S, 0, none⟩), .pointer (some ⟨S, 0, none⟩), .pointer (some ⟨S, 0, none⟩), .slice al T.length cl, .int .i64 (T.length : Int), .func (.func 103) #[] #[.pointer (some ⟨w5.heap.size + 1, 0, none⟩), .pointer (some ⟨w5.heap.size + 1 + 1, 0, none⟩)], .int .i64 x.1, u 60, u 61, u 62, u 63, u 64, u 65, u 66, u 67, u 68, u 69, u 70, u 71, u 72, u 73, u 74, u 75, u 76, u 77, u 78, u 79, u 80, u 81, u 82, u 83, u 84, u 85], defers := [] }) ?assign ?body ?done ?stop)
      case assign =>
        intro l x W K hK
        gi_wp2
        exact hK
      case body =>
        rintro l pre x W ⟨hBW, hfalse⟩ _
        dsimp only
        have hb67 : Below W6.heap.size W6 W := hb7.trans (hBW.mono (by omega))
        have hw7 : Below w.heap.size w W := hw6.trans (hb67.mono (by omega))
        have hs7 := hs6.below hb67
        have hT7 := hT6.below hb67
        have ho7 := hro6.below hb67
        have hf7 := hrf6.below hb67
        have g3 := (hb67.block w.heap.size (by omega)).trans ((hb6.block w.heap.size hwr3).trans ((hbel.block _ (by have := hz3'.out; omega)).trans k3'))
        have g6 := (hb67.block (w.heap.size + 2) (by omega)).trans ((hb6.block (w.heap.size + 2) (by omega)).trans ((hbel.block _ (by have := hz3'.out; omega)).trans k6'))
        have g7 := (hb67.block (w.heap.size + 3) (by omega)).trans ((hb6.block (w.heap.size + 3) hwr1).trans ((hbel.block _ (by have := hz3'.out; omega)).trans k7'))
        have g11 := (hb67.block wr.heap.size (by omega)).trans q11'
        have g12 := (hb67.block (wr.heap.size + 1) (by omega)).trans q12'
        have g13 := (hb67.block w5.heap.size (by omega)).trans q13
        obtain ⟨cs7, hcs7⟩ := hs7.tag
        have hx1 := x.2.1
        have hx2 := x.2.2
        have hcan := canStand_any (at' := x.1 + (ahd : Int)) hs7 hT7 ho7 rfl ⟨af', pf.length, cf', rfl⟩ (by omega) ⟨by omega, by omega⟩
        have e3 : W.cell? ⟨w.heap.size, 0, none⟩ = some (.pointer (some ⟨S, 0, none⟩)) := cell_of g3 rfl
        have e12 : W.cell? ⟨wr.heap.size + 1, 0, none⟩ = some (.int .i64 (ahd : Int)) := cell_of g12 rfl
        have e130 : W.cell? ⟨w5.heap.size, 0, none⟩ = some (.slice ao' po.length co') := cell_of g13 rfl
        have e131 : W.cell? ⟨w5.heap.size, 1, none⟩ = some (.slice af' pf.length cf') := cell_of g13 rfl
        have xw : IntKind.i64.wrap (x.1 + (ahd : Int)) = x.1 + (ahd : Int) := by rw [IntKind.wrap_i64]; omega
        have hWz := hBW.size
        cases hst : standM T s.en po (x.1 + (ahd : Int)) with
        | false =>
          rw [hst] at hcan
          gi_wp2_with (refine ⟨trivial, ?_⟩; gi_at_call 64; refine (CallsIn.inRound l (callsIn_wide.2 hcan)).mono ?_; rintro e w8 ⟨rfl, hb8⟩)
          refine ⟨keeps_below hb8, hb8.mono hWz, hBW.trans (hb8.mono hWz), ?_⟩
          intro y hy
          rw [vals_append, List.mem_append] at hy
          rcases hy with hy | hy
          · exact hfalse y hy
          · simp [vals] at hy; rw [hy]; exact hst
        | true =>
          rw [hst] at hcan
          obtain ⟨st1, st2, _⟩ := of_decide_eq_true hst
          obtain ⟨kk, hkk⟩ : ∃ kk : Nat, x.1 + (ahd : Int) = kk := ⟨(x.1 + (ahd : Int)).toNat, by omega⟩
          have hH2 : Hid (standM T s.en po (x.1 + (ahd : Int)) = true ∧ (x.1 + (ahd : Int)).toNat = kk) := ⟨hst, by omega⟩
          have hput : Hid (∀ W8 : World, Below W.heap.size W W8 → Calls Tryz.prog 65 #[.pointer (some ⟨S, 0, none⟩), .agg #[.slice ao' po.length co', .slice af' pf.length cf'], .int .i64 (x.1 + (ahd : Int))] W8 fun e w' =>
              e = .returned (.tuple #[]) ∧ SewA S (.slice al T.length cl) (s.t ++ textL ((T.drop s.en).take (kk - s.en)) ++ textL pf) ((kk + po.length : Nat) : Int) s.mv w' ∧ Below S W8 w' ∧ Lib.OthersKept 5 (some S) W8 w') := by
            intro W8 hb8
            rw [hkk]
            exact put_sew (hs7.below hb8) (hT7.below hb8) (hf7.below hb8) rfl (by omega) (by omega) (by omega) (by omega) (by omega)
          have hmw : IntKind.i64.wrap (x.1 - (PL : Int)) = x.1 - (PL : Int) := by rw [IntKind.wrap_i64]; omega
          have e3h : Hid (∀ W8 : World, Below W.heap.size W W8 → W8.cell? ⟨w.heap.size, 0, none⟩ = some (.pointer (some ⟨S, 0, none⟩)) ∧ W8.cell? ⟨wr.heap.size + 1, 0, none⟩ = some (.int .i64 (ahd : Int)) ∧ W8.cell? ⟨w5.heap.size, 0, none⟩ = some (.slice ao' po.length co') ∧ W8.cell? ⟨w5.heap.size, 1, none⟩ = some (.slice af' pf.length cf')) := fun W8 hb8 =>
            ⟨(hb8.cell (p := ⟨w.heap.size, 0, none⟩) (Array.getElem?_eq_some_iff.1 g3).1).trans e3, (hb8.cell (p := ⟨wr.heap.size + 1, 0, none⟩) (Array.getElem?_eq_some_iff.1 g12).1).trans e12, (hb8.cell (p := ⟨w5.heap.size, 0, none⟩) (Array.getElem?_eq_some_iff.1 g13).1).trans e130, (hb8.cell (p := ⟨w5.heap.size, 1, none⟩) (Array.getElem?_eq_some_iff.1 g13).1).trans e131⟩
          have hS7 : S < W.heap.size := hs7.lt
          have hne : ∀ k, w.heap.size ≤ k → some k ≠ some S := fun k hk e => by cases e; omega
          have hkeep : Hid (∀ W8 w9 : World, Below W.heap.size W W8 → Lib.OthersKept 5 (some S) W8 w9 → w9.heap[w.heap.size]? = W.heap[w.heap.size]? ∧ w9.heap[w.heap.size + 2]? = W.heap[w.heap.size + 2]? ∧ w9.heap[w.heap.size + 3]? = W.heap[w.heap.size + 3]? ∧ w9.heap[wr.heap.size]? = W.heap[wr.heap.size]? ∧ Lib.OthersKept 5 (some S) W w9) := by
            intro W8 w9 hb8 ho9
            have ho := (others_below (e := 5) (b := some S) hb8).trans ho9
            refine ⟨?_, ?_, ?_, ?_, ho⟩
            · rw [g3]; exact ho _ _ g3 (hne _ (Nat.le_refl _)) (by intro c z e; injection e with _ e; exact absurd e (by decide))
            · rw [g6]; exact ho _ _ g6 (hne _ (by omega)) (by intro c z e; injection e with _ e; exact absurd e (by decide))
            · rw [g7]; exact ho _ _ g7 (hne _ (by omega)) (by intro c z e; injection e with _ e; exact absurd e (by decide))
            · rw [g11]; exact ho _ _ g11 (hne _ (by omega)) (by intro c z e; injection e with _ e; exact absurd e (by decide))
          clear hkk st1 st2 hst
          gi_wp2_with (first | (refine ⟨trivial, ?_⟩; gi_at_call 64; refine (CallsIn.inRound l (callsIn_wide.2 hcan)).mono ?_; clear hcan; rintro e w8 ⟨rfl, hb8⟩; obtain ⟨f3, f12, f130, f131⟩ := e3h.out w8 hb8) | (refine ⟨trivial, ?_⟩; gi_at_call 65; refine (CallsIn.inRound l (callsIn_wide.2 (hput.out w8 hb8))).mono ?_; rintro e w9 ⟨rfl, hs9, hb9, ho9⟩; obtain ⟨j3, j6, j7, j11, jo⟩ := hkeep.out w8 w9 hb8 ho9; have i3 : w9.cell? ⟨w.heap.size, 0, none⟩ = some (.pointer (some ⟨S, 0, none⟩)) := cell_of (j3.trans g3) rfl; have i7 : w9.cell? ⟨w.heap.size + 1 + 1 + 1, 0, none⟩ = some (.int .i64 (PL : Int)) := cell_of (j7.trans g7) rfl; have i11 : w9.cell? ⟨wr.heap.size, 0, none⟩ = some (.int .i64 (f : Int)) := cell_of (j11.trans g11) rfl; obtain ⟨t0, t3, t4, tf⟩ := hs9.cells))
          have hs10 := hs9.set4 (x.1 - (PL : Int))
          have jo10 := jo.setCell ⟨S, 4, none⟩ rfl (.int .i64 (x.1 - (PL : Int)))
          have hbS10 : Below S W (w9.setCell ⟨S, 4, none⟩ (.int .i64 (x.1 - (PL : Int)))) := ((hb8.mono (by omega)).trans hb9).setCell (p := ⟨S, 4, none⟩) (Nat.le_refl _) _
          have m3 := (heap_setCell_other w9 S w.heap.size 4 (.int .i64 (x.1 - (PL : Int))) (by omega)).trans (j3.trans g3)
          have m6 := (heap_setCell_other w9 S (w.heap.size + 2) 4 (.int .i64 (x.1 - (PL : Int))) (by omega)).trans (j6.trans g6)
          have m11 := (heap_setCell_other w9 S wr.heap.size 4 (.int .i64 (x.1 - (PL : Int))) (by omega)).trans (j11.trans g11)
          generalize w9.setCell ⟨S, 4, none⟩ (.int .i64 (x.1 - (PL : Int))) = W10 at hs10 jo10 hbS10 m3 m6 m11 ⊢
          clear i3 i7 i11 t0 t3 t4 tf
          have i3 : W10.cell? ⟨w.heap.size, 0, none⟩ = some (.pointer (some ⟨S, 0, none⟩)) := cell_of m3 rfl
          have i11 : W10.cell? ⟨wr.heap.size, 0, none⟩ = some (.int .i64 (f : Int)) := cell_of m11 rfl
          obtain ⟨t0, t3, t4, tf⟩ := hs10.cells
          have i60 : W10.cell? ⟨w.heap.size + 1 + 1, 0, none⟩ = some (.bool false) := cell_of m6 rfl
          have i61 : W10.cell? ⟨w.heap.size + 1 + 1, 1, none⟩ = some (.int .i64 0) := cell_of m6 rfl
          have i62 : W10.cell? ⟨w.heap.size + 1 + 1, 2, none⟩ = some (.int .i64 0) := cell_of m6 rfl
          have if6 : ∀ k, W10.frozen? ⟨w.heap.size + 1 + 1, k, none⟩ = false := fun k => frozen_of m6
          have hz10 := hbS10.size
          have hmk7 : ∀ D ∈ Ds, W.heap[D]? = some (.deferred (some [])) := fun D hD => by
            have h1 := hmk.2 D hD
            have h2 := (Array.getElem?_eq_some_iff.1 h1).1
            have h3 := hb6.size
            exact (hb67.block D (by omega)).trans ((hb6.block D h2).trans h1)
          have hfin := sew_final (f := f) hw7 hs7.tag hs10 m6 hbS10 jo10 (by omega) hmk7
          have hTO2 := hTO.out x.1
          rw [hH2.out.2] at hTO2
          have hpost : KeepsOthers W (((W10.setCell ⟨w.heap.size + 1 + 1, 0, none⟩ (.bool true)).setCell ⟨w.heap.size + 1 + 1, 1, none⟩ (.int .i64 (x.1 - (PL : Int)))).setCell ⟨w.heap.size + 1 + 1, 2, none⟩ (.int .i64 (f : Int))).drew ∧ (∃ pre' x', vals (pre ++ [x]) = pre' ++ [x'] ∧ (∀ y ∈ pre', standM T s.en po (y + (ahd : Int)) = false) ∧ standM T s.en po (x' + (ahd : Int)) = true ∧
              SewFin S w (.slice al T.length cl) (w.heap.size + 2) (sewTo T s h f x') ⟨true, x' - (PL : Int), f⟩ (((W10.setCell ⟨w.heap.size + 1 + 1, 0, none⟩ (.bool true)).setCell ⟨w.heap.size + 1 + 1, 1, none⟩ (.int .i64 (x.1 - (PL : Int)))).setCell ⟨w.heap.size + 1 + 1, 2, none⟩ (.int .i64 (f : Int))).drew ∧
              ∀ D ∈ Ds, (((W10.setCell ⟨w.heap.size + 1 + 1, 0, none⟩ (.bool true)).setCell ⟨w.heap.size + 1 + 1, 1, none⟩ (.int .i64 (x.1 - (PL : Int)))).setCell ⟨w.heap.size + 1 + 1, 2, none⟩ (.int .i64 (f : Int))).drew.heap[D]? = some (.deferred (some []))) :=
            ⟨hfin.1, vals pre, x.1, by rw [vals_append]; rfl, hfalse, hH2.out.1, by rw [hTO2]; exact hfin.2.1, hfin.2.2⟩
          have hP : Hid _ := hpost
          clear hpost hfin hTO2 hfalse hmk7
          have hmixed := mixed
          gi_region_o
          all_goals (gi_wp2; exact ⟨hP.out.1, rfl, hP.out.2⟩)
      case done =>
        rintro D xs W hD hS ⟨hBW, hfalse⟩ hDef
        have hb67 : Below W6.heap.size W6 W := hb7.trans (hBW.mono (by omega))
        have hbw3 : Below w3.heap.size w3 W := hbel.trans ((hb6.trans (hb67.mono (by have := hb6.size; omega))).mono (by have := hz3'.out; omega))
        have hnone : sewAt T s.en s.mv h f = none := by
          rw [hAT.out]
          exact find_none (fun y hy => hfalse y (by rw [hS]; exact hy))
        have hmk7 : ∀ D ∈ Ds, W.heap[D]? = some (.deferred (some [])) := fun D hD => by
          have h1 := hmk.2 D hD
          have h2 := (Array.getElem?_eq_some_iff.1 h1).1
          have h3 := hb6.size
          exact (hb67.block D (by omega)).trans ((hb6.block D h2).trans h1)
        have hM : Marks (D :: Ds) W := ⟨List.nodup_cons.2 ⟨fun hm => by have := hDs7 D hm; omega, hmk.1⟩, fun D' hD' => by
          rcases List.mem_cons.1 hD' with rfl | hD'
          · exact hDef
          · exact hmk7 D' hD'⟩
        have hH3 : Hid (Marks (D :: Ds) W ∧ sewFrom T s.en s.mv h 0 N = sewFrom T s.en s.mv h (f + 1) (N - (f + 1)) ∧ Below w3.heap.size w3 W ∧ ∀ D' ∈ D :: Ds, w3.heap.size ≤ D') := by
          refine ⟨hM, ?_, hbw3, ?_⟩
          · rw [hH.out.2.1, show N - f = (N - (f + 1)) + 1 by omega, sewFrom_none hnone]
          · intro D' hD'
            rcases List.mem_cons.1 hD' with rfl | hD'
            · have := hb6.size; have := hz3'.out; omega
            · exact hDs D' hD'
        clear hM hmk7 hnone hbw3 hfalse hS hDef
        have hfw : IntKind.i64.wrap ((f : Int) + 1) = (f : Int) + 1 := by rw [IntKind.wrap_i64]; omega
        go_wp2_with fail
        exact Handed.intro (N - (f + 1)) (by have := hH.out.1; omega) (hJ _ _ _ ⟨f + 1, D :: Ds, rfl, by omega, hH3.out.2.1, by rw [hH.out.2.2]; rfl, hH3.out.1, hH3.out.2.2.2, hH3.out.2.2.1, rfl, rfl, rfl, rfl, rfl, rfl, rfl, rfl, rfl, rfl, rfl, rfl, rfl⟩)
      case stop =>
        rintro D c pre W hD hSp ⟨rfl, pre', x, hv, hf', ht', hfin, hmks⟩ hDef
        have hsome : sewAt T s.en s.mv h f = some x := by
          rw [hAT.out]
          exact find_split (by rw [← hv]; exact hSp) hf' ht'
        have hsm : sewM T s h fz = (sewTo T s h f x, ⟨true, x - (PL : Int), f⟩) := by
          unfold sewM
          rw [hF2.out, hH.out.2.1, sewFrom_some (by omega) hsome]
          show (sewTo T s h f x, (⟨true, x - (placeM h.fr h.fc : Nat), f⟩ : SeamM)) = _
          rw [hPLh.out]
        have hM : Marks (D :: Ds) W := ⟨List.nodup_cons.2 ⟨fun hm => by have := hDs7 D hm; omega, hmk.1⟩, fun D' hD' => by
          rcases List.mem_cons.1 hD' with rfl | hD'
          · exact hDef
          · exact hmks D' hD'⟩
        have hH4 : Hid (SewFin S w (.slice al T.length cl) (w.heap.size + 2) (sewTo T s h f x) ⟨true, x - (PL : Int), f⟩ W ∧ Marks (D :: Ds) W ∧ sewM T s h fz = (sewTo T s h f x, ⟨true, x - (PL : Int), f⟩)) := ⟨hfin, hM, hsm⟩
        clear hsm hM hsome hf' ht' hv hSp hDef hmks hfin
        refine wpIn_wide.2 ?_
        go_wp2_with fail
        rw [hH4.out.2.2, hH.out.2.2]
        refine sew_leave (Ds := D :: Ds) hH4.out.1 hSw hH4.out.2.1 ?_ ?_
        · intro D' hD'
          rcases List.mem_cons.1 hD' with rfl | hD'
          · omega
          · have := hDs D' hD'; have := hz3'.out; omega
        · intro W d0 d1 d2
          simp [results, Tryz.results29, go_sem, d0, d1, d2]
    · obtain rfl : f = N := by omega
      have k60 : wr.cell? ⟨w.heap.size + 1 + 1, 0, none⟩ = some (.bool false) := cell_of ((hbel.block (w.heap.size + 2) (by have := hz3'.out; omega)).trans k6') rfl
      have k61 : wr.cell? ⟨w.heap.size + 1 + 1, 1, none⟩ = some (.int .i64 0) := cell_of ((hbel.block (w.heap.size + 2) (by have := hz3'.out; omega)).trans k6') rfl
      have k62 : wr.cell? ⟨w.heap.size + 1 + 1, 2, none⟩ = some (.int .i64 0) := cell_of ((hbel.block (w.heap.size + 2) (by have := hz3'.out; omega)).trans k6') rfl
      have k6f : ∀ k, wr.frozen? ⟨w.heap.size + 1 + 1, k, none⟩ = false := fun k => frozen_of ((hbel.block (w.heap.size + 2) (by have := hz3'.out; omega)).trans k6')
      have hsm : sewM T s h fz = (s, ⟨false, 0, 0⟩) := by
        unfold sewM
        rw [hF2.out, hH.out.2.1, Nat.sub_self]
        rfl
      have hsmH : Hid _ := hsm
      have hs' := hs.below hbw'
      have hfin := sew_none hs.lt hs' ((hbel.block (w.heap.size + 2) (by have := hz3'.out; omega)).trans k6') hbw'
      have hmk' : ∀ D ∈ Ds, (((wr.setCell ⟨w.heap.size + 1 + 1, 0, none⟩ (.bool false)).setCell ⟨w.heap.size + 1 + 1, 1, none⟩ (.int .i64 0)).setCell ⟨w.heap.size + 1 + 1, 2, none⟩ (.int .i64 0)).heap[D]? = some (.deferred (some [])) := by
        intro D hD
        have hDb : D ≠ w.heap.size + 1 + 1 := by have := hDs D hD; have := hz3'.out; omega
        rw [heap_setCell_other _ _ _ _ _ hDb, heap_setCell_other _ _ _ _ _ hDb, heap_setCell_other _ _ _ _ _ hDb]
        exact hmk.2 D hD
      have hfinH : Hid _ := hfin
      have hmkH : Hid _ := hmk'
      clear hsm hfin hmk'
      go_wp2_with fail
      rw [hsmH.out, hH.out.2.2]
      refine sew_leave hfinH.out hs.lt ⟨hmk.1, hmkH.out⟩ (fun D hD => by have := hDs D hD; have := hz3'.out; omega) ?_
      intro W d0 d1 d2
      simp [results, Tryz.results29, go_sem, d0, d1, d2]
end Go.Proofs.YtcclgodahlinbaaGreatDoor

namespace Go.Proofs.YtcclgodahlinbaaGreatDoor
open Go.RowKit Go
set_option maxRecDepth 100000

/-- what a hunk must be for sew -/
structure HunkOk (h : HunkM) : Prop where
  kinds : ∀ x ∈ h.lines, x.kind = 32 ∨ x.kind = 45 ∨ x.kind = 43
  len : h.lines.length ≤ 1000
  fr : h.fr ≤ 40000
  fc : min h.fc 1 ≤ h.fr
  text : (textL (Dn.newOf h.lines)).length ≤ 10000

theorem sewFrom_at {T : List ByteArray} {ei : Nat} {mv : Int} {h : HunkM} : ∀ n f {g : Nat} {x : Int}, sewFrom T ei mv h f n = some (g, x) → sewAt T ei mv h g = some x := by
  intro n
  induction n with
  | zero => intro f g x e; simp [sewFrom] at e
  | succ n ih =>
    intro f g x e
    unfold sewFrom at e
    cases hx : sewAt T ei mv h f with
    | some y => rw [hx] at e; simp at e; obtain ⟨rfl, rfl⟩ := e; exact hx
    | none => rw [hx] at e; exact ih (f + 1) e

/-- bounds on what is sewn -/
structure SewOk (T : List ByteArray) (s : SewS) (n : Nat) : Prop where
  en : s.en ≤ T.length
  mv : -50000 ≤ s.mv ∧ s.mv ≤ 50000
  t : s.t.length ≤ n * 20000

theorem sewM_ok {T : List ByteArray} {s : SewS} {h : HunkM} {fz n : Nat} (hs : SewOk T s n) (hh : HunkOk h) (hT : T.length ≤ 40000) (hx : (textL T).length ≤ 10000) : SewOk T (sewM T s h fz).1 (n + 1) := by
  unfold sewM
  cases hf : sewFind T s.en s.mv h fz with
  | none => exact ⟨hs.en, hs.mv, Nat.le_trans hs.t (by omega)⟩
  | some p =>
    obtain ⟨f, x⟩ := p
    have hat := sewFrom_at _ _ hf
    have hst := List.find?_some hat
    obtain ⟨h1, h2, _⟩ := of_decide_eq_true hst
    have hk := (keepsK_le h.lines h.lines.length).1
    have hpl : placeM h.fr h.fc ≤ 40000 := by have := hh.fr; unfold placeM; split <;> omega
    have hlen := hh.len
    have e1 := textL_sub T s.en ((x + (min f (keepsK h.lines h.lines.length).1 : Nat)).toNat - s.en)
    have e2 : (textL (pieceF h.lines f)).length ≤ (textL (Dn.newOf h.lines)).length := textL_sub _ _ _
    have e3 := hh.text
    have e4 := hs.t
    refine ⟨?_, ?_, ?_⟩
    · show (x + (min f (keepsK h.lines h.lines.length).1 : Nat)).toNat + (pieceO h.lines f).length ≤ T.length
      omega
    · show -50000 ≤ x - (placeM h.fr h.fc : Nat) ∧ x - (placeM h.fr h.fc : Nat) ≤ 50000
      omega
    · show (s.t ++ _ ++ _).length ≤ _
      rw [List.length_append, List.length_append]
      omega

/-! ### the mirror of Apply -/
def applyFrom (T : List ByteArray) (fz : Nat) (s : SewS) : List HunkM → SewS × List SeamM
  | [] => (s, [])
  | h :: l => let r := sewM T s h fz; let q := applyFrom T fz r.1 l; (q.1, r.2 :: q.2)
def applyK (T : List ByteArray) (fz : Nat) (hs : List HunkM) (k : Nat) : SewS × List SeamM := applyFrom T fz ⟨[], 0, 0⟩ (hs.take k)
theorem applyFrom_snoc (T : List ByteArray) (fz : Nat) (h : HunkM) : ∀ (l : List HunkM) (s : SewS), applyFrom T fz s (l ++ [h]) = ((sewM T (applyFrom T fz s l).1 h fz).1, (applyFrom T fz s l).2 ++ [(sewM T (applyFrom T fz s l).1 h fz).2]) := by
  intro l
  induction l with
  | nil => intro s; rfl
  | cons a l ih => intro s; simp only [List.cons_append, applyFrom, ih]
theorem applyK_succ (T : List ByteArray) (fz : Nat) (hs : List HunkM) (k : Nat) (h : k < hs.length) : applyK T fz hs (k + 1) = ((sewM T (applyK T fz hs k).1 hs[k] fz).1, (applyK T fz hs k).2 ++ [(sewM T (applyK T fz hs k).1 hs[k] fz).2]) := by
  unfold applyK
  rw [List.take_succ_eq_append_getElem h, applyFrom_snoc]
theorem applyK_ok {T : List ByteArray} {fz : Nat} {hs : List HunkM} (hh : ∀ h ∈ hs, HunkOk h) (hT : T.length ≤ 40000) (hx : (textL T).length ≤ 10000) : ∀ k, k ≤ hs.length → SewOk T (applyK T fz hs k).1 k ∧ (applyK T fz hs k).2.length = k := by
  intro k
  induction k with
  | zero => intro _; exact ⟨⟨Nat.zero_le _, (show (-50000 : Int) ≤ 0 ∧ (0 : Int) ≤ 50000 by decide), Nat.zero_le _⟩, rfl⟩
  | succ k ih =>
    intro hk
    rw [applyK_succ T fz hs k hk]
    obtain ⟨i1, i2⟩ := ih (by omega)
    exact ⟨sewM_ok i1 (hh _ (List.getElem_mem _)) hT hx, by rw [List.length_append, i2]; rfl⟩
def applyT (T : List ByteArray) (fz : Nat) (hs : List HunkM) : ByteArray := ⟨((applyK T fz hs hs.length).1.t ++ textL (T.drop (applyK T fz hs hs.length).1.en)).toArray⟩
def applyS (T : List ByteArray) (fz : Nat) (hs : List HunkM) : List SeamM := (applyK T fz hs hs.length).2

def seamCells (l : List SeamM) : List Value := l.flatMap fun m => [.bool m.done, .int .i64 m.at', .int .i64 (m.fz : Nat)]
theorem seamCells_append (a b : List SeamM) : seamCells (a ++ b) = seamCells a ++ seamCells b := by unfold seamCells; rw [List.flatMap_append]
theorem info_seam : (Tryz.prog.info? 63).map (fun i => (i.zero, i.size, i.bytes)) = some (some (.agg #[.bool false, .int .i64 0, .int .i64 0]), 3, 24) := by kernel_rfl

theorem SewA.keep {S : Nat} {vl : Value} {t : List UInt8} {en mv : Int} {W W' : World} {row : Option Nat} (h : SewA S vl t en mv W) (hg : W.grownBy W' row) (hr : ∀ r, row = some r → ∃ c fz, W.heap[r]? = some (.cells c 63 fz)) : SewA S vl t en mv W' := by
  obtain ⟨ad, vb, h⟩ := h
  have hS : some S ≠ row := by
    intro e
    obtain ⟨c, z, ho⟩ := hr S e.symm
    rw [h.blk] at ho; injection ho with ho; injection ho with _ e2; exact absurd e2 (by decide)
  refine ⟨ad, vb, (hg.block S h.lt hS).trans h.blk, h.adr, h.own.kept hg ?_⟩
  cases hb : vb.ownBlock with
  | none => exact .inl rfl
  | some g =>
    right
    intro e
    obtain ⟨cur, hc⟩ := owns_block h.own hb
    obtain ⟨c, z, ho⟩ := hr g e.symm
    rw [hc] at ho; injection ho with ho; injection ho with _ e2; exact absurd e2 (by decide)
theorem RowS.keep {v : Value} {L : List ByteArray} {W W' : World} {row : Option Nat} (h : RowS W v L) (hg : W.grownBy W' row) (hr : ∀ r, row = some r → ∃ c fz, W.heap[r]? = some (.cells c 63 fz)) : RowS W' v L :=
  h.of_heap fun b cur fr hb => (hg.block b (Array.getElem?_eq_some_iff.1 hb).1 (fun e => by
    obtain ⟨c, z, ho⟩ := hr b e.symm
    rw [hb] at ho; injection ho with ho; injection ho with _ e2; exact absurd e2 (by decide))).trans hb

theorem owns_others {S base n : Nat} {w w' : World} {v : Value} {xs : List Value} {cs : Array Value} {fr : Nat × Nat} (h : w.ownsRow base 63 3 v n xs) (hS : w.heap[S]? = some (.cells cs 76 fr)) (hk : Lib.OthersKept 5 (some S) w w') : w'.ownsRow base 63 3 v n xs := by
  obtain ⟨a, b⟩ := h
  refine ⟨a, ?_⟩
  rcases b with b | ⟨g, cap, cur, e, hb, hg, r⟩
  · exact .inl b
  · refine .inr ⟨g, cap, cur, e, hb, hk g _ hg ?_ ?_, r⟩
    · rintro ⟨⟩; rw [hS] at hg; injection hg with hg; injection hg with _ e2; exact absurd e2 (by decide)
    · intro c z e2; injection e2 with _ e2; exact absurd e2 (by decide)

/-- linesOf, as a row of strings -/
theorem linesOf_row (s : ByteArray) (m : Int) (w : World) (hs : s.size < 4294967281) (hm : w.cell? ⟨0, 0, none⟩ = some (.int .i64 m)) :
    Calls Tryz.prog 26 #[.string s] w fun e w' => ∃ a c, e = .returned (.slice a (linesB s).length c) ∧ RowS w' (.slice a (linesB s).length c) (linesB s) ∧ Below w.heap.size w w' := by
  by_cases h0 : s.toList.isEmpty = true
  · have hl : linesB s = [] := by unfold linesB; rw [if_pos h0]
    rw [hl]
    have := empty_of_toList h0
    subst this
    refine (linesOf_nil w).mono ?_
    rintro e w' ⟨rfl, rfl⟩
    exact ⟨none, 0, rfl, .inl ⟨rfl, none, 0, rfl⟩, Below.refl _ _⟩
  · replace h0 : s.toList.isEmpty = false := by simpa using h0
    have hl := linesB_length s h0
    refine (linesOf_some s m w hs h0 hm).mono ?_
    rintro e w' ⟨rfl, rfl⟩
    refine ⟨_, _, by rw [hl], .inr ⟨w.heap.size, 0, _, _, _, rfl, by omega, heap_alloc_new w _, fun i hi => ?_⟩, (Below.refl _ _).alloc (Nat.le_refl _) _⟩
    simp [hi, List.getD]
end Go.Proofs.YtcclgodahlinbaaGreatDoor

namespace Go.Proofs.YtcclgodahlinbaaGreatDoor
open Go.RowKit Go
set_option maxRecDepth 100000

set_option maxHeartbeats 2000000 in
theorem apply_ok {s : ByteArray} {hs : List HunkM} {fz : Nat} {a : Option Addr} {cap : Nat} {m : Int} {w : World} (h1 : isTextB s = true) (h2 : largeB s = false) (hf : fz ≤ 10)
    (hH : HunksAt w.heap.size w (.slice a hs.length cap) hs) (hok : rightM 0 0 hs = true) (hL : hs.length ≤ 1000) (hsz : s.size < 4294967281) (hm : w.cell? ⟨0, 0, none⟩ = some (.int .i64 m)) (hm0 : 0 < w.heap.size)
    (hh : ∀ h ∈ hs, HunkOk h) (hT : (linesB s).length ≤ 40000) (hx : (textL (linesB s)).length ≤ 10000) :
    Calls Tryz.prog 14 #[.string s, .agg #[.slice a hs.length cap], .int .i64 fz] w fun e w' =>
      ∃ v, e = .returned (.tuple #[.string (applyT (linesB s) fz hs), v, .int .i64 0]) ∧ w'.ownsRow w.heap.size 63 3 v hs.length (seamCells (applyS (linesB s) fz hs)) ∧ Below w.heap.size w w' := by
  obtain ⟨i0, hi, hz0, hz1, hz2⟩ := info_parts info_seam
  have hA := fun k hk => applyK_ok (fz := fz) hh hT hx k hk
  have hw0 : Below w.heap.size w (w.alloc (.cells #[.slice a hs.length cap] 32)) := (Below.refl _ _).alloc (Nat.le_refl _) _
  have hp0 := heap_alloc_new w (.cells #[.slice a hs.length cap] 32)
  have hc := checkApply_yes (fz := fz) h1 h2 hf ((hH.below hw0).mono (by simp : w.heap.size ≤ (w.alloc (.cells #[.slice a hs.length cap] 32)).heap.size)) hok hL hsz
  have z0 : (w.alloc (.cells #[.slice a hs.length cap] 32)).heap.size = w.heap.size + 1 := by simp
  have p0 : (w.alloc (.cells #[.slice a hs.length cap] 32)).cell? ⟨w.heap.size, 0, none⟩ = some (.slice a hs.length cap) := cell_of hp0 rfl
  go_enter Tryz.func14, Tryz.ntmps14
  go_wp2_with fail
  generalize w.alloc (.cells #[.slice a hs.length cap] 32) = W0 at *
  refine hc.mono ?_
  rintro e w1 ⟨rfl, b1⟩
  have hb1 : Below w.heap.size w w1 := hw0.trans (b1.mono (by omega))
  have hz1' := b1.size
  have hl := linesOf_row s m w1 hsz ((hb1.cell (p := ⟨0, 0, none⟩) hm0).trans hm)
  go_wp2_with (go_at_call 26; refine hl.mono ?_; rintro e w2 ⟨al, cl, rfl, hrow, b2⟩; have hz2' := b2.size; have hlt2 : w.heap.size < w2.heap.size := by omega
               have q0 : w2.cell? ⟨w.heap.size, 0, none⟩ = some (.slice a hs.length cap) := (b2.cell (p := ⟨w.heap.size, 0, none⟩) (by show w.heap.size < _; omega)).trans ((b1.cell (p := ⟨w.heap.size, 0, none⟩) (by show w.heap.size < _; omega)).trans p0)
               have q0' := fun ob => (World.cell?_of_block (a := ⟨w.heap.size, 0, none⟩) (Below.heap_alloc w2 ob w.heap.size hlt2)).trans q0)
  generalize hTd : linesB s = T at *
  have hS0 : SewA w2.heap.size (.slice al T.length cl) [] (0 : Nat) 0 (w2.alloc (.cells #[.slice al T.length cl, .pointer none, .slice none 0 0, .int .i64 0, .int .i64 0] 76)) :=
    ⟨.pointer none, .slice none 0 0, heap_alloc_new w2 _, .inl rfl, World.ownsRow_nil _ _ _ _⟩
  have hR0 := hrow.alloc (.cells #[.slice al T.length cl, .pointer none, .slice none 0 0, .int .i64 0, .int .i64 0] 76)
  have hb2' : Below w.heap.size w w2 := hb1.trans (b2.mono (by omega))
  have hB0 := hb2'.alloc (by omega) (.cells #[.slice al T.length cl, .pointer none, .slice none 0 0, .int .i64 0, .int .i64 0] 76)
  go_loopg [11, 27] hs.length (fun g vs t wr => ∃ k : Nat, g = hs.length - k ∧ k ≤ hs.length ∧ t = .int .i64 k ∧ SewA w2.heap.size (.slice al T.length cl) (applyK T fz hs k).1.t ((applyK T fz hs k).1.en : Nat) (applyK T fz hs k).1.mv wr ∧ RowS wr (.slice al T.length cl) T ∧ wr.ownsRow w.heap.size 63 3 vs k (seamCells (applyK T fz hs k).2) ∧ Below w.heap.size w wr)
  case atStart => exact ⟨0, by omega, by omega, rfl, hS0, hR0, World.ownsRow_nil _ _ _ _, hB0⟩
  case round =>
    obtain ⟨k, hgk, hkl, rfl, hsew, hrw, hown, hbel⟩ := hrel
    clear hS0 hR0 hB0 q0 q0' hl hc
    have hSw := hsew.lt
    have hszr := hbel.size
    by_cases hkk : k < hs.length
    · have hkI : (k : Int) < hs.length := by omega
      obtain ⟨b, a', c', rfl, hbB, r0, r1, r2, r3, r4, hst⟩ := (hH.below hbel).at hkk
      have hho := hh _ (List.getElem_mem hkk)
      have hap := applyK_succ T fz hs k hkk
      obtain ⟨hok1, hlk⟩ := hA k hkl
      generalize applyK T fz hs k = AK at hsew hown hap hok1 hlk
      generalize hs[k] = h at r0 r1 r2 r3 r4 hst hho hap
      have hAH : Hid (gk = hs.length - k ∧ applyK T fz hs (k + 1) = ((sewM T AK.1 h fz).1, AK.2 ++ [(sewM T AK.1 h fz).2])) := ⟨hgk, hap⟩
      clear hgk hap
      have hbx := Below.heap_alloc wr (.cells #[.int .i64 (h.fr : Int), .int .i64 (h.fc : Int), .int .i64 (h.tr : Int), .int .i64 (h.tc : Int), .slice a' h.lines.length c'] 61)
      have hsew1 := hsew.alloc (.cells #[.int .i64 (h.fr : Int), .int .i64 (h.fc : Int), .int .i64 (h.tr : Int), .int .i64 (h.tc : Int), .slice a' h.lines.length c'] 61)
      have hrw1 := hrw.alloc (.cells #[.int .i64 (h.fr : Int), .int .i64 (h.fc : Int), .int .i64 (h.tr : Int), .int .i64 (h.tc : Int), .slice a' h.lines.length c'] 61)
      have hown1 := hown.alloc (.cells #[.int .i64 (h.fr : Int), .int .i64 (h.fc : Int), .int .i64 (h.tr : Int), .int .i64 (h.tc : Int), .slice a' h.lines.length c'] 61)
      have hbel1 := hbel.alloc hszr (.cells #[.int .i64 (h.fr : Int), .int .i64 (h.fc : Int), .int .i64 (h.tr : Int), .int .i64 (h.tc : Int), .slice a' h.lines.length c'] 61)
      have hst1 := (hst.below ((Below.refl w.heap.size wr).alloc hszr (.cells #[.int .i64 (h.fr : Int), .int .i64 (h.fc : Int), .int .i64 (h.tr : Int), .int .i64 (h.tc : Int), .slice a' h.lines.length c'] 61))).mono (B' := (wr.alloc (.cells #[.int .i64 (h.fr : Int), .int .i64 (h.fc : Int), .int .i64 (h.tr : Int), .int .i64 (h.tc : Int), .slice a' h.lines.length c'] 61)).heap.size) (by simp; omega)
      have hk20 : k * 20000 ≤ 20000000 := by omega
      have hse := sew_any (fz := fz) hsew1 hrw1 hst1 hho.kinds hho.len hho.fr hho.fc (by omega) hok1.mv (by have := hok1.t; have := hho.text; omega) (by omega)
      obtain ⟨ao, co, rfl⟩ := owns_isSlice hown
      have hsz1 : (wr.alloc (.cells #[.int .i64 (h.fr : Int), .int .i64 (h.fc : Int), .int .i64 (h.tr : Int), .int .i64 (h.tc : Int), .slice a' h.lines.length c'] 61)).heap.size = wr.heap.size + 1 := by simp
      go_wp2_with fail
      generalize wr.alloc (.cells #[.int .i64 (h.fr : Int), .int .i64 (h.fc : Int), .int .i64 (h.tr : Int), .int .i64 (h.tc : Int), .slice a' h.lines.length c'] 61) = W1 at hsew1 hrw1 hown1 hbel1 hse hsz1 ⊢
      refine hse.mono ?_
      clear hse hbx hst hst1
      generalize hR : sewM T AK.1 h fz = R at *
      obtain ⟨rs, ⟨rd, ra, rf⟩⟩ := R
      rintro e w5 ⟨rfl, hs5, hb5, ho5⟩
      obtain ⟨cs1, hcs1⟩ := hsew1.tag
      have hrw5 := hrw1.kept hcs1 ho5
      have hown5 := owns_others hown1 hcs1 ho5
      have hz5 := hb5.size
      have hbel5 : Below w.heap.size w w5 := hbel1.trans (hb5.mono (by omega))
      have hone : ∀ u ∈ [Value.bool rd, Value.int .i64 ra, Value.int .i64 (rf : Nat)], u.oneCell' = true := by intro u hu; simp at hu; rcases hu with rfl | rfl | rfl <;> rfl
      have hm1 : k + 1 ≤ maxLen := by unfold maxLen; omega
      have hm2 : (k + 1) * 24 ≤ 140737488355328 := by omega
      have hw5 := hbel5.size
      dsimp only at hs5 ⊢
      clear hrw hown hsew hsew1 hrw1 hown1 hcs1
      go_wp2_with (at_builtin; refine wpList_append_own2 rfl (.tmp 31) (.tmp 35) 37 rfl w.heap.size 63 i0 _ 3 24 Tryz.underlying37 hi hz0 hz1 hz2 rfl (by decide) (.slice ao k co) k (seamCells AK.2) rfl (hown5.alloc _) ⟨w5.heap.size, 0, none⟩ 1 1 [.bool rd, .int .i64 ra, .int .i64 (rf : Nat)] rfl rfl (cells_new w5 _ _) hone hm1 hm2 (by simp; omega) ?_; intro vs' w6 hown6 hgrow6 hnew6)
      go_roundg (hs.length - (k + 1))
      · have e1 := hAH.out.2
        have hk := owns_kind (hown5.alloc (.cells #[.bool rd, .int .i64 ra, .int .i64 (rf : Nat)] 63))
        refine ⟨k + 1, rfl, by omega, by push_cast; rfl, ?_, (hrw5.alloc _).keep hgrow6 hk, ?_, (hbel5.alloc (by omega) _).grown hgrow6 (by simp; omega) (fun j e => (hown5.lt j e).1)⟩
        · rw [e1]; exact (hs5.alloc _).keep hgrow6 hk
        · rw [e1, seamCells_append]; exact hown6
      · have := hAH.out.1; omega
    · obtain rfl : k = hs.length := by omega
      obtain ⟨hok1, hlk⟩ := hA _ hkl
      have htx := sewtext_any hsew hrw rfl hok1.en (by have := hok1.t; omega)
      have hT2 : Hid (applyT (linesB s) fz hs = ⟨((applyK T fz hs hs.length).1.t ++ textL (T.drop (applyK T fz hs hs.length).1.en)).toArray⟩ ∧ applyS (linesB s) fz hs = (applyK T fz hs hs.length).2) := by rw [hTd]; exact ⟨rfl, rfl⟩
      have hownh : Hid _ := hown
      clear hgk
      go_wp2_with (go_at_call 30; refine htx.mono ?_; rintro e w5 ⟨rfl, hb5, ho5⟩)
      obtain ⟨ao, co, rfl⟩ := owns_isSlice hownh.out
      obtain ⟨cs1, hcs1⟩ := hsew.tag
      have hown5 := owns_others hownh.out hcs1 ho5
      refine bodyPost_ret (v := .tuple #[.string (applyT (linesB s) fz hs), .slice ao hs.length co, .int .i64 0]) ?_ rfl ⟨_, rfl, ?_, hbel.trans (hb5.mono (by omega))⟩
      · rw [hT2.out.1]
        simp [results, Tryz.results14, go_sem]
      · rw [hT2.out.2]; exact hown5
end Go.Proofs.YtcclgodahlinbaaGreatDoor

namespace Go.Proofs.YtcclgodahlinbaaGreatDoor
open Go.RowKit Go
set_option maxRecDepth 100000

/-- which of n things a raw number speaks of -/
def pickN (c : Int) (n : Nat) : Nat := ((if c < 0 then -(c + 1) else c) % n).toNat
theorem pickN_lt (c : Int) {n : Nat} (h : 0 < n) : pickN c n < n := by
  unfold pickN
  have h1 := Int.emod_nonneg (if c < 0 then -(c + 1) else c) (b := (n : Int)) (by omega)
  have h2 := Int.emod_lt_of_pos (if c < 0 then -(c + 1) else c) (b := (n : Int)) (by omega)
  omega

set_option maxHeartbeats 400000 in
theorem pick_any (c : Int) (n : Nat) (w : World) (hc : -9223372036854775808 ≤ c ∧ c ≤ 9223372036854775807) (hn : 0 < n) (hn2 : n ≤ 1000) :
    Calls Tryz.prog 13 #[.int .i64 c, .int .i64 (n : Int)] w fun e w' => e = .returned (.int .i64 (pickN c n : Nat)) ∧ w = w' := by
  have hne : ¬ ((n : Int) = 0) := by omega
  by_cases h : c < 0
  · have e1 : IntKind.i64.wrap (c + 1) = c + 1 := by rw [IntKind.wrap_i64]; omega
    have e2 : IntKind.i64.wrap (-(c + 1)) = -(c + 1) := by rw [IntKind.wrap_i64]; omega
    have h1 := Int.emod_nonneg (-(c + 1)) (b := (n : Int)) (by omega)
    have h2 := Int.emod_lt_of_pos (-(c + 1)) (b := (n : Int)) (by omega)
    have e3 : ((pickN c n : Nat) : Int) = -(c + 1) % n := by unfold pickN; rw [if_pos h]; omega
    rw [e3]
    go_enter Tryz.func13, Tryz.ntmps13
    go_wp2
    go_ret
    refine ⟨ret_int ?_, rfl⟩
    rw [← Int.neg_tmod, Int.tmod_eq_emod_of_nonneg (by omega)]
  · have h1 := Int.emod_nonneg c (b := (n : Int)) (by omega)
    have h2 := Int.emod_lt_of_pos c (b := (n : Int)) (by omega)
    have e3 : ((pickN c n : Nat) : Int) = c % n := by unfold pickN; rw [if_neg h]; omega
    rw [e3]
    go_enter Tryz.func13, Tryz.ntmps13
    go_wp2
    go_ret
    exact ⟨rfl, rfl⟩

/-- lines joined, as a string -/
def textB (l : List ByteArray) : ByteArray := ⟨(textL l).toArray⟩
theorem textB_take (l : List ByteArray) (k : Nat) (h : k < l.length) : textB (l.take k) ++ l.getD k ByteArray.empty ++ ⟨#[10]⟩ = textB (l.take (k + 1)) := by
  apply ByteArray.ext
  unfold textB
  rw [textL_take l k h]
  simp [ByteArray.data_append]
set_option maxHeartbeats 1000000 in
theorem ktext_any {w : World} {a : Option Addr} {c : Nat} {L : List ByteArray} (hR : RowS w (.slice a L.length c) L) (hl : (textL L).length ≤ 100000) :
    Calls Tryz.prog 11 #[.slice a L.length c] w fun e w' => e = .returned (.string (textB L)) ∧ w = w' := by
  have hLl := textL_len L
  go_enter Tryz.func11, Tryz.ntmps11
  go_wp2
  go_loopg [3, 4] L.length (fun g s x wr => ∃ k : Nat, g = L.length - k ∧ k ≤ L.length ∧ x = .int .i64 k ∧ s = .string (textB (L.take k)) ∧ wr = w)
  case atStart => exact ⟨0, by omega, by omega, rfl, rfl, rfl⟩
  case round =>
    obtain ⟨k, hgk, hkl, rfl, rfl, rfl⟩ := hrel
    by_cases hkk : k < L.length
    · have hkI : (k : Int) < L.length := by omega
      obtain ⟨b, off, rfl, hc⟩ := hR.at hkk
      have htk := textB_take L k hkk
      have hle := textL_take_le L (k + 1)
      rw [textL_take L k hkk] at hle
      simp only [List.length_append, List.length_cons, List.length_nil] at hle
      have hsz : (textB (L.take k)).size = (textL (L.take k)).length := by unfold textB; rfl
      generalize L.getD k ByteArray.empty = s at hc htk hle
      have hss : s.data.toList.length = s.size := rfl
      have hA : Hid (gk = L.length - k ∧ textB (L.take k) ++ s ++ ⟨#[10]⟩ = textB (L.take (k + 1))) := ⟨hgk, htk⟩
      clear hgk htk
      go_wp2_with fail
      go_roundg (L.length - (k + 1))
      · exact ⟨k + 1, rfl, by omega, by push_cast; rfl, by rw [hA.out.2], rfl⟩
      · have := hA.out.1; omega
    · obtain rfl : k = L.length := by omega
      go_wp2
      go_ret
      refine ⟨?_, rfl⟩
      show Ending.returned (.string (textB (L.take L.length))) = _
      rw [List.take_length]
end Go.Proofs.YtcclgodahlinbaaGreatDoor

namespace Go.Proofs.YtcclgodahlinbaaGreatDoor
open Go.RowKit Go
set_option maxRecDepth 100000

theorem diff_at {old fresh : ByteArray} {c : Nat} {m : Int} {w : World} (hch : checkB old fresh c = 0) (h1 : old.size < 4294967281) (h2 : fresh.size < 4294967281) (hm : w.cell? ⟨0, 0, none⟩ = some (.int .i64 m)) :
    Calls Tryz.prog 12 #[.string old, .string fresh, .int .i64 c] w fun e w' =>
      ∃ a cap, e = .returned (.tuple #[.agg #[.slice a (diffM old fresh c).length cap], .int .i64 0]) ∧ HunksAt w'.heap.size w' (.slice a (diffM old fresh c).length cap) (diffM old fresh c) ∧ Below w.heap.size w w' := by
  refine (diff_ok hch h1 h2 hm).mono ?_
  rintro e w' ⟨v, rfl, hv, hso, hmap, hb⟩
  have hH := HunksAt.of_owns hso
  rw [hmap] at hH
  obtain ⟨a, cap, rfl⟩ := hH.slice
  exact ⟨a, cap, rfl, hH, hb⟩

/-- seams in memory -/
def SeamsAt (w : World) (v : Value) (l : List SeamM) : Prop := (l = [] ∧ ∃ a c, v = .slice a 0 c) ∨ ∃ g cap, v = .slice (some ⟨g, 0, none⟩) l.length cap ∧ g < w.heap.size ∧
  ∀ i (h : i < l.length), w.cell? ⟨g, i * 3, none⟩ = some (.bool l[i].done) ∧ w.cell? ⟨g, i * 3 + 1, none⟩ = some (.int .i64 l[i].at') ∧ w.cell? ⟨g, i * 3 + 2, none⟩ = some (.int .i64 (l[i].fz : Nat))
theorem seamCells_length (l : List SeamM) : (seamCells l).length = l.length * 3 := by
  induction l with
  | nil => rfl
  | cons a l ih => have e : seamCells (a :: l) = [.bool a.done, .int .i64 a.at', .int .i64 (a.fz : Nat)] ++ seamCells l := rfl
                   rw [e, List.length_append, ih]; simp; omega
theorem seamCells_get (l : List SeamM) : ∀ i (h : i < l.length), (seamCells l)[i * 3]? = some (.bool l[i].done) ∧ (seamCells l)[i * 3 + 1]? = some (.int .i64 l[i].at') ∧ (seamCells l)[i * 3 + 2]? = some (.int .i64 (l[i].fz : Nat)) := by
  induction l with
  | nil => intro i h; simp at h
  | cons a l ih =>
    intro i h
    have e : seamCells (a :: l) = [.bool a.done, .int .i64 a.at', .int .i64 (a.fz : Nat)] ++ seamCells l := rfl
    rw [e]
    cases i with
    | zero => exact ⟨rfl, rfl, rfl⟩
    | succ i =>
      have := ih i (by simpa using h)
      refine ⟨?_, ?_, ?_⟩
      · rw [List.getElem?_append_right (by simp; omega)]
        simpa [Nat.succ_mul, show (i + 1) * 3 - 3 = i * 3 by omega] using this.1
      · rw [List.getElem?_append_right (by simp; omega)]
        simpa [show (i + 1) * 3 + 1 - 3 = i * 3 + 1 by omega] using this.2.1
      · rw [List.getElem?_append_right (by simp; omega)]
        simpa [show (i + 1) * 3 + 2 - 3 = i * 3 + 2 by omega] using this.2.2
theorem SeamsAt.of_owns {base : Nat} {w : World} {v : Value} {l : List SeamM} (h : w.ownsRow base 63 3 v l.length (seamCells l)) : SeamsAt w v l := by
  rcases h.2 with ⟨e, h0⟩ | ⟨g, cap, cur, e, _, hg, h1, h2, h3, h4⟩
  · exact .inl ⟨List.eq_nil_of_length_eq_zero h0, _, _, e⟩
  · refine .inr ⟨g, cap, e, (Array.getElem?_eq_some_iff.1 hg).1, fun i hi => ?_⟩
    have hget := seamCells_get l i hi
    have key : ∀ j v, (seamCells l)[j]? = some v → w.cell? ⟨g, j, none⟩ = some v := by
      intro j v hj
      rw [← h4, List.getElem?_take] at hj
      split at hj
      · exact cell_of hg (by simpa using hj)
      · cases hj
    exact ⟨key _ _ hget.1, key _ _ hget.2.1, key _ _ hget.2.2⟩

theorem applyS_length {T : List ByteArray} {fz : Nat} {hs : List HunkM} (hh : ∀ h ∈ hs, HunkOk h) (hT : T.length ≤ 40000) (hx : (textL T).length ≤ 10000) : (applyS T fz hs).length = hs.length := (applyK_ok hh hT hx hs.length (Nat.le_refl _)).2

theorem apply_at {s : ByteArray} {hs : List HunkM} {fz : Nat} {a : Option Addr} {cap : Nat} {m : Int} {w : World} (h1 : isTextB s = true) (h2 : largeB s = false) (hf : fz ≤ 10)
    (hH : HunksAt w.heap.size w (.slice a hs.length cap) hs) (hok : rightM 0 0 hs = true) (hL : hs.length ≤ 1000) (hsz : s.size < 4294967281) (hm : w.cell? ⟨0, 0, none⟩ = some (.int .i64 m)) (hm0 : 0 < w.heap.size)
    (hh : ∀ h ∈ hs, HunkOk h) (hT : (linesB s).length ≤ 40000) (hx : (textL (linesB s)).length ≤ 10000) :
    Calls Tryz.prog 14 #[.string s, .agg #[.slice a hs.length cap], .int .i64 fz] w fun e w' =>
      ∃ a' c', e = .returned (.tuple #[.string (applyT (linesB s) fz hs), .slice a' hs.length c', .int .i64 0]) ∧ SeamsAt w' (.slice a' hs.length c') (applyS (linesB s) fz hs) ∧ Below w.heap.size w w' := by
  have hl := applyS_length (fz := fz) hh hT hx
  refine (apply_ok h1 h2 hf hH hok hL hsz hm hm0 hh hT hx).mono ?_
  rintro e w' ⟨v, rfl, hown, hb⟩
  obtain ⟨a', c', rfl⟩ := owns_isSlice hown
  rw [← hl] at hown
  have := SeamsAt.of_owns hown
  rw [hl] at this
  exact ⟨a', c', rfl, this, hb⟩

/-- hunks and texts, ready to be reckoned -/
def hunkOkB (h : HunkM) : Bool := h.lines.all (fun x => x.kind == 32 || x.kind == 45 || x.kind == 43) && decide (h.lines.length ≤ 1000) && decide (h.fr ≤ 40000) && decide (min h.fc 1 ≤ h.fr) && decide ((textL (Dn.newOf h.lines)).length ≤ 10000)
theorem hunkOk_of {h : HunkM} (e : hunkOkB h = true) : HunkOk h := by
  unfold hunkOkB at e
  simp only [Bool.and_eq_true, decide_eq_true_eq, List.all_eq_true, Bool.or_eq_true, beq_iff_eq] at e
  exact ⟨fun x hx => by have := e.1.1.1.1 x hx; omega, e.1.1.1.2, e.1.1.2, e.1.2, e.2⟩
/-- everything that Apply asks of a text and hunks, as one bool -/
def applyOkB (s : ByteArray) (hs : List HunkM) : Bool := isTextB s && !(largeB s) && rightM 0 0 hs && decide (hs.length ≤ 1000) && decide (s.size ≤ 8000) && hs.all hunkOkB && decide ((linesB s).length ≤ 40000) && decide ((textL (linesB s)).length ≤ 10000)
theorem apply_of {s : ByteArray} {hs : List HunkM} {fz : Nat} {a : Option Addr} {cap : Nat} {m : Int} {w : World} (hok : applyOkB s hs = true) (hf : fz ≤ 10) (hH : HunksAt w.heap.size w (.slice a hs.length cap) hs) (hm : w.cell? ⟨0, 0, none⟩ = some (.int .i64 m)) (hm0 : 0 < w.heap.size) :
    Calls Tryz.prog 14 #[.string s, .agg #[.slice a hs.length cap], .int .i64 fz] w fun e w' =>
      ∃ a' c', e = .returned (.tuple #[.string (applyT (linesB s) fz hs), .slice a' hs.length c', .int .i64 0]) ∧ SeamsAt w' (.slice a' hs.length c') (applyS (linesB s) fz hs) ∧ Below w.heap.size w w' := by
  unfold applyOkB at hok
  simp only [Bool.and_eq_true, decide_eq_true_eq, List.all_eq_true, Bool.not_eq_true'] at hok
  obtain ⟨⟨⟨⟨⟨⟨⟨h1, h2⟩, h3⟩, h4⟩, h5⟩, h6⟩, h7⟩, h8⟩ := hok
  exact apply_at h1 h2 hf hH h3 h4 (by omega) hm hm0 (fun h hh => hunkOk_of (h6 h hh)) h7 h8
end Go.Proofs.YtcclgodahlinbaaGreatDoor

namespace Go.Proofs.YtcclgodahlinbaaGreatDoor
open Go.RowKit Go
set_option maxRecDepth 100000

def awA : ByteArray := ⟨#[97, 10, 98, 10, 99, 10, 100, 10]⟩
def awB : ByteArray := ⟨#[97, 10, 120, 10, 99, 10, 100, 10]⟩
def awC : ByteArray := ⟨#[110, 10, 97, 10, 98, 10, 99, 10, 100, 10]⟩
def awD : ByteArray := ⟨#[110, 10, 97, 10, 120, 10, 99, 10, 100, 10]⟩
def awH : HunkM := ⟨1, 3, 1, 3, [⟨32, ⟨#[97]⟩⟩, ⟨45, ⟨#[98]⟩⟩, ⟨43, ⟨#[120]⟩⟩, ⟨32, ⟨#[99]⟩⟩]⟩
theorem aw_check : checkB awA awB (1 : Nat) = 0 := by kernel_rfl
theorem aw_diff : diffM awA awB 1 = [awH] := by kernel_rfl
theorem aw_ok : applyOkB awC [awH] = true := by kernel_rfl
theorem aw_text : applyT (linesB awC) 0 [awH] = awD := by kernel_rfl
theorem aw_seams : applyS (linesB awC) 0 [awH] = [⟨true, 1, 0⟩] := by kernel_rfl

set_option maxHeartbeats 2000000 in
theorem awake_any {m : Int} {w : World} (hm : w.cell? ⟨0, 0, none⟩ = some (.int .i64 m)) (hm0 : 0 < w.heap.size) :
    Calls Tryz.prog 9 #[] w fun e w' => e = .returned (.bool true) ∧ Below w.heap.size w w' := by
  have hd := diff_at (c := 1) (w := w) aw_check (by decide) (by decide) hm
  rw [aw_diff] at hd
  have hd' : Calls Tryz.prog 12 #[.string ⟨#[97, 10, 98, 10, 99, 10, 100, 10]⟩, .string ⟨#[97, 10, 120, 10, 99, 10, 100, 10]⟩, .int .i64 1] w fun e w' =>
      ∃ a cap, e = .returned (.tuple #[.agg #[.slice a 1 cap], .int .i64 0]) ∧ HunksAt w'.heap.size w' (.slice a 1 cap) [awH] ∧ Below w.heap.size w w' := hd
  clear hd
  go_enter Tryz.func9, Tryz.ntmps9
  go_wp2_with fail
  refine hd'.mono ?_
  clear hd'
  rintro e w1 ⟨a, cap, rfl, hH, b1⟩
  have hz1 := b1.size
  go_wp2_with fail
  have hb2 := (Below.refl w1.heap.size w1).alloc (Nat.le_refl _) (.cells #[.slice a 1 cap] 32)
  have hp2 := heap_alloc_new w1 (.cells #[.slice a 1 cap] 32)
  have z2 : (w1.alloc (.cells #[.slice a 1 cap] 32)).heap.size = w1.heap.size + 1 := by simp
  generalize w1.alloc (.cells #[.slice a 1 cap] 32) = W2 at hb2 hp2 z2 ⊢
  have hH2 := (hH.below hb2).mono hb2.size
  have hm2 := (hb2.cell (p := ⟨0, 0, none⟩) (by show 0 < _; omega)).trans ((b1.cell (p := ⟨0, 0, none⟩) hm0).trans hm)
  have ha := apply_of (fz := 0) (cap := cap) (a := a) aw_ok (by omega) hH2 hm2 (by omega)
  rw [aw_text, aw_seams] at ha
  have ha' : Calls Tryz.prog 14 #[.string ⟨#[110, 10, 97, 10, 98, 10, 99, 10, 100, 10]⟩, .agg #[.slice a 1 cap], .int .i64 0] W2 fun e w' =>
      ∃ a' c', e = .returned (.tuple #[.string ⟨#[110, 10, 97, 10, 120, 10, 99, 10, 100, 10]⟩, .slice a' 1 c', .int .i64 0]) ∧ SeamsAt w' (.slice a' 1 c') [⟨true, 1, 0⟩] ∧ Below W2.heap.size W2 w' := ha
  clear ha
  refine ha'.mono ?_
  clear ha'
  rintro e w3 ⟨a', c', rfl, hS, b3⟩
  have hp3 := (b3.block w1.heap.size (by omega)).trans hp2
  have hH3 := hH2.below b3
  obtain ⟨b, a'', c'', rfl, hbB, r0, r1, r2, r3, r4, hst⟩ := hH3.at (i := 0) (by decide)
  rcases hS with ⟨e, _⟩ | ⟨g, cs, e, hg, hc⟩
  · cases e
  cases e
  obtain ⟨s0, s1, s2⟩ := hc 0 (by decide)
  have q0 : w3.cell? ⟨w1.heap.size, 0, none⟩ = some (.slice (some ⟨b, 0, none⟩) 1 cap) := cell_of hp3 rfl
  have t0 : w3.cell? ⟨g, 0, none⟩ = some (.bool true) := s0
  have t1 : w3.cell? ⟨g, 1, none⟩ = some (.int .i64 1) := s1
  have t2 : w3.cell? ⟨g, 2, none⟩ = some (.int .i64 0) := s2
  have t4 : w3.cell? ⟨b, 4, none⟩ = some (.slice a'' 4 c'') := r4
  have hfin : Below w.heap.size w w3 := b1.trans ((hb2.mono (by omega)).trans (b3.mono (by omega)))
  clear r0 r1 r2 r3 r4 s0 s1 s2 hc hH hH2 hH3 hst
  go_wp2_with fail
  go_ret
  exact ⟨rfl, hfin⟩
end Go.Proofs.YtcclgodahlinbaaGreatDoor

namespace Go.Proofs.YtcclgodahlinbaaGreatDoor
open Go.RowKit Go
set_option maxRecDepth 100000

/-- a row of strings in a block of its own -/
def RowN (base : Nat) (w : World) (g cap n : Nat) (L : List ByteArray) : Prop := L.length = n ∧ w.ownsRow base 9 1 (.slice (some ⟨g, 0, none⟩) n cap) n (strCells L)
theorem strCells_set (L : List ByteArray) (j : Nat) (s : ByteArray) : (strCells L).set j (.string s) = strCells (L.set j s) := by unfold strCells; rw [List.map_set]
theorem strCells_one (L : List ByteArray) : ∀ u ∈ strCells L, u.oneCell' = true := by
  intro u hu
  obtain ⟨s, _, rfl⟩ := List.mem_map.1 hu
  rfl
theorem strCells_length (L : List ByteArray) : (strCells L).length = L.length := by simp [strCells]
theorem RowN.rowS {base : Nat} {w : World} {g cap n : Nat} {L : List ByteArray} (h : RowN base w g cap n L) : RowS w (.slice (some ⟨g, 0, none⟩) n cap) L := by
  obtain ⟨rfl, h⟩ := h
  exact RowS.of_owns h
theorem RowN.cell {base : Nat} {w : World} {g cap n : Nat} {L : List ByteArray} (h : RowN base w g cap n L) {j : Nat} (hj : j < n) : w.cell? ⟨g, j, none⟩ = some (.string (L.getD j ByteArray.empty)) := by
  rw [h.2.cellAt j (by omega)]
  have := h.1
  simp [strCells, List.getD, show j < L.length by omega]
theorem RowN.frozen {base : Nat} {w : World} {g cap n : Nat} {L : List ByteArray} (h : RowN base w g cap n L) (j : Nat) : w.frozen? ⟨g, j, none⟩ = false := h.2.frozenAt j
theorem RowN.store {base : Nat} {w : World} {g cap n : Nat} {L : List ByteArray} (h : RowN base w g cap n L) (j : Nat) (s : ByteArray) : RowN base (w.setCell ⟨g, j, none⟩ (.string s)) g cap n (L.set j s) :=
  ⟨by rw [List.length_set]; exact h.1, by rw [← strCells_set]; exact (h.2.stored j (.string s)).1⟩
theorem RowN.lt {base : Nat} {w : World} {g cap n : Nat} {L : List ByteArray} (h : RowN base w g cap n L) : base ≤ g ∧ g < w.heap.size := h.2.lt g rfl
theorem RowN.below {base B : Nat} {w w' : World} {g cap n : Nat} {L : List ByteArray} (h : RowN base w g cap n L) (hb : Below B w w') (hg : g < B) : RowN base w' g cap n L := by
  refine ⟨h.1, h.2.1, ?_⟩
  rcases h.2.2 with ⟨e, _⟩ | ⟨g', cap', cur, e, h1, h2, h3⟩
  · cases e
  · cases e
    exact .inr ⟨g, cap, cur, rfl, h1, (hb.block g hg).trans h2, h3⟩
theorem RowN.alloc {base : Nat} {w : World} {g cap n : Nat} {L : List ByteArray} (h : RowN base w g cap n L) (ob : Obj) : RowN base (w.alloc ob) g cap n L := ⟨h.1, h.2.alloc ob⟩
/-- a store into another block -/
theorem RowN.other {base : Nat} {w : World} {g cap n : Nat} {L : List ByteArray} (h : RowN base w g cap n L) {a : Addr} (hne : a.block ≠ g) (u : Value) : RowN base (w.setCell a u) g cap n L := by
  refine ⟨h.1, h.2.1, ?_⟩
  rcases h.2.2 with ⟨e, _⟩ | ⟨g', cap', cur, e, h1, h2, h3⟩
  · cases e
  · cases e
    exact .inr ⟨g, cap, cur, rfl, h1, (Below.heap_setCell w a u g (fun e => hne e.symm)).trans h2, h3⟩
theorem textN_any {base : Nat} {w : World} {g cap n : Nat} {L : List ByteArray} (h : RowN base w g cap n L) (hl : (textL L).length ≤ 100000) :
    Calls Tryz.prog 11 #[.slice (some ⟨g, 0, none⟩) n cap] w fun e w' => e = .returned (.string (textB L)) ∧ w = w' := by
  obtain ⟨rfl, h⟩ := h
  exact ktext_any (RowS.of_owns h) hl

/-- append(nil, x...) -/
theorem wpList_copyN {ops : Array Oper} {rest : List Oper} {o : Oper} {a : Act} {w : World} {Q : Exit → Act → World → Prop} (hgd : o.guard = none) (s x : Operand)
    (ho : o.op = .call { callee := .builtin .append, args := #[s, x], argTypes := #[27, 27] }) (hs : a.eval s = .slice none 0 0)
    {base gx cx n : Nat} {L : List ByteArray} (hx : a.eval x = .slice (some ⟨gx, 0, none⟩) n cx) (hX : RowN base w gx cx n L) (hp : 0 < n) (hn : n ≤ 1000)
    (h : ∀ gy cy w', w.heap.size ≤ gy → gy < w'.heap.size → RowN w.heap.size w' gy cy n L → Below w.heap.size w w' → wpList Tryz.prog ops Q rest (a.put o.dst (.slice (some ⟨gy, 0, none⟩) n cy)) w') : wpList Tryz.prog ops Q (o :: rest) a w := by
  obtain ⟨i0, hi, hz0, hz1, hz2⟩ := info_parts info_str
  refine wpList_append_own2 hgd s x 27 ho w.heap.size 9 i0 _ 1 16 Tryz.underlying27 hi hz0 hz1 hz2 rfl (by decide) (.slice none 0 0) 0 [] hs (World.ownsRow_nil _ _ _ _) ⟨gx, 0, none⟩ n cx (strCells L) hx
    (by rw [strCells_length, hX.1]; omega) (hX.2.cells rfl) (strCells_one L) (by unfold maxLen; omega) (by omega) (Nat.le_refl _) ?_
  intro v' w' hown hgr hnew
  rw [Nat.zero_add, List.nil_append] at hown
  obtain ⟨gy, cy, rfl, h1, h2, _⟩ := owns_slice hown hp
  exact h gy cy w' h1 h2 ⟨hX.1, hown⟩ ⟨hgr.os, hgr.tape, hgr.output, hgr.size, fun k hk => hgr.block k hk (by simp [Value.ownBlock])⟩
end Go.Proofs.YtcclgodahlinbaaGreatDoor

namespace Go.Proofs.YtcclgodahlinbaaGreatDoor
open Go.RowKit Go
set_option maxRecDepth 100000

def lettersF (s : ByteArray) : Nat → Nat → Nat → List ByteArray → Nat × List ByteArray
  | 0, _, begin', acc => (begin', acc)
  | k + 1, pos, begin', acc => if pos < s.size then lettersF s k (pos + (Utf8.decode s pos).2) (if begin' < pos then pos else begin') (if begin' < pos then acc ++ [s.extract begin' pos] else acc) else (begin', acc)
def lettersB (s : ByteArray) : List ByteArray := if (lettersF s (s.size + 1) 0 0 []).1 < s.size then (lettersF s (s.size + 1) 0 0 []).2 ++ [s.extract (lettersF s (s.size + 1) 0 0 []).1 s.size] else (lettersF s (s.size + 1) 0 0 []).2
/-- the bytes of rows -/
def catL (l : List ByteArray) : List UInt8 := l.flatMap fun s => s.data.toList
theorem catL_append (a b : List ByteArray) : catL (a ++ b) = catL a ++ catL b := by unfold catL; rw [List.flatMap_append]
theorem catL_one (s : ByteArray) : catL [s] = s.data.toList := by simp [catL]
theorem extract_list (s : ByteArray) (a b : Nat) : (s.extract a b).data.toList = (s.data.toList.drop a).take (b - a) := by
  rw [Lib.extract_data]
theorem take_more {α : Type} (l : List α) {a b : Nat} (h : a ≤ b) : l.take a ++ (l.drop a).take (b - a) = l.take b := by
  conv => rhs; rw [show b = a + (b - a) by omega, List.take_add]
theorem letters_one {s : ByteArray} {a b : Nat} (h : a < b) (hb : b ≤ s.size) : (s.extract a b).size ≠ 0 := by
  rw [ByteArray.size_extract]; omega
theorem lettersF_ok (s : ByteArray) : ∀ (k pos begin' : Nat) (acc : List ByteArray), begin' ≤ s.size → catL acc = s.data.toList.take begin' → (∀ t ∈ acc, t.size ≠ 0) → acc.length ≤ begin' →
    (lettersF s k pos begin' acc).1 ≤ s.size ∧ catL (lettersF s k pos begin' acc).2 = s.data.toList.take (lettersF s k pos begin' acc).1 ∧ (∀ t ∈ (lettersF s k pos begin' acc).2, t.size ≠ 0) ∧ (lettersF s k pos begin' acc).2.length ≤ (lettersF s k pos begin' acc).1 := by
  intro k
  induction k with
  | zero => intro pos b acc h1 h2 h3 h4; exact ⟨h1, h2, h3, h4⟩
  | succ k ih =>
    intro pos b acc h1 h2 h3 h4
    unfold lettersF
    split
    · rename_i hp
      by_cases hb : b < pos
      · rw [if_pos hb, if_pos hb]
        refine ih _ _ _ (by omega) ?_ ?_ (by simp; omega)
        · rw [catL_append, catL_one, h2, extract_list, take_more _ (by omega)]
        · intro t ht
          rw [List.mem_append, List.mem_singleton] at ht
          rcases ht with ht | rfl
          · exact h3 t ht
          · exact letters_one hb (by omega)
      · rw [if_neg hb, if_neg hb]
        exact ih _ _ _ h1 h2 h3 h4
    · exact ⟨h1, h2, h3, h4⟩
theorem letters_ok (s : ByteArray) : catL (lettersB s) = s.data.toList ∧ (∀ t ∈ lettersB s, t.size ≠ 0) ∧ (lettersB s).length ≤ s.size := by
  obtain ⟨h1, h2, h3, h4⟩ := lettersF_ok s (s.size + 1) 0 0 [] (Nat.zero_le _) (by simp [catL]) (by simp) (by simp)
  have hs : s.data.toList.length = s.size := rfl
  unfold lettersB
  split
  · rename_i hl
    refine ⟨?_, ?_, by simp; omega⟩
    · rw [catL_append, catL_one, h2, extract_list, take_more _ (by omega), List.take_of_length_le (by omega)]
    · intro t ht
      rw [List.mem_append, List.mem_singleton] at ht
      rcases ht with ht | rfl
      · exact h3 t ht
      · exact letters_one hl (Nat.le_refl _)
  · rename_i hl
    exact ⟨by rw [h2, List.take_of_length_le (by omega)], h3, by omega⟩

set_option maxHeartbeats 4000000 in
theorem lettersOf_any (s : ByteArray) (w : World) (hs : s.size ≤ 1000) :
    Calls Tryz.prog 116 #[.string s] w fun e w' => ∃ v, e = .returned v ∧ w'.ownsRow w.heap.size 9 1 v (lettersB s).length (strCells (lettersB s)) ∧ Below w.heap.size w w' := by
  obtain ⟨i0, hi, hz0, hz1, hz2⟩ := info_parts info_str
  have hend : Hid (∀ b acc, lettersF s (s.size + 1) 0 0 [] = (b, acc) → lettersB s = if b < s.size then acc ++ [s.extract b s.size] else acc) := by
    intro b acc e; unfold lettersB; rw [e]
  go_enter Tryz.func116, Tryz.ntmps116
  go_wp2_with fail
  go_loopg [3, 4] (s.size + 1) (fun g v vb wr => ∃ (pos fuel b n : Nat) (acc : List ByteArray), g = fuel ∧ s.size < pos + fuel ∧ b ≤ pos ∧ b ≤ s.size ∧ n ≤ b ∧ vb = .int .i64 b ∧ wr.heap[w.heap.size]? = some (.stringIter s pos) ∧ wr.ownsRow (w.heap.size + 1) 9 1 v n (strCells acc) ∧ Hid (lettersF s fuel pos b acc = lettersF s (s.size + 1) 0 0 []) ∧ Below w.heap.size w wr)
  case atStart => exact ⟨0, s.size + 1, 0, 0, [], rfl, by omega, by omega, by omega, by omega, rfl, World.iter_heap w s 0, World.ownsRow_nil _ _ _ _, rfl, (Below.refl _ _).alloc (Nat.le_refl _) _⟩
  case round =>
    obtain ⟨pos, fuel, b, n, acc, rfl, hpf, hbp, hbs, hnb, rfl, hit, hown, HS, hbw⟩ := hrel
    have hszr := hbw.size
    obtain ⟨al, cl, rfl⟩ := owns_isSlice hown
    have hwlt : w.heap.size < wr.heap.size := (Array.getElem?_eq_some_iff.1 hit).1
    have hlen : acc.length = n := by have := hown.1; rw [strCells_length] at this; omega
    have hon : ∀ t : ByteArray, ∀ u ∈ [Value.string t], u.oneCell' = true := by intro t u hu; simp at hu; subst hu; rfl
    by_cases hp : pos < s.size
    · have hnx : ∀ ty, (Instr.next (.pointer (some ⟨w.heap.size, 0, none⟩)) true ty).run Tryz.prog wr = _ := fun ty => Lib.run_next_any_at wr w.heap.size s pos ty hit hp
      have hwd := Lib.decode_width_pos s pos hp
      obtain ⟨f', rfl⟩ : ∃ f', gk = f' + 1 := ⟨gk - 1, by omega⟩
      have hit2 := Lib.iterAt_heap wr w.heap.size s pos (pos + (Utf8.decode s pos).2) hit
      have hbw2 := Lib.below_iterAt hbw (k := w.heap.size) (Nat.le_refl _) s (pos + (Utf8.decode s pos).2)
      have hown2 := ownsRow_iterAt hown (k := w.heap.size) (by omega) s (pos + (Utf8.decode s pos).2)
      have hs2 : (wr.iterAt w.heap.size s (pos + (Utf8.decode s pos).2)).heap.size = wr.heap.size := Lib.iterAt_size _ _ _ _
      have HS2 : Hid (lettersF s f' (pos + (Utf8.decode s pos).2) (if b < pos then pos else b) (if b < pos then acc ++ [s.extract b pos] else acc) = lettersF s (s.size + 1) 0 0 []) := by
        have := HS.out
        unfold lettersF at this
        rw [if_pos hp] at this
        exact this
      clear HS hend
      generalize (Utf8.decode s pos).2 = wd at *
      by_cases hb : b < pos
      · have hbI : (b : Int) < pos := by omega
        have hb0 : (b : Int) ≤ pos := by omega
        have hpI : (pos : Int) ≤ s.size := by omega
        rw [if_pos hb, if_pos hb] at HS2
        go_wp2_with (at_builtin; refine wpList_append_own2 rfl (.tmp 14) (.tmp 19) 27 rfl (w.heap.size + 1) 9 i0 _ 1 16 Tryz.underlying27 hi hz0 hz1 hz2 rfl (by decide) (.slice al n cl) n (strCells acc) rfl (hown2.alloc _) ⟨wr.heap.size, 0, none⟩ 1 1 [.string (s.extract b pos)] rfl rfl (cells_new' hs2 [.string (s.extract b pos)] 9) (hon _) (by unfold maxLen; omega) (by omega) (by simp [hs2]; omega) ?_; intro v' w3 hown3 hgr hnew; have hb3 := (hbw2.alloc (by omega) _).grown hgr (by simp [hs2]; omega) (fun j e => by have := (hown2.lt j e).1; omega))
        have hit3 : w3.heap[w.heap.size]? = some (.stringIter s (pos + wd)) := by
          rw [hgr.block w.heap.size (by simp [hs2]; omega) (fun e => by have := (hown2.lt _ e.symm).1; omega), Below.heap_alloc _ _ _ (by omega)]
          exact hit2
        go_roundg f'
        · exact ⟨pos + wd, f', pos, n + 1, acc ++ [s.extract b pos], rfl, by omega, by omega, by omega, by omega, rfl, hit3, by rw [strCells_append]; exact hown3, HS2, hb3⟩
        · omega
      · have hbI : ¬ (b : Int) < pos := by omega
        rw [if_neg hb, if_neg hb] at HS2
        go_wp2_with fail
        go_roundg f'
        · exact ⟨pos + wd, f', b, n, acc, rfl, by omega, by omega, by omega, by omega, rfl, hit2, hown2, HS2, hbw2⟩
        · omega
    · have hnx : ∀ ty, (Instr.next (.pointer (some ⟨w.heap.size, 0, none⟩)) true ty).run Tryz.prog wr = _ := fun ty => Lib.run_next_end_at wr w.heap.size s pos ty hit hp
      have hfe : lettersF s (s.size + 1) 0 0 [] = (b, acc) := by
        rw [← HS.out]
        cases gk with
        | zero => rfl
        | succ k => unfold lettersF; rw [if_neg hp]
      have hB := hend.out b acc hfe
      clear hend HS hfe
      by_cases hb : b < s.size
      · rw [if_pos hb] at hB
        have hbI : (b : Int) < s.size := by omega
        have hB' : Hid (lettersB s = acc ++ [s.extract b s.size]) := hB
        clear hB
        go_wp2_with (at_builtin; refine wpList_append_own2 rfl (.tmp 26) (.tmp 30) 27 rfl (w.heap.size + 1) 9 i0 _ 1 16 Tryz.underlying27 hi hz0 hz1 hz2 rfl (by decide) (.slice al n cl) n (strCells acc) rfl (hown.alloc _) ⟨wr.heap.size, 0, none⟩ 1 1 [.string (s.extract b s.size)] rfl rfl (cells_new wr [.string (s.extract b s.size)] 9) (hon _) (by unfold maxLen; omega) (by omega) (by simp; omega) ?_; intro v' w3 hown3 hgr hnew; have hb3 := (hbw.alloc (by omega) _).grown hgr (by simp; omega) (fun j e => by have := (hown.lt j e).1; omega))
        go_ret
        refine ⟨_, rfl, ?_, hb3⟩
        rw [hB'.out, strCells_append, List.length_append, hlen]
        refine ⟨hown3.1, ?_⟩
        rcases hown3.2 with h | ⟨g, cap, cur, e, h1, h2⟩
        · exact .inl h
        · exact .inr ⟨g, cap, cur, e, by omega, h2⟩
      · rw [if_neg hb] at hB
        have hbI : ¬ (b : Int) < s.size := by omega
        have hB' : Hid (lettersB s = acc) := hB
        clear hB
        go_wp2_with fail
        go_ret
        refine ⟨_, rfl, ?_, hbw⟩
        rw [hB'.out, hlen]
        refine ⟨hown.1, ?_⟩
        rcases hown.2 with h | ⟨g, cap, cur, e, h1, h2⟩
        · exact .inl h
        · exact .inr ⟨g, cap, cur, e, by omega, h2⟩
end Go.Proofs.YtcclgodahlinbaaGreatDoor

namespace Go.Proofs.YtcclgodahlinbaaGreatDoor
open Go.RowKit Go
set_option maxRecDepth 100000

/-- steps of one kind, from a place on -/
def runLen (L : List StepB) (k : Nat) : Nat := ((L.drop k).takeWhile (fun s => decide (s.kind = (L.getD k ⟨0, ByteArray.empty⟩).kind))).length
/-- one run: its kind and its text -/
def runAt (L : List StepB) (b e : Nat) : StepB := ⟨(L.getD b ⟨0, ByteArray.empty⟩).kind, ⟨(catL (((L.take e).drop b).map (·.text))).toArray⟩⟩
def runsF (L : List StepB) : Nat → Nat → List StepB
  | 0, _ => []
  | k + 1, b => if b < L.length then runAt L b (b + runLen L b) :: runsF L k (b + runLen L b) else []
def runsM (L : List StepB) : List StepB := runsF L L.length 0
theorem runLen_pos {L : List StepB} {k : Nat} (h : k < L.length) : 0 < runLen L k ∧ k + runLen L k ≤ L.length := by
  unfold runLen
  refine ⟨?_, ?_⟩
  · rw [List.drop_eq_getElem_cons h, List.takeWhile_cons_of_pos (by simp [List.getD, h])]
    simp
  · have := (List.takeWhile_prefix (l := L.drop k) (fun s => decide (s.kind = (L.getD k ⟨0, ByteArray.empty⟩).kind))).length_le
    rw [List.length_drop] at this
    omega
/-- within a run: the next step is of its kind just where the run goes on -/
theorem runLen_in {L : List StepB} {k j : Nat} (h : k < L.length) (hj : j < runLen L k) : k + j < L.length ∧ ∀ h', (L[k + j]'h').kind = (L.getD k ⟨0, ByteArray.empty⟩).kind := by
  have hp := (runLen_pos h).2
  refine ⟨by omega, fun h' => ?_⟩
  unfold runLen at hj
  have hm := List.getElem_mem hj
  have h1 := List.all_eq_true.1 (List.all_takeWhile (l := L.drop k) (p := fun s => decide (s.kind = (L.getD k ⟨0, ByteArray.empty⟩).kind))) _ hm
  simp only [decide_eq_true_eq] at h1
  rw [← h1, (List.takeWhile_prefix (l := L.drop k) (fun s => decide (s.kind = (L.getD k ⟨0, ByteArray.empty⟩).kind))).getElem hj, List.getElem_drop]
theorem runLen_end {L : List StepB} {k : Nat} (h : k < L.length) (h' : k + runLen L k < L.length) : L[k + runLen L k].kind ≠ (L.getD k ⟨0, ByteArray.empty⟩).kind := by
  have key : ∀ (l : List StepB) (p : StepB → Bool) (hl : (l.takeWhile p).length < l.length), p (l[(l.takeWhile p).length]) = false := by
    intro l p
    induction l with
    | nil => intro hl; simp at hl
    | cons a l ih =>
      intro hl
      by_cases ha : p a = true
      · have e : (a :: l).takeWhile p = a :: l.takeWhile p := List.takeWhile_cons_of_pos ha
        simp only [e, List.length_cons, List.getElem_cons_succ]
        exact ih (by have h2 := hl; rw [e] at h2; simpa using h2)
      · have e : (a :: l).takeWhile p = [] := List.takeWhile_cons_of_neg ha
        simp only [e, List.length_nil, List.getElem_cons_zero]
        simpa using ha
  have hl : ((L.drop k).takeWhile (fun s => decide (s.kind = (L.getD k ⟨0, ByteArray.empty⟩).kind))).length < (L.drop k).length := by
    rw [List.length_drop]
    unfold runLen at h'
    omega
  have := key (L.drop k) _ hl
  simp only [decide_eq_false_iff_not, List.getElem_drop] at this
  exact this
end Go.Proofs.YtcclgodahlinbaaGreatDoor

namespace Go.Proofs.YtcclgodahlinbaaGreatDoor
open Go.RowKit Go
set_option maxRecDepth 100000

theorem info_run : (Tryz.prog.info? 101).map (fun i => (i.zero, i.size, i.bytes)) = some (some (.agg #[.int .u8 0, .string ByteArray.empty]), 2, 24) := by kernel_rfl
theorem byteCells_cat (l : List ByteArray) (s : ByteArray) : Lib.byteCells (catL l) ++ Lib.strCells s = Lib.byteCells (catL (l ++ [s])) := by
  rw [catL_append, catL_one]
  simp [Lib.byteCells, Lib.strCells]
theorem catL_take_le (L : List StepB) (b e : Nat) : (catL (((L.take e).drop b).map (·.text))).length ≤ (catL (L.map (·.text))).length := by
  have h1 : ∀ (a c : List StepB), (catL ((a ++ c).map (·.text))).length = (catL (a.map (·.text))).length + (catL (c.map (·.text))).length := by intro a c; rw [List.map_append, catL_append, List.length_append]
  have h2 := h1 (L.take e) (L.drop e)
  rw [List.take_append_drop] at h2
  have h3 := h1 ((L.take e).take b) ((L.take e).drop b)
  rw [List.take_append_drop] at h3
  omega
theorem step_take (L : List StepB) {b e : Nat} (hb : b ≤ e) (he : e < L.length) : ((L.take (e + 1)).drop b).map (·.text) = ((L.take e).drop b).map (·.text) ++ [L[e].text] := by
  rw [List.take_succ_eq_append_getElem he, List.drop_append_of_le_length (by rw [List.length_take]; omega)]
  simp
theorem owns_lowR {B base n : Nat} {w w' : World} {v : Value} {xs : List Value} (h : w.ownsRow base 101 2 v n xs) (hb : Below B w w') (hB : ∀ g, v.ownBlock = some g → g < B) : w'.ownsRow base 101 2 v n xs := by
  refine ⟨h.1, ?_⟩
  rcases h.2 with h2 | ⟨g, cap, cur, e, h1, h2, h3⟩
  · exact .inl h2
  · exact .inr ⟨g, cap, cur, e, h1, (hb.block g (hB g (by rw [e]; rfl))).trans h2, h3⟩
set_option maxHeartbeats 4000000 in
theorem runsOf_any {L : List StepB} {a : Option Addr} {cap : Nat} {w : World} (hS : StepsAt w.heap.size w (.slice a L.length cap) L) (hL : L.length ≤ 1000) (hT : (catL (L.map (·.text))).length ≤ 100000) :
    Calls Tryz.prog 115 #[.slice a L.length cap] w fun e w' => ∃ v, e = .returned v ∧ w'.ownsRow w.heap.size 101 2 v (runsM L).length (stepCells (runsM L)) ∧ Below w.heap.size w w' := by
  obtain ⟨i0, hi, hz0, hz1, hz2⟩ := info_parts info_run
  go_enter Tryz.func115, Tryz.ntmps115
  go_wp2_with fail
  go_loopg [3, 4] L.length (fun g v t wr => ∃ (b fuel n : Nat) (R : List StepB), g = L.length - b ∧ b ≤ L.length ∧ L.length ≤ b + fuel ∧ t = .int .i64 b ∧ n ≤ b ∧ wr.ownsRow w.heap.size 101 2 v n (stepCells R) ∧ R.length = n ∧ Hid (R ++ runsF L fuel b = runsM L) ∧ Below w.heap.size w wr)
  case atStart => exact ⟨0, L.length, 0, [], by omega, by omega, by omega, rfl, by omega, World.ownsRow_nil _ _ _ _, rfl, rfl, Below.refl _ _⟩
  case round =>
    obtain ⟨b, fuel, n, R, hgk, hbl, hbf, rfl, hnb, hown, hRn, HR, hbw⟩ := hrel
    have hszr := hbw.size
    obtain ⟨ar, cr, rfl⟩ := owns_isSlice hown
    have hG : Hid (gk = L.length - b) := hgk
    clear hgk
    by_cases hb : b < L.length
    · have hbI : (b : Int) < L.length := by omega
      obtain ⟨sb, rfl, hsb, k0, _⟩ := (hS.below hbw).at hb
      obtain ⟨rp1, rp2⟩ := runLen_pos hb
      obtain ⟨f', rfl⟩ : ∃ f', fuel = f' + 1 := ⟨fuel - 1, by omega⟩
      have HR2 : Hid ((R ++ [runAt L b (b + runLen L b)]) ++ runsF L f' (b + runLen L b) = runsM L) := by
        have := HR.out
        rw [runsF, if_pos hb] at this
        show _ = _
        rw [← this, List.append_assoc]
        rfl
      have hkd : (L.getD b ⟨0, ByteArray.empty⟩).kind = L[b].kind := by simp [List.getD, hb]
      have hin := fun j (hj : j < runLen L b) => runLen_in hb hj
      have hen := fun h' => runLen_end hb h'
      rw [hkd] at hen
      have hrun : runAt L b (b + runLen L b) = ⟨L[b].kind, ⟨(catL (((L.take (b + runLen L b)).drop b).map (·.text))).toArray⟩⟩ := by unfold runAt; rw [hkd]
      rw [hrun] at HR2
      simp only [hkd] at hin
      clear hrun hkd HR
      have hinH : Hid (∀ j, j < runLen L b → b + j < L.length ∧ ∀ h', (L[b + j]'h').kind = L[b].kind) := hin
      have henH : Hid (∀ h', (L[b + runLen L b]'h').kind ≠ L[b].kind) := hen
      clear hin hen
      generalize runLen L b = r at *
      generalize hkk : L[b].kind = kd at *
      have hkk' : Hid (L[b].kind = kd) := hkk
      clear hkk
      have hst := hS.below hbw
      have hU := heap_alloc_new wr (.cells #[.pointer none, .slice none 0 0] 74)
      have bU := (Below.refl wr.heap.size wr).alloc (Nat.le_refl _) (.cells #[.pointer none, .slice none 0 0] 74)
      have sU : (wr.alloc (.cells #[.pointer none, .slice none 0 0] 74)).heap.size = wr.heap.size + 1 := by simp
      have k0' : (wr.alloc (.cells #[.pointer none, .slice none 0 0] 74)).cell? ⟨sb, b * 2, none⟩ = some (.int .u8 (kd : Nat)) := (bU.cell (p := ⟨sb, b * 2, none⟩) (by show sb < wr.heap.size; omega)).trans k0
      have hB0 : ∃ ad vb, BldM wr.heap.size ad vb (Lib.byteCells (catL (((L.take b).drop b).map (·.text)))) (wr.alloc (.cells #[.pointer none, .slice none 0 0] 74)) := by
        rw [List.drop_eq_nil_of_le (by rw [List.length_take]; omega)]
        exact ⟨_, _, ⟨hU, .inl rfl, World.ownsRow_nil _ _ _ _⟩⟩
      clear k0
      go_wp2_with fail
      generalize wr.alloc (.cells #[.pointer none, .slice none 0 0] 74) = U at *
      go_loopg [7] r (fun g t wi => ∃ e : Nat, g = b + r - e ∧ b ≤ e ∧ e ≤ b + r ∧ t = .int .i64 e ∧ (∃ ad vb, BldM wr.heap.size ad vb (Lib.byteCells (catL (((L.take e).drop b).map (·.text)))) wi) ∧ Below wr.heap.size U wi)
      case atStart => exact ⟨b, by omega, by omega, by omega, rfl, hB0, Below.refl _ _⟩
      case round =>
        rename World => wi
        obtain ⟨e, hge, he1, he2, rfl, ⟨ad, vb, hbm⟩, hbi⟩ := hrel
        have hGe : Hid (_ = b + r - e) := hge
        clear hge
        have hbwi : Below wr.heap.size wr wi := bU.trans hbi
        have hsti : StepsAt w.heap.size wi (.slice (some ⟨sb, 0, none⟩) L.length cap) L := hst.below (hbwi.mono hszr)
        have hszi := hbwi.size
        have hlti := hbm.lt
        by_cases her : e < b + r
        · obtain ⟨hel, hek⟩ := hinH.out (e - b) (by omega)
          have hel' : e < L.length := by omega
          have heI : (e : Int) < L.length := by omega
          obtain ⟨sb2, e2, _, c0, c1⟩ := hsti.at hel'
          cases e2
          have hke : L[e].kind = kd := by have := hek (by omega); rw [← this]; congr 2; omega
          rw [hke] at c0
          have hst2 := step_take L he1 hel'
          have htl := catL_take_le L b (e + 1)
          rw [hst2, catL_append, catL_one, List.length_append] at htl
          have hcs : L[e].text.data.toList.length = L[e].text.size := rfl
          have hwb := writeString_bld L[e].text hbm (by rw [Lib.byteCells_length]; omega)
          have hst3 : Hid (((L.take (e + 1)).drop b).map (·.text) = ((L.take e).drop b).map (·.text) ++ [L[e].text]) := hst2
          clear hst2 htl hcs hek hke
          go_wp2_with fail
          refine hwb.mono ?_
          rintro e' wj ⟨rfl, vb', hbm', bj, _⟩
          go_wp2_with fail
          go_roundg (b + r - (e + 1))
          · exact ⟨e + 1, rfl, by omega, by omega, by push_cast; rfl, ⟨_, vb', by rw [hst3.out, ← byteCells_cat]; exact hbm'⟩, hbi.trans bj⟩
          · have := hGe.out; omega
        · obtain rfl : e = b + r := by omega
          have hstr := bstring_bld ⟨ad, vb, hbm⟩
          have hownI := owns_lowR hown hbwi (fun g e => (hown.lt g e).2)
          have hlen := catL_take_le L b (b + r)
          generalize hTX : (⟨(catL (((L.take (b + r)).drop b).map (·.text))).toArray⟩ : ByteArray) = TX at *
          clear hTX
          have hfin : ∀ (W : World), Below wr.heap.size wr W → W.ownsRow w.heap.size 101 2 (.slice ar n cr) n (stepCells R) := fun W hW => owns_lowR hown hW (fun g e => (hown.lt g e).2)
          have hone : ∀ u ∈ [Value.int .u8 (kd : Int), Value.string TX], u.oneCell' = true := by intro u hu; simp at hu; rcases hu with rfl | rfl <;> rfl
          have hcase : (¬ ((b + r : Nat) : Int) < L.length) ∨ ∃ h' : b + r < L.length, L[b + r].kind ≠ kd := by
            by_cases h' : b + r < L.length
            · exact .inr ⟨h', henH.out h'⟩
            · exact .inl (by omega)
          generalize hee : b + r = E at *
          have hEl : E ≤ L.length := by omega
          rcases hcase with hc1 | ⟨h', hkn⟩
          · go_wp2_with fail
            refine hstr.mono ?_
            rintro e' wj ⟨rfl, bj, _⟩
            have hj := hfin wj (hbwi.trans bj)
            have hsj := (hbwi.trans bj).size
            go_wp2_with (at_builtin; refine wpList_append_own2 rfl (.tmp 39) (.tmp 43) 100 rfl w.heap.size 101 i0 _ 2 24 Tryz.underlying100 hi hz0 hz1 hz2 rfl (by decide) (.slice ar n cr) n (stepCells R) rfl (hj.alloc _) ⟨wj.heap.size, 0, none⟩ 1 1 [.int .u8 (kd : Int), .string TX] rfl rfl (cells_new wj [.int .u8 (kd : Int), .string TX] 101) hone (by unfold maxLen; omega) (by omega) (by simp; omega) ?_; intro v' w3 hown3 hgr hnew; have hb3 := ((hbw.trans ((hbwi.trans bj).mono hszr)).alloc (by omega) _).grown hgr (by simp; omega) (fun j e => (hj.lt j e).1))
            go_roundg (L.length - E)
            · exact ⟨E, f', n + 1, R ++ [⟨kd, TX⟩], rfl, hEl, by omega, rfl, by omega, by rw [stepCells_append]; exact hown3, by simp [hRn], HR2, hb3⟩
            · have := hG.out; omega
          · have heI : (E : Int) < L.length := by omega
            obtain ⟨sb2, e2, _, c0, c1⟩ := hsti.at h'
            cases e2
            generalize L[E].kind = ke at *
            have hkq : ((ke : Int) == (kd : Int)) = false := by simp; omega
            go_wp2_with fail
            refine hstr.mono ?_
            rintro e' wj ⟨rfl, bj, _⟩
            have hj := hfin wj (hbwi.trans bj)
            have hsj := (hbwi.trans bj).size
            go_wp2_with (at_builtin; refine wpList_append_own2 rfl (.tmp 39) (.tmp 43) 100 rfl w.heap.size 101 i0 _ 2 24 Tryz.underlying100 hi hz0 hz1 hz2 rfl (by decide) (.slice ar n cr) n (stepCells R) rfl (hj.alloc _) ⟨wj.heap.size, 0, none⟩ 1 1 [.int .u8 (kd : Int), .string TX] rfl rfl (cells_new wj [.int .u8 (kd : Int), .string TX] 101) hone (by unfold maxLen; omega) (by omega) (by simp; omega) ?_; intro v' w3 hown3 hgr hnew; have hb3 := ((hbw.trans ((hbwi.trans bj).mono hszr)).alloc (by omega) _).grown hgr (by simp; omega) (fun j e => (hj.lt j e).1))
            go_roundg (L.length - E)
            · exact ⟨E, f', n + 1, R ++ [⟨kd, TX⟩], rfl, hEl, by omega, rfl, by omega, by rw [stepCells_append]; exact hown3, by simp [hRn], HR2, hb3⟩
            · have := hG.out; omega
    · obtain rfl : b = L.length := by omega
      have hR : R = runsM L := by
        have := HR.out
        cases fuel with
        | zero => simpa [runsF] using this
        | succ k => unfold runsF at this; rw [if_neg hb] at this; simpa using this
      go_wp2_with fail
      go_ret
      exact ⟨_, rfl, by rw [← hR, hRn]; exact hown, hbw⟩
end Go.Proofs.YtcclgodahlinbaaGreatDoor

namespace Go.Proofs.YtcclgodahlinbaaGreatDoor
open Go.RowKit Go
set_option maxRecDepth 100000

theorem owns_addrr {w : World} {base e size n cl : Nat} {al : Option Addr} {xs : List Value} (h : w.ownsRow base e size (.slice al n cl) n xs) : ∀ a, al = some a → a = ⟨a.block, 0, none⟩ := by
  intro a ha
  subst ha
  rcases h.2 with ⟨e, _⟩ | ⟨g, cap, cur, e, _⟩
  · cases e
  · cases e; rfl
theorem info_rs : (Tryz.prog.info? 100).map (fun i => (i.zero, i.size, i.bytes)) = some (some (.slice none 0 0), 1, 24) := by kernel_rfl
/-- a thing of a row is written over -/
theorem owns_set2r {w : World} {bl n i : Nat} {xs : List Value} {a b : Value} {al : Option Addr} {cl : Nat} (h : w.ownsRow bl 101 2 (.slice al n cl) n (pats [a, b] i ++ xs.drop (i * 2))) (hx : xs.length = n * 2) (hi : i < n) :
    ∃ g, al = some ⟨g, 0, none⟩ ∧ g < w.heap.size ∧ (∃ cur, w.heap[g]? = some (.cells cur 101 (0, 0)) ∧ i * 2 + 1 < cur.size) ∧ ((w.setCell ⟨g, i * 2, none⟩ a).setCell ⟨g, i * 2 + 1, none⟩ b).ownsRow bl 101 2 (.slice al n cl) n (pats [a, b] (i + 1) ++ xs.drop ((i + 1) * 2)) := by
  rcases h.2 with ⟨_, h0⟩ | ⟨g, cap, cur, e, hb, hg, h1, h2, h3, h4⟩
  · omega
  · cases e
    have hsz : i * 2 + 1 < cur.size := by rw [h3]; omega
    have hpl : (pats [a, b] i).length = i * 2 := pats_length [a, b] i
    refine ⟨g, rfl, (Array.getElem?_eq_some_iff.1 hg).1, ⟨cur, hg, hsz⟩, ?_, .inr ⟨g, cl, _, rfl, hb, heap_setCell_same _ _ _ _ _ _ _ (heap_setCell_same _ _ _ _ _ _ _ hg), h1, h2, by simp [h3], ?_⟩⟩
    · rw [List.length_append, pats_length, List.length_drop, hx]
      show (i + 1) * 2 + _ = _
      omega
    · have h5 : List.take (n * 2) ((cur.setIfInBounds (i * 2) a).setIfInBounds (i * 2 + 1) b).toList = ((List.take (n * 2) cur.toList).set (i * 2) a).set (i * 2 + 1) b := by
        simp [List.take_set]
      rw [h5, h4]
      apply List.ext_getElem?
      intro j
      rw [List.getElem?_set, List.getElem?_set]
      have hl1 : (pats [a, b] i ++ xs.drop (i * 2)).length = n * 2 := by rw [List.length_append, hpl, List.length_drop, hx]; omega
      have hl2 : (pats [a, b] (i + 1)).length = (i + 1) * 2 := pats_length [a, b] (i + 1)
      by_cases e1 : i * 2 + 1 = j
      · subst e1
        rw [if_pos rfl, if_pos (by rw [List.length_set, hl1]; omega), List.getElem?_append_left (by rw [hl2]; omega)]
        have := pats_get [a, b] (i + 1) i 1 (by omega) (by simp)
        simpa using this.symm
      · rw [if_neg e1]
        by_cases e2 : i * 2 = j
        · subst e2
          rw [if_pos rfl, if_pos (by rw [hl1]; omega), List.getElem?_append_left (by rw [hl2]; omega)]
          have := pats_get [a, b] (i + 1) i 0 (by omega) (by simp)
          simpa using this.symm
        · rw [if_neg e2]
          by_cases e3 : j < i * 2
          · rw [List.getElem?_append_left (by rw [hpl]; omega), List.getElem?_append_left (by rw [hl2]; omega)]
            rw [pats, List.getElem?_append_left (by rw [hpl]; omega)]
          · rw [List.getElem?_append_right (by rw [hpl]; omega), List.getElem?_append_right (by rw [hl2]; omega), List.getElem?_drop, List.getElem?_drop, hpl, hl2]
            congr 1
            omega
/-- one more behind a list of marks: what is kept bears its marks still -/
theorem runsOf_step {base wb bl N cl' : Nat} {al' : Option Addr} {x : WV} {B : Bk} {E : List (Value × Value)} {w4 w5 : World} {t : ByteArray} {v' : Value} {ob : Obj} (K : Kept base wb x { B with r := B.r ++ E } w4) (hN : N ≤ 1990)
    (row4 : w4.ownsRow bl 101 2 (.slice al' N cl') N (pats (patT (.string t)) N)) (hE : ∀ p ∈ E, p.2 = .string t ∧ ∃ al m cl, p.1 = .slice al m cl ∧ m ≤ N ∧ ∀ a, al = some a → a = ⟨a.block, 0, none⟩) (hfr : ∀ p ∈ B.r, p.1.ownBlock = none ∨ p.1.ownBlock ≠ (Value.slice al' N cl').ownBlock)
    (row5 : w5.ownsRow bl 101 2 v' (N + 1) (pats (patT (.string t)) N ++ [.int .u8 63, .string t]))
    (h3 : (v'.ownBlock = (Value.slice al' N cl').ownBlock ∧ (w4.alloc ob).grownBy w5 (Value.slice al' N cl').ownBlock) ∨ ((∀ g, v'.ownBlock = some g → (w4.alloc ob).heap.size ≤ g) ∧ (w4.alloc ob).grownBy w5 none)) :
    Kept base wb x { B with r := B.r ++ E } w5 ∧ Frame base w4 w5 (fun g => some g = (Value.slice al' N cl').ownBlock) ∧ w5.ownsRow bl 101 2 v' (N + 1) (pats (patT (.string t)) (N + 1)) ∧ (∀ p ∈ B.r, p.1.ownBlock = none ∨ p.1.ownBlock ≠ v'.ownBlock) ∧ (∀ g, g < w4.heap.size → some g ≠ (Value.slice al' N cl').ownBlock → w5.heap[g]? = w4.heap[g]?) := by
  have hrow : w5.ownsRow bl 101 2 v' (N + 1) (pats (patT (.string t)) (N + 1)) := row5
  have hold : ∀ g, g < w4.heap.size → some g ≠ (Value.slice al' N cl').ownBlock → w5.heap[g]? = w4.heap[g]? := fun g hg hne => by
    rcases h3 with ⟨_, h⟩ | ⟨_, h⟩
    · rw [h.block g (by simp; omega) hne]; exact Below.heap_alloc w4 ob g hg
    · rw [h.block g (by simp; omega) (by simp)]; exact Below.heap_alloc w4 ob g hg
  have hz : w4.heap.size ≤ w5.heap.size := by
    rcases h3 with ⟨_, h⟩ | ⟨_, h⟩
    · have := h.size; simp at this; omega
    · have := h.size; simp at this; omega
  have hOut : Outs w4 w5 := by
    rcases h3 with ⟨_, h⟩ | ⟨_, h⟩
    · exact (Outs.alloc w4 ob).trans (Outs.of_grown h)
    · exact (Outs.alloc w4 ob).trans (Outs.of_grown h)
  refine ⟨?_, ⟨hz, fun g hg => ?_, hOut⟩, hrow, ?_, hold⟩
  · refine K.skip_r (vb := (Value.slice al' N cl').ownBlock) (fun g hg _ => ?_) hold (fun p hp => ?_)
    · obtain ⟨c, hc⟩ := owns_block row4 hg
      exact ⟨c, _, hc⟩
    · rcases List.mem_append.1 hp with hp' | hp'
      · exact .inl (hfr p hp')
      · by_cases hq : p.1.ownBlock = (Value.slice al' N cl').ownBlock
        · right
          rcases h3 with ⟨e, _⟩ | ⟨_, h⟩
          · obtain ⟨e2, al, m, cl, e1, hm, ha⟩ := hE p hp'
            rw [e2]
            rw [e1] at hq ⊢
            exact Mark.of_owns (pat := patT (.string t)) hrow (by omega) (by omega) (e.trans hq.symm) ha
          · exact (K.r.ok p hp).same fun g _ ⟨c, f, hg⟩ => by
              have hlt := (Array.getElem?_eq_some_iff.1 hg).1
              rw [h.block g (by simp; omega) (by simp)]; exact Below.heap_alloc w4 ob g hlt
        · exact .inl (.inr hq)
  · by_cases hq : some g = (Value.slice al' N cl').ownBlock
    · exact .inr (.inl hq)
    · exact .inl (hold g hg hq)
  · intro p hp
    rcases h3 with ⟨e, _⟩ | ⟨e, _⟩
    · rw [e]; exact hfr p hp
    · cases hv : p.1.ownBlock with
      | none => exact .inl rfl
      | some g =>
        right
        intro e2
        have h1 := e g e2.symm
        have hM := ((K.r.ok p (List.mem_append_left _ hp)).lt g hv).1
        simp at h1
        omega
set_option maxHeartbeats 8000000 in
theorem runsOf_ok {base wb bl n cl : Nat} {al : Option Addr} {x : WV} {B : Bk} {w : World} {xs : List Value} (K : Kept base wb x B w) (hv : w.ownsRow bl 101 2 (.slice al n cl) n xs) (hn : n ≤ 1900)
    (hfresh : ∀ p ∈ B.r, p.1.ownBlock = none ∨ p.1.ownBlock ≠ (Value.slice al n cl).ownBlock) (hbase : base ≤ w.heap.size) (hbl : bl ≤ w.heap.size) (hc : x.c ≤ 8000000000000) (hl : B.r.length ≤ 800000000000) :
    Calls Tryz.prog 85 #[.pointer (some ⟨wb, 0, none⟩), .slice al n cl] w fun e w' => e = .returned (.tuple #[]) ∧ ∃ (x' : WV) (E : List (Value × Value)), Kept base wb x' { B with r := B.r ++ E } w' ∧ E.length = 4 ∧ x'.c = x.c + 1 ∧
      (∀ p ∈ E, p.1.ownBlock = (Value.slice al n cl).ownBlock ∨ ∀ g, p.1.ownBlock = some g → w.heap.size ≤ g) ∧ Frame base w w' (fun g => some g = (Value.slice al n cl).ownBlock) := by
  obtain ⟨i0, hi, ix0, ix1, ix2⟩ := info_parts info_rs
  obtain ⟨j0, ji, jx0, jx1, jx2⟩ := info_parts info_str
  obtain ⟨k0, ki, kx0, kx1, kx2⟩ := info_parts info_run
  have hwb : wb < w.heap.size := (Array.getElem?_eq_some_iff.1 K.blk).1
  go_enter Tryz.func85, Tryz.ntmps85
  go_wp2_with fail
  refine (word_ok K.blk hc).mono ?_
  rintro e w1 ⟨t, rfl, ht8, hk1, hs1, hz1, hO1⟩
  have K1 := K.count hk1 hs1
  have hnw : ∀ g, (Value.slice al n cl).ownBlock = some g → g ≠ wb := fun g hg => by
    obtain ⟨c, hc⟩ := owns_block hv hg
    exact block_ne hc K.blk (by decide)
  have hv1 : w1.ownsRow bl 101 2 (.slice al n cl) n xs := owns_same hv fun g hg => hs1 g (hv.lt g hg).2 (hnw g hg)
  have hxb : (w1.alloc (.cells #[.int .u8 63, .string t] 101)).heap[w1.heap.size]? = some (.cells #[.int .u8 63, .string t] 101 (0, 0)) := heap_alloc_new w1 _
  have hw2 : Hid (∀ g, g < w1.heap.size → (w1.alloc (.cells #[.int .u8 63, .string t] 101)).heap[g]? = w1.heap[g]?) := fun g hg => Below.heap_alloc w1 _ g hg
  have hz2 : (w1.alloc (.cells #[.int .u8 63, .string t] 101)).heap.size = w1.heap.size + 1 := by simp
  have hv2 := hv1.alloc (.cells #[.int .u8 63, .string t] 101)
  have hgx : Hid (∀ g, (Value.slice al n cl).ownBlock = some g → g < w1.heap.size) := fun g hg => (hv1.lt g hg).2
  have hlen : Hid (xs.length = n * 2) := hv.1
  have hF1 : Hid (∀ g, g < w.heap.size → w1.heap[g]? = w.heap[g]? ∨ ∃ cur t fr, w.heap[g]? = some (.cells cur t fr) ∧ t ∈ Tys ∧ base ≤ g) := fun g hg => by
    by_cases e : g = wb
    · subst e; exact .inr ⟨_, _, _, K.blk, by decide, K.wlo⟩
    · exact .inl (hs1 g hg e)
  have hO2 : Hid (Outs w (w1.alloc (.cells #[.int .u8 63, .string t] 101))) := hO1.trans (Outs.alloc _ _)
  have hv0 : Hid (∀ g, (Value.slice al n cl).ownBlock = some g → ∃ cur fr, w1.heap[g]? = some (.cells cur 101 fr)) := fun g hg => by
    obtain ⟨c, hc⟩ := owns_block hv1 hg
    exact ⟨c, _, hc⟩
  go_wp2_with fail
  obtain ⟨xb, hxbE⟩ : ∃ xb, w1.heap.size = xb := ⟨_, rfl⟩
  rw [hxbE] at hxb hz2 ⊢
  generalize w1.alloc (.cells #[.int .u8 63, .string t] 101) = w2 at *
  clear hk1 hs1 hv1
  go_loopg [5] n (fun g t5 wr => ∃ i : Nat, g = n - i ∧ i ≤ n ∧ t5 = .int .i64 i ∧ wr.ownsRow bl 101 2 (.slice al n cl) n (pats (patT (.string t)) i ++ xs.drop (i * 2)) ∧ Hid ((∀ g, some g ≠ (Value.slice al n cl).ownBlock → wr.heap[g]? = w2.heap[g]?) ∧ Outs w wr) ∧ wr.heap.size = xb + 1)
  case atStart => exact ⟨0, by omega, by omega, rfl, by simpa [pats] using hv2, ⟨fun g _ => rfl, hO2.out⟩, hz2⟩
  case round =>
    rename World => wr
    obtain ⟨i, hgi, hin, rfl, hrow, hoth, hzr⟩ := hrel
    have hG : Hid (_ = n - i) := hgi
    clear hgi
    have hxr : wr.heap[xb]? = some (.cells #[.int .u8 63, .string t] 101 (0, 0)) := by
      rw [hoth.out.1 xb (fun e => by have := hgx.out xb e.symm; omega)]; exact hxb
    by_cases hi2 : i < n
    · have hiI : (i : Int) < n := by omega
      obtain ⟨g, rfl, hg, ⟨cur, hcur, hsz⟩, hrow2⟩ := owns_set2r (a := .int .u8 63) (b := .string t) hrow hlen.out hi2
      have c0 : wr.cell? ⟨g, i * 2, none⟩ = some (cur[i * 2]'(by omega)) := cell_of hcur (by simp)
      have c1 : wr.cell? ⟨g, i * 2 + 1, none⟩ = some (cur[i * 2 + 1]'hsz) := cell_of hcur (by simp [hsz])
      have fz : ∀ k, wr.frozen? ⟨g, k, none⟩ = false := fun k => frozen_of hcur
      have y0 : wr.cell? ⟨xb, 0, none⟩ = some (.int .u8 63) := cell_of hxr rfl
      have y1 : wr.cell? ⟨xb, 1, none⟩ = some (.string t) := cell_of hxr rfl
      have hR : (∃ j : Nat, n - (i + 1) = n - j ∧ j ≤ n ∧ Value.int .i64 ((i : Int) + 1) = .int .i64 j ∧ ((wr.setCell ⟨g, i * 2, none⟩ (.int .u8 63)).setCell ⟨g, i * 2 + 1, none⟩ (.string t)).ownsRow bl 101 2 (.slice (some ⟨g, 0, none⟩) n cl) n (pats (patT (.string t)) j ++ xs.drop (j * 2)) ∧ Hid ((∀ g', some g' ≠ (Value.slice (some ⟨g, 0, none⟩) n cl).ownBlock → ((wr.setCell ⟨g, i * 2, none⟩ (.int .u8 63)).setCell ⟨g, i * 2 + 1, none⟩ (.string t)).heap[g']? = w2.heap[g']?) ∧ Outs w ((wr.setCell ⟨g, i * 2, none⟩ (.int .u8 63)).setCell ⟨g, i * 2 + 1, none⟩ (.string t))) ∧ ((wr.setCell ⟨g, i * 2, none⟩ (.int .u8 63)).setCell ⟨g, i * 2 + 1, none⟩ (.string t)).heap.size = xb + 1) := by
        refine ⟨i + 1, rfl, by omega, by push_cast; rfl, hrow2, ⟨fun g' hne => ?_, hoth.out.2.trans ((Outs.setCell _ _ _).trans (Outs.setCell _ _ _))⟩, by simp; exact hzr⟩
        have hgg : g' ≠ g := fun e => hne (by rw [e]; rfl)
        rw [heap_setCell_other _ _ _ _ _ hgg, heap_setCell_other _ _ _ _ _ hgg]
        exact hoth.out.1 g' hne
      have hRH : Hid _ := hR
      clear hR hrow2 hrow hoth hcur hxr
      go_wp2_with fail
      go_roundg (n - (i + 1))
      · exact hRH.out
      · have := hG.out; omega
    · obtain rfl : i = n := by omega
      have hiI : ¬ ((i : Int) < i) := by omega
      have hrow3 : wr.ownsRow bl 101 2 (.slice al i cl) i (pats (patT (.string t)) i) := by
        have h := hrow
        rw [List.drop_of_length_le (by rw [hlen.out]; exact Nat.le_refl _), List.append_nil] at h
        exact h
      have K3 : Kept base wb { x with c := x.c + 1 } B wr := by
        refine Kept.skip_r (vb := (Value.slice al i cl).ownBlock) K1 (fun g hg _ => hv0.out g hg) (fun g hg hne => (hoth.out.1 g hne).trans (hw2.out g hg)) (fun p hp => .inl (hfresh p hp))
      have hFr : Frame base w wr (fun g => some g = (Value.slice al i cl).ownBlock) := by
        refine ⟨by omega, fun g hg => ?_, hoth.out.2⟩
        by_cases e : some g = (Value.slice al i cl).ownBlock
        · exact .inr (.inl e)
        · rw [hoth.out.1 g e, hw2.out g (by omega)]
          rcases hF1.out g hg with h | h
          · exact .inl h
          · exact .inr (.inr h)
      have hKH : Hid (Kept base wb { x with c := x.c + 1 } B wr ∧ Frame base w wr (fun g => some g = (Value.slice al i cl).ownBlock)) := ⟨K3, hFr⟩
      have hnx : Hid ((Value.slice al i cl).ownBlock ≠ some xb) := fun e => by have := hgx.out xb e; omega
      clear K1 K3 hFr hrow hoth hv2 hxb hF1 hv0 hgx
      go_wp2_with fail
      go_loopg [1, 6] 4 (fun g t1 t6 wk => ∃ (j : Nat) (al' : Option Addr) (cl' : Nat) (x' : WV) (E : List (Value × Value)), g = 4 - j ∧ j ≤ 4 ∧ t6 = .int .i64 j ∧ t1 = .slice al' (i + j) cl' ∧ wk.ownsRow bl 101 2 (.slice al' (i + j) cl') (i + j) (pats (patT (.string t)) (i + j)) ∧ Kept base wb x' { B with r := B.r ++ E } wk ∧ E.length = j ∧ x'.c = x.c + 1 ∧
        Hid ((∀ p ∈ E, p.1.ownBlock = (Value.slice al i cl).ownBlock ∨ ∀ g, p.1.ownBlock = some g → w.heap.size ≤ g) ∧ (∀ p ∈ E, p.2 = .string t ∧ ∃ al m cl, p.1 = .slice al m cl ∧ m ≤ i + j ∧ ∀ a, al = some a → a = ⟨a.block, 0, none⟩) ∧ (∀ p ∈ B.r, p.1.ownBlock = none ∨ p.1.ownBlock ≠ (Value.slice al' (i + j) cl').ownBlock) ∧ ((Value.slice al' (i + j) cl').ownBlock = (Value.slice al i cl).ownBlock ∨ ∀ g, (Value.slice al' (i + j) cl').ownBlock = some g → w.heap.size ≤ g) ∧ (Value.slice al' (i + j) cl').ownBlock ≠ some xb ∧ Frame base w wk (fun g => some g = (Value.slice al i cl).ownBlock)) ∧ wk.heap[xb]? = some (.cells #[.int .u8 63, .string t] 101 (0, 0)))
      case atStart => exact ⟨0, al, cl, { x with c := x.c + 1 }, [], rfl, by omega, rfl, rfl, hrow3, by simpa using hKH.out.1, rfl, rfl, ⟨by simp, by simp, hfresh, .inl rfl, hnx.out, hKH.out.2⟩, hxr⟩
      case round =>
        rename World => wk
        obtain ⟨j, al', cl', x', E, hgj, hj4, rfl, rfl, hrowk, Kk, hEl, hxc, hH, hxk⟩ := hrel
        have hG2 : Hid (_ = 4 - j) := hgj
        have hxbk : xb < wk.heap.size := (Array.getElem?_eq_some_iff.1 hxk).1
        clear hgj hKH hnx hrow3 hxr
        by_cases hj2 : j < 4
        · have hjI : (j : Int) < 4 := by omega
          obtain ⟨N, hNe⟩ : ∃ N, (B.r ++ E).length = N := ⟨_, rfl⟩
          have hNN : Hid ((B.r ++ E).length = N) := hNe
          have hN : N = B.r.length + j := by rw [← hNe, List.length_append, hEl]
          have hwbk : wb < wk.heap.size := (Array.getElem?_eq_some_iff.1 Kk.blk).1
          have hbk : base ≤ wk.heap.size := by have := hH.out.2.2.2.2.2.1; omega
          have hblk : bl ≤ wk.heap.size := by have := hH.out.2.2.2.2.2.1; omega
          have c2 : wk.cell? ⟨wb, 6, none⟩ = some x'.r := cell_of Kk.blk rfl
          have hor : wk.ownsRow base 100 1 x'.r N ((B.r ++ E).map (·.1)) := by rw [← hNe]; exact Kk.r.row
          have hmar : wk.ownsRow base 9 1 x'.rm N ((B.r ++ E).map (·.2)) := by rw [← hNe]; exact Kk.r.marks
          have hon1 : ∀ u ∈ [Value.slice al' (i + j) cl'], u.oneCell' = true := by intro u hu; simp at hu; subst hu; rfl
          have hon2 : ∀ u ∈ [Value.string t], u.oneCell' = true := by intro u hu; simp at hu; subst hu; rfl
          have hon3 : ∀ u ∈ [Value.int .u8 63, Value.string t], u.oneCell' = true := by intro u hu; simp at hu; rcases hu with rfl | rfl <;> rfl
          have hm2 : (N + 1) * 24 ≤ 140737488355328 := by omega
          have hm3 : (N + 1) * 16 ≤ 140737488355328 := by omega
          have hm6 : i + j + 1 ≤ 1990 := Nat.le_trans (Nat.add_le_add_right (Nat.add_le_add hn (Nat.le_of_lt hj2)) 1) (by decide)
          have hm5 : (i + j + 1) * 24 ≤ 140737488355328 := Nat.le_trans (Nat.mul_le_mul_right 24 hm6) (by decide)
          have hxcb : x'.c ≤ 8000000000001 := by rw [hxc]; exact Nat.succ_le_succ hc
          have hm1 : N + 1 ≤ maxLen := by unfold maxLen; omega
          have hm4 : i + j + 1 ≤ maxLen := Nat.le_trans hm6 (by decide)
          have hnr : Hid (x'.r.ownBlock ≠ some wb ∧ x'.rm.ownBlock ≠ some wb ∧ x'.r.ownBlock ≠ some xb ∧ x'.rm.ownBlock ≠ some xb ∧ ∀ g, x'.rm.ownBlock = some g → g ≠ wb ∧ some g ≠ x'.r.ownBlock) := by
            refine ⟨fun e => ?_, fun e => ?_, fun e => ?_, fun e => ?_, fun g e => ⟨?_, fun e2 => ?_⟩⟩
            · obtain ⟨c, hc⟩ := owns_block Kk.r.row e; exact block_ne hc Kk.blk (by decide) rfl
            · obtain ⟨c, hc⟩ := owns_block Kk.r.marks e; exact block_ne hc Kk.blk (by decide) rfl
            · obtain ⟨c, hc⟩ := owns_block Kk.r.row e; exact block_ne hc hxk (by decide) rfl
            · obtain ⟨c, hc⟩ := owns_block Kk.r.marks e; exact block_ne hc hxk (by decide) rfl
            · obtain ⟨c, hc⟩ := owns_block Kk.r.marks e; exact block_ne hc Kk.blk (by decide)
            · obtain ⟨c, hc⟩ := owns_block Kk.r.marks e; obtain ⟨c2, hc2⟩ := owns_block Kk.r.row e2.symm; exact block_ne hc hc2 (by decide) rfl
          have hA : Hid (∀ (ob : Obj) (wA : World), (wk.alloc ob).grownBy wA x'.r.ownBlock → wA.heap[wb]? = some x'.obj ∧ wA.heap[xb]? = some (.cells #[.int .u8 63, .string t] 101 (0, 0)) ∧ wA.ownsRow base 9 1 x'.rm N ((B.r ++ E).map (·.2)) ∧ wk.heap.size ≤ wA.heap.size) := by
            intro ob wA g1
            have k1 : ∀ g, g < wk.heap.size → some g ≠ x'.r.ownBlock → wA.heap[g]? = wk.heap[g]? := fun g hg hne => by
              rw [g1.block g (by simp; omega) hne]; exact Below.heap_alloc wk ob g hg
            have z1 := g1.size
            simp at z1
            exact ⟨(k1 wb hwbk (fun e => hnr.out.1 e.symm)).trans Kk.blk, (k1 xb hxbk (fun e => hnr.out.2.2.1 e.symm)).trans hxk, owns_same hmar fun g hg => k1 g (Kk.r.marks.lt g hg).2 (hnr.out.2.2.2.2 g hg).2, by omega⟩
          have hM : Hid (Mark 101 2 (patT (.string t)) wk (.slice al' (i + j) cl')) := Mark.of_owns (pat := patT (.string t)) hrowk (Nat.le_refl _) (by exact Nat.le_trans (Nat.le_succ _) (Nat.le_trans hm6 (by decide))) rfl (owns_addrr hrowk)
          have hKH : Hid (Kept base wb x' { B with r := B.r ++ E } wk) := Kk
          have hrH : Hid (wk.ownsRow bl 101 2 (.slice al' (i + j) cl') (i + j) (pats (patT (.string t)) (i + j))) := hrowk
          have haddr : Hid (∀ a, al' = some a → a = ⟨a.block, 0, none⟩) := owns_addrr hrowk
          have hfzk : ∀ k, wk.frozen? ⟨wb, k, none⟩ = false := fun k => frozen_of Kk.blk
          have hxkH : Hid (wk.heap[xb]? = some (.cells #[.int .u8 63, .string t] 101 (0, 0))) := hxk
          have hxw : xb ≠ wb := block_ne hxk Kk.blk (by decide)
          clear Kk hrowk hxk hlen hw2 hN hNe
          go_wp2_with (at_builtin; refine wpList_append_own2 rfl (.tmp 28) (.tmp 30) 53 rfl base 100 i0 _ 1 24 Tryz.underlying53 hi ix0 ix1 ix2 rfl (by decide) x'.r N ((B.r ++ E).map (·.1)) rfl (hor.alloc _) ⟨wk.heap.size, 0, none⟩ 1 1 [.slice al' (i + j) cl'] rfl rfl (cells_new wk _ _) hon1 hm1 hm2 (by simp; omega) ?_; intro v1 wA o1 g1 n1; obtain ⟨a1, c1, rfl⟩ := owns_isSlice o1; obtain ⟨bA, xA, mA, zA⟩ := hA.out _ wA g1; have cA : wA.cell? ⟨wb, 6, none⟩ = some x'.r := cell_of bA rfl; have fA : ∀ k, wA.frozen? ⟨wb, k, none⟩ = false := fun k => frozen_of bA; have o1H : Hid _ := o1; have g1H : Hid _ := g1; clear o1 g1 n1)
          obtain ⟨U, hUe⟩ : ∃ U, wA.setCell ⟨wb, 6, none⟩ (.slice a1 (N + 1) c1) = U := ⟨_, rfl⟩
          have bU : U.heap[wb]? = some ({ x' with r := .slice a1 (N + 1) c1 } : WV).obj := by rw [← hUe, heap_setCell_same _ _ _ _ _ _ _ bA]; rfl
          have xU : U.heap[xb]? = some (.cells #[.int .u8 63, .string t] 101 (0, 0)) := by rw [← hUe, heap_setCell_other _ _ _ _ _ hxw]; exact xA
          have mU : U.ownsRow base 9 1 x'.rm N ((B.r ++ E).map (·.2)) := by rw [← hUe]; exact owns_same mA fun g hg => heap_setCell_other _ _ _ _ _ (hnr.out.2.2.2.2 g hg).1
          have zU : wk.heap.size ≤ U.heap.size := by rw [← hUe]; simpa using zA
          have d3 : U.cell? ⟨wb, 7, none⟩ = some x'.rm := cell_of bU rfl
          have dx : U.cell? ⟨xb, 1, none⟩ = some (.string t) := cell_of xU rfl
          have dfz : ∀ k, U.frozen? ⟨wb, k, none⟩ = false := fun k => frozen_of bU
          have hxbU : xb < U.heap.size := Nat.lt_of_lt_of_le hxbk zU
          have hwbU : wb < U.heap.size := Nat.lt_of_lt_of_le hwbk zU
          have hbs : ∀ ob, base ≤ ((U.alloc ob).drew).heap.size := by intro ob; simp; exact Nat.le_trans (Nat.le_trans hbk zU) (Nat.le_succ _)
          have mUd : ((U.alloc (.cells #[.string t] 9)).drew).ownsRow base 9 1 x'.rm N ((B.r ++ E).map (·.2)) := mU.alloc _
          have hcn : ∀ (j : Nat) (u : Value), [Value.string t][j]? = some u → ((U.alloc (.cells #[.string t] 9)).drew).cell? ((⟨U.heap.size, 0, none⟩ : Addr).add j) = some u := cells_new U [.string t] 9
          have hY : Hid (∀ (ob : Obj) (w3 : World), ((U.alloc ob).drew).grownBy w3 x'.rm.ownBlock → w3.heap[wb]? = U.heap[wb]?) := by
            intro ob w3 g2
            rw [g2.block wb (by simp; exact Nat.lt_of_lt_of_le hwbU (Nat.le_succ _)) (fun e => hnr.out.2.1 e.symm)]
            exact Below.heap_alloc U ob wb hwbU
          have hpush : Hid (∀ (ob : Obj) (v2 : Value) (w3 : World), ((U.alloc ob).drew).grownBy w3 x'.rm.ownBlock → w3.ownsRow base 9 1 v2 (N + 1) ((B.r ++ E).map (·.2) ++ [.string t]) → (v2.ownBlock = x'.rm.ownBlock ∨ ∀ g, v2.ownBlock = some g → ((U.alloc ob).drew).heap.size ≤ g) →
              ∃ x2 : WV, Kept base wb x2 { B with r := B.r ++ (E ++ [(.slice al' (i + j) cl', .string t)]) } (w3.setCell ⟨wb, 7, none⟩ v2) ∧ x2.c = x'.c ∧ Frame base wk (w3.setCell ⟨wb, 7, none⟩ v2) (fun _ => False)) := by
            intro ob v2 w3 g2 o2 n2
            obtain ⟨k1, k2⟩ := hKH.out.push_r (m := .string t) (v1 := .slice a1 (N + 1) c1) (v2 := v2) (w3 := w3) g1H.out (by show wA.ownsRow base 100 1 _ ((B.r ++ E).length + 1) _; rw [hNN.out]; exact o1H.out) (by rw [hUe]; exact ⟨g2.os, g2.tape, g2.output, g2.size, g2.block⟩) (by show w3.ownsRow base 9 1 _ ((B.r ++ E).length + 1) _; rw [hNN.out]; exact o2) (n2.imp id fun h g e => by have h1 := h g e; simp at h1; omega) hM.out ⟨fun h => absurd h (by decide), fun _ => ⟨t, rfl⟩⟩
            refine ⟨{ x' with r := .slice a1 (N + 1) c1, rm := v2 }, ?_, rfl, k2⟩
            rw [← List.append_assoc]
            exact k1
          clear bA xA mA zA cA fA
          rw [hUe]
          clear hUe o1H g1H bU xU hA hor c2 hfzk hmar
          go_cut [] (fun wx => ∃ x2 : WV, Kept base wb x2 { B with r := B.r ++ (E ++ [(.slice al' (i + j) cl', .string t)]) } wx ∧ x2.c = x'.c ∧ Frame base wk wx (fun _ => False))
          case first =>
            go_region_law (refine step_append_own rfl (.tmp 38) (.tmp 41) 27 rfl base 9 j0 _ 1 16 Tryz.underlying27 ji jx0 jx1 jx2 rfl (by decide) x'.rm N ((B.r ++ E).map (·.2)) (by simp [Act.eval]) mUd ⟨U.heap.size, 0, none⟩ 1 1 [.string t] (by simp [Act.eval]) rfl hcn hon2 hm1 hm3 (hbs _) ?_; intro v2 w3 o2 g2 n2; obtain ⟨a2, c2, rfl⟩ := owns_isSlice o2; have b3 := hY.out _ w3 g2; have e3 := (World.cell?_of_block (a := ⟨wb, 7, none⟩) b3).trans d3; have f3 := fun k => (World.frozen?_of_block (a := ⟨wb, k, none⟩) b3).trans (dfz k))
            all_goals
              have hR := hpush.out _ _ w3 g2 o2 n2
              have hRH : Hid _ := hR
              clear hR hpush hY g2 o2 n2
              go_wp2_with fail
              go_meet
              case rel => exact hRH.out
          case rest =>
            obtain ⟨x2, K4, hx2c, F4⟩ := hcut
            obtain ⟨W4, rfl⟩ : ∃ W4, W4 = wc := ⟨_, rfl⟩
            have hx4 : W4.heap[xb]? = some (.cells #[.int .u8 63, .string t] 101 (0, 0)) := (F4.at hxkH.out (by decide) (fun h => h)).trans hxkH.out
            have row4 : W4.ownsRow bl 101 2 (.slice al' (i + j) cl') (i + j) (pats (patT (.string t)) (i + j)) := owns_same hrH.out fun g hg => by
              obtain ⟨c, hc⟩ := owns_block hrH.out hg
              exact F4.at hc (by decide) (fun h => h)
            have hbl4 : bl ≤ W4.heap.size := Nat.le_trans hblk F4.1
            have e0 : W4.cell? ⟨xb, 0, none⟩ = some (.int .u8 63) := cell_of hx4 rfl
            have e1 : W4.cell? ⟨xb, 1, none⟩ = some (.string t) := cell_of hx4 rfl
            have hFin : Hid (∀ (ob : Obj) (v5 : Value) (w5 : World), w5.ownsRow bl 101 2 v5 (i + j + 1) (pats (patT (.string t)) (i + j) ++ [.int .u8 63, .string t]) → ((v5.ownBlock = (Value.slice al' (i + j) cl').ownBlock ∧ (W4.alloc ob).grownBy w5 (Value.slice al' (i + j) cl').ownBlock) ∨ ((∀ g, v5.ownBlock = some g → (W4.alloc ob).heap.size ≤ g) ∧ (W4.alloc ob).grownBy w5 none)) →
                ∃ (j' : Nat) (al5 : Option Addr) (cl5 : Nat) (x5 : WV) (E5 : List (Value × Value)), 4 - (j + 1) = 4 - j' ∧ j' ≤ 4 ∧ Value.int .i64 ((j : Int) + 1) = .int .i64 j' ∧ v5 = .slice al5 (i + j') cl5 ∧ w5.ownsRow bl 101 2 (.slice al5 (i + j') cl5) (i + j') (pats (patT (.string t)) (i + j')) ∧ Kept base wb x5 { B with r := B.r ++ E5 } w5 ∧ E5.length = j' ∧ x5.c = x.c + 1 ∧
                Hid ((∀ p ∈ E5, p.1.ownBlock = (Value.slice al i cl).ownBlock ∨ ∀ g, p.1.ownBlock = some g → w.heap.size ≤ g) ∧ (∀ p ∈ E5, p.2 = .string t ∧ ∃ al m cl, p.1 = .slice al m cl ∧ m ≤ i + j' ∧ ∀ a, al = some a → a = ⟨a.block, 0, none⟩) ∧ (∀ p ∈ B.r, p.1.ownBlock = none ∨ p.1.ownBlock ≠ (Value.slice al5 (i + j') cl5).ownBlock) ∧ ((Value.slice al5 (i + j') cl5).ownBlock = (Value.slice al i cl).ownBlock ∨ ∀ g, (Value.slice al5 (i + j') cl5).ownBlock = some g → w.heap.size ≤ g) ∧ (Value.slice al5 (i + j') cl5).ownBlock ≠ some xb ∧ Frame base w w5 (fun g => some g = (Value.slice al i cl).ownBlock)) ∧ w5.heap[xb]? = some (.cells #[.int .u8 63, .string t] 101 (0, 0))) := by
              intro ob v5 w5 row5 h3
              obtain ⟨q1, q2, q3, q4, q5, q6⟩ := hH.out
              have hE2 : ∀ p ∈ E ++ [(Value.slice al' (i + j) cl', Value.string t)], p.2 = .string t ∧ ∃ al m cl, p.1 = .slice al m cl ∧ m ≤ i + j ∧ ∀ a, al = some a → a = ⟨a.block, 0, none⟩ := by
                intro p hp
                rcases List.mem_append.1 hp with hp | hp
                · exact q2 p hp
                · rw [List.mem_singleton] at hp
                  subst hp
                  exact ⟨rfl, al', i + j, cl', rfl, Nat.le_refl _, haddr.out⟩
              obtain ⟨s1, s2, s3, s4, s5⟩ := runsOf_step (ob := ob) K4 (Nat.le_of_succ_le hm6) row4 hE2 q3 row5 h3
              obtain ⟨al5, cl5, rfl⟩ := owns_isSlice row5
              have hFz := F4.1
              have hq61 := q6.1
              have hold : (Value.slice al5 (i + j + 1) cl5).ownBlock = (Value.slice al' (i + j) cl').ownBlock ∨ ∀ g, (Value.slice al5 (i + j + 1) cl5).ownBlock = some g → W4.heap.size ≤ g := h3.imp (fun h => h.1) (fun h g e => by have := h.1 g e; simp at this; omega)
              refine ⟨j + 1, al5, cl5, x2, _, rfl, hj2, by push_cast; rfl, rfl, s3, s1, by rw [List.length_append, hEl]; rfl, hx2c.trans hxc, ⟨?_, ?_, s4, ?_, ?_, ?_⟩, ?_⟩
              · intro p hp
                rcases List.mem_append.1 hp with hp | hp
                · exact q1 p hp
                · rw [List.mem_singleton] at hp
                  subst hp
                  exact q4
              · intro p hp
                obtain ⟨r1, al, m, cl, r2, r3, r4⟩ := hE2 p hp
                exact ⟨r1, al, m, cl, r2, Nat.le_succ_of_le r3, r4⟩
              · rcases hold with h | h
                · have h' : (Value.slice al5 (i + (j + 1)) cl5).ownBlock = (Value.slice al' (i + j) cl').ownBlock := h
                  rw [h']; exact q4
                · right
                  intro g e
                  have := h g e
                  omega
              · rcases hold with h | h
                · have h' : (Value.slice al5 (i + (j + 1)) cl5).ownBlock = (Value.slice al' (i + j) cl').ownBlock := h
                  rw [h']; exact q5
                · intro e
                  have := h xb e
                  omega
              · have hF := (q6.trans F4).trans s2
                refine hF.mono fun g hg h => ?_
                rcases h with (h | h) | h
                · exact h
                · exact h.elim
                · rcases q4 with e | e
                  · exact h.trans e
                  · have := e g h.symm; omega
              · rw [s5 xb (by omega) (fun e => q5 e.symm)]
                exact hx4
            clear hH hKH hM K4 F4 hnr hrH
            go_wp2_with (at_builtin; refine wpList_append_own3 rfl (.tmp 45) (.tmp 47) 100 rfl bl 101 k0 _ 2 24 Tryz.underlying100 ki kx0 kx1 kx2 rfl (by decide) (.slice al' (i + j) cl') (i + j) (pats (patT (.string t)) (i + j)) rfl (row4.alloc _) ⟨W4.heap.size, 0, none⟩ 1 1 [.int .u8 63, .string t] rfl rfl (cells_new W4 _ _) hon3 hm4 hm5 (by simp; omega) ?_; intro v5 w5 row5 h3; have hR := hFin.out _ v5 w5 row5 h3; have hRH : Hid _ := hR; clear hR row5 h3)
            go_roundg (4 - (j + 1))
            · exact hRH.out
            · have := hG2.out; omega
        · obtain rfl : j = 4 := by omega
          have hR : ∃ (x' : WV) (E : List (Value × Value)), Kept base wb x' { B with r := B.r ++ E } wk ∧ E.length = 4 ∧ x'.c = x.c + 1 ∧ (∀ p ∈ E, p.1.ownBlock = (Value.slice al i cl).ownBlock ∨ ∀ g, p.1.ownBlock = some g → w.heap.size ≤ g) ∧ Frame base w wk (fun g => some g = (Value.slice al i cl).ownBlock) := ⟨x', E, Kk, hEl, hxc, hH.out.1, hH.out.2.2.2.2.2⟩
          have hRH : Hid _ := hR
          clear hR Kk hH hrowk hxk
          go_wp2_with fail
          go_end0
          exact ⟨rfl, hRH.out⟩
end Go.Proofs.YtcclgodahlinbaaGreatDoor

namespace Go.Proofs.YtcclgodahlinbaaGreatDoor
open Go.RowKit Go
set_option maxRecDepth 100000

abbrev hkObj (h : HunkM) (a : Option Addr) (c : Nat) : Obj := .cells #[.int .i64 (h.fr : Int), .int .i64 (h.fc : Int), .int .i64 (h.tr : Int), .int .i64 (h.tc : Int), .slice a h.lines.length c] 61 (0, 0)
set_option maxHeartbeats 8000000 in
theorem same_yes {hs : List HunkM} {a b : Option Addr} {ca cb : Nat} {w : World} (hA : HunksAt w.heap.size w (.slice a hs.length ca) hs) (hB : HunksAt w.heap.size w (.slice b hs.length cb) hs) (hL : hs.length ≤ 1000) (hl : ∀ h ∈ hs, h.lines.length ≤ 1000) :
    Calls Tryz.prog 19 #[.agg #[.slice a hs.length ca], .agg #[.slice b hs.length cb]] w fun e w' => e = .returned (.bool true) ∧ Below w.heap.size w w' := by
  have hb0 := ((Below.refl w.heap.size w).alloc (Nat.le_refl _) (.cells #[.slice a hs.length ca] 32)).alloc (by simp) (.cells #[.slice b hs.length cb] 32)
  have hP1 := heap_alloc_new w (.cells #[.slice a hs.length ca] 32)
  have hP2 := heap_alloc_new (w.alloc (.cells #[.slice a hs.length ca] 32)) (.cells #[.slice b hs.length cb] 32)
  rw [World.size_alloc] at hP2
  have hP1' := (Below.heap_alloc (w.alloc (.cells #[.slice a hs.length ca] 32)) (.cells #[.slice b hs.length cb] 32) w.heap.size (by simp)).trans hP1
  have hz : ((w.alloc (.cells #[.slice a hs.length ca] 32)).alloc (.cells #[.slice b hs.length cb] 32)).heap.size = w.heap.size + 2 := by simp
  go_enter Tryz.func19, Tryz.ntmps19
  go_wp2_with fail
  generalize (w.alloc (.cells #[.slice a hs.length ca] 32)).alloc (.cells #[.slice b hs.length cb] 32) = W0 at *
  clear hP1
  go_loopg [5] hs.length (fun g t wr => ∃ k : Nat, g = hs.length - k ∧ k ≤ hs.length ∧ t = .int .i64 k ∧ Below W0.heap.size W0 wr)
  case atStart => exact ⟨0, by omega, by omega, rfl, Below.refl _ _⟩
  case round =>
    obtain ⟨k, hgk, hkl, rfl, hbel⟩ := hrel
    have hG : Hid (gk = hs.length - k) := hgk
    clear hgk
    have hsw := hbel.size
    have hbw := hb0.trans (hbel.mono (by omega))
    have p1 : wr.cell? ⟨w.heap.size, 0, none⟩ = some (.slice a hs.length ca) := cell_of ((hbel.block w.heap.size (by omega)).trans hP1') rfl
    have p2 : wr.cell? ⟨w.heap.size + 1, 0, none⟩ = some (.slice b hs.length cb) := cell_of ((hbel.block (w.heap.size + 1) (by omega)).trans hP2) rfl
    by_cases hk : k < hs.length
    · have hkI : (k : Int) < hs.length := by omega
      obtain ⟨bA, a1, c1, rfl, hbA, r0, r1, r2, r3, r4, hsA⟩ := (hA.below hbw).at hk
      obtain ⟨bB, a2, c2, rfl, hbB, t0, t1, t2, t3, t4, hsB⟩ := (hB.below hbw).at hk
      have l1 := hl _ (List.getElem_mem hk)
      generalize hs[k] = h at *
      have q1 := (Below.refl wr.heap.size wr).alloc (Nat.le_refl _) (hkObj h a1 c1)
      have q2 := q1.alloc q1.size (hkObj h a2 c2)
      have hX1 := heap_alloc_new wr (hkObj h a1 c1)
      have hX2 := heap_alloc_new (wr.alloc (hkObj h a1 c1)) (hkObj h a2 c2)
      rw [World.size_alloc] at hX2
      have hX1' := (Below.heap_alloc (wr.alloc (hkObj h a1 c1)) (hkObj h a2 c2) wr.heap.size (by simp)).trans hX1
      have hzU : ((wr.alloc (hkObj h a1 c1)).alloc (hkObj h a2 c2)).heap.size = wr.heap.size + 2 := by simp
      have t0' : (wr.alloc (hkObj h a1 c1)).cell? ⟨bB, k * 5, none⟩ = some (.int .i64 (h.fr : Int)) := (q1.cell (p := ⟨bB, k * 5, none⟩) (by show bB < wr.heap.size; omega)).trans t0
      have t1' : (wr.alloc (hkObj h a1 c1)).cell? ⟨bB, k * 5 + 1, none⟩ = some (.int .i64 (h.fc : Int)) := (q1.cell (p := ⟨bB, k * 5 + 1, none⟩) (by show bB < wr.heap.size; omega)).trans t1
      have t2' : (wr.alloc (hkObj h a1 c1)).cell? ⟨bB, k * 5 + 2, none⟩ = some (.int .i64 (h.tr : Int)) := (q1.cell (p := ⟨bB, k * 5 + 2, none⟩) (by show bB < wr.heap.size; omega)).trans t2
      have t3' : (wr.alloc (hkObj h a1 c1)).cell? ⟨bB, k * 5 + 3, none⟩ = some (.int .i64 (h.tc : Int)) := (q1.cell (p := ⟨bB, k * 5 + 3, none⟩) (by show bB < wr.heap.size; omega)).trans t3
      have t4' : (wr.alloc (hkObj h a1 c1)).cell? ⟨bB, k * 5 + 4, none⟩ = some (.slice a2 h.lines.length c2) := (q1.cell (p := ⟨bB, k * 5 + 4, none⟩) (by show bB < wr.heap.size; omega)).trans t4
      have p2' : (wr.alloc (hkObj h a1 c1)).cell? ⟨w.heap.size + 1, 0, none⟩ = some (.slice (some ⟨bB, 0, none⟩) hs.length cb) := (q1.cell (p := ⟨w.heap.size + 1, 0, none⟩) (by show w.heap.size + 1 < wr.heap.size; omega)).trans p2
      clear hX1 t0 t1 t2 t3 t4
      have e0 : ∀ x : Int, (x != x) = false := by simp
      go_wp2_with fail
      generalize (wr.alloc (hkObj h a1 c1)).alloc (hkObj h a2 c2) = U at *
      have hbU := hbel.trans (q2.mono (by omega))
      have hsA' := hsA.below (q2.mono (by omega))
      have hsB' := hsB.below (q2.mono (by omega))
      clear t0' t1' t2' t3' t4' p2' r0 r1 r2 r3 r4 p1 p2 hsA hsB q1
      unfold hkObj at hX1' hX2
      generalize h.lines = M at *
      go_loopg [8] M.length (fun g t wi => ∃ j : Nat, g = M.length - j ∧ j ≤ M.length ∧ t = .int .i64 j ∧ Below U.heap.size U wi)
      case atStart => exact ⟨0, by omega, by omega, rfl, Below.refl _ _⟩
      case round =>
        rename World => wi
        obtain ⟨j, hgj, hjl, rfl, hbi⟩ := hrel
        have hGj : Hid (_ = M.length - j) := hgj
        clear hgj
        have hsi := hbi.size
        have x1 : wi.cell? ⟨wr.heap.size, 4, none⟩ = some (.slice a1 M.length c1) := cell_of ((hbi.block wr.heap.size (by omega)).trans hX1') rfl
        have x2 : wi.cell? ⟨wr.heap.size + 1, 4, none⟩ = some (.slice a2 M.length c2) := cell_of ((hbi.block (wr.heap.size + 1) (by omega)).trans hX2) rfl
        by_cases hj : j < M.length
        · have hjI : (j : Int) < M.length := by omega
          obtain ⟨g1, rfl, hg1, u0, u1⟩ := (hsA'.below (hbi.mono (by omega))).at hj
          obtain ⟨g2, rfl, hg2, v0, v1⟩ := (hsB'.below (hbi.mono (by omega))).at hj
          generalize M[j] = sx at *
          have hjI0 : (0 : Int) ≤ (j : Int) := by omega
          go_wp2_with fail
          go_quiet (fail)
          go_wp2_with fail
          go_roundg (M.length - (j + 1))
          · exact ⟨j + 1, rfl, by omega, by push_cast; rfl, Below.drewN' hbi⟩
          · have := hGj.out; omega
        · have hjI : ¬ ((j : Int) < M.length) := by omega
          go_wp2_with fail
          go_roundg (hs.length - (k + 1))
          · exact ⟨k + 1, rfl, by omega, by push_cast; rfl, hbU.trans (hbi.mono (by omega))⟩
          · have := hG.out; omega
    · have hkI : ¬ ((k : Int) < hs.length) := by omega
      go_wp2_with fail
      go_ret
      exact ⟨rfl, hbw⟩
end Go.Proofs.YtcclgodahlinbaaGreatDoor
