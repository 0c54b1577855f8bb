import Derived.Test.YtcclgodahlinbaaGreatDoorPatchesuptoT09
import Derived.Test.YtcclgodahlinbaaGreatDoorPatchesuptoT07
import Derived.Test.YtcclgodahlinbaaGreatDoorPatchesuptoT04
import Derived.BigQuiet
import Derived.Test.YtcclgodahlinbaaGreatDoorPatchesuptoT06
import Derived.Deep.RegionLaw
import Derived.Deep.DeepCutAuto
import Derived.Test.YtcclgodahlinbaaGreatDoorPatchesuptoT03
namespace Go.Proofs.YtcclgodahlinbaaGreatDoor
open Go.RowKit Go
set_option maxRecDepth 100000
theorem lentCells_get (bs : List (HI × Nat)) (Z : List Value) {i : Nat} (h : i < bs.length) :
    (lentCells bs ++ Z)[i * 5]? = some (.int .i64 bs[i].1.fr) ∧ (lentCells bs ++ Z)[i * 5 + 1]? = some (.int .i64 bs[i].1.fc) ∧ (lentCells bs ++ Z)[i * 5 + 2]? = some (.int .i64 bs[i].1.tr) ∧ (lentCells bs ++ Z)[i * 5 + 3]? = some (.int .i64 bs[i].1.tc) ∧
    (lentCells bs ++ Z)[i * 5 + 4]? = some (.slice (some ⟨bs[i].2, 0, none⟩) bs[i].1.lines.length (bs[i].1.lines.length + 2)) := by
  induction bs generalizing i with
  | nil => simp at h
  | cons p l ih =>
    cases i with
    | zero => simp [lentCells, lentH]
    | succ i =>
      have hi : i < l.length := by simpa using h
      obtain ⟨h0, h1, h2, h3, h4⟩ := ih hi
      have e : ∀ k, (lentCells (p :: l) ++ Z)[(i + 1) * 5 + k]? = (lentCells l ++ Z)[i * 5 + k]? := fun k => by
        have : (i + 1) * 5 + k = (i * 5 + k) + 5 := by omega
        rw [this]
        simp [lentCells, lentH]
      exact ⟨(e 0).trans h0, (e 1).trans h1, (e 2).trans h2, (e 3).trans h3, (e 4).trans h4⟩
theorem Lent.hunks {base ga cap : Nat} {vr : Value} {bs : List (HI × Nat)} {Z : List Value} {W : World} (L : Lent base ga vr bs Z W) {hs : List HI} (hm : bs.map (·.1) = hs) : HIAt W.heap.size W (.slice (some ⟨ga, 0, none⟩) hs.length cap) hs := by
  subst hm
  refine .inr ⟨ga, 0, cap, rfl, (Array.getElem?_eq_some_iff.1 L.all).1, fun i hi => ?_⟩
  have hi' : i < bs.length := by simpa using hi
  obtain ⟨h0, h1, h2, h3, h4⟩ := lentCells_get bs Z hi'
  have hl := (L.line bs[i] (List.getElem_mem hi')).2
  simp only [List.getElem_map, Nat.zero_add]
  refine ⟨_, _, cell_of L.all (by simpa using h0), cell_of L.all (by simpa using h1), cell_of L.all (by simpa using h2), cell_of L.all (by simpa using h3), cell_of L.all (by simpa using h4), .inr ⟨bs[i].2, 0, _, rfl, (Array.getElem?_eq_some_iff.1 hl).1, fun j hj => ?_⟩⟩
  have hj' : j < (bs[i].1.lines ++ [behindS, behindS]).length := by simp; omega
  obtain ⟨c0, c1⟩ := stepCells_get (bs[i].1.lines ++ [behindS, behindS]) j hj'
  rw [List.getElem_append_left hj] at c0 c1
  rw [Nat.zero_add]
  exact ⟨cell_of hl (by simpa [lentLine] using c0), cell_of hl (by simpa [lentLine] using c1)⟩
theorem Lent.row {base ga : Nat} {vr : Value} {bs : List (HI × Nat)} {Z : List Value} {W : World} (L : Lent base ga vr bs Z W) {p : HI × Nat} (hp : p ∈ bs) (hl : p.1.lines.length ≤ 1048576) : W.ownsRow base 93 2 (lentRow p) (p.1.lines.length + 2) (lentLine p.1) := by
  obtain ⟨h1, h2⟩ := L.line p hp
  have hz : (lentLine p.1).length = (p.1.lines.length + 2) * 2 := by unfold lentLine; rw [stepCells_length]; simp
  exact ⟨hz, .inr ⟨p.2, p.1.lines.length + 2, _, rfl, h1, h2, Nat.le_refl _, by unfold maxLen; omega, by simpa using hz, by simp [← hz]⟩⟩
theorem Lent.behind {base ga : Nat} {vr : Value} {bs : List (HI × Nat)} {Z : List Value} {W : World} (L : Lent base ga vr bs Z W) {p : HI × Nat} (hp : p ∈ bs) :
    W.cell? ⟨p.2, p.1.lines.length * 2, none⟩ = some (.int .u8 33) ∧ W.cell? ⟨p.2, p.1.lines.length * 2 + 1, none⟩ = some (.string behindS.text) ∧ W.cell? ⟨p.2, (p.1.lines.length + 1) * 2, none⟩ = some (.int .u8 33) ∧ W.cell? ⟨p.2, (p.1.lines.length + 1) * 2 + 1, none⟩ = some (.string behindS.text) := by
  obtain ⟨h1, h2⟩ := L.line p hp
  have e : lentLine p.1 = stepCells p.1.lines ++ [.int .u8 33, .string behindS.text, .int .u8 33, .string behindS.text] := by unfold lentLine; rw [stepCells_append]; rfl
  rw [e] at h2
  have g : ∀ k, (stepCells p.1.lines ++ [Value.int .u8 33, .string behindS.text, .int .u8 33, .string behindS.text])[p.1.lines.length * 2 + k]? = [Value.int .u8 33, .string behindS.text, .int .u8 33, .string behindS.text][k]? := fun k => by
    rw [List.getElem?_append_right (by rw [stepCells_length]; omega), stepCells_length]
    congr 1
    omega
  refine ⟨cell_of h2 (by simpa using g 0), cell_of h2 (by simpa using g 1), cell_of h2 ?_, cell_of h2 ?_⟩
  · rw [show (p.1.lines.length + 1) * 2 = p.1.lines.length * 2 + 2 by omega]; simpa using g 2
  · rw [show (p.1.lines.length + 1) * 2 + 1 = p.1.lines.length * 2 + 3 by omega]; simpa using g 3
structure LentLeft (base wb ga : Nat) (x : WV) (B : Bk) (vr : Value) (bs : List (HI × Nat)) (w : World) (i : Nat) (x' : WV) (E : List (Value × Value)) (wi : World) : Prop where
  kept : Kept base wb x' { B with l := B.l ++ E } wi
  len : E.length = 4 * i
  c : x'.c = x.c + i
  line : ∀ q ∈ bs.drop i, wi.heap[q.2]? = w.heap[q.2]?
  all : wi.heap[ga]? = w.heap[ga]?
  rows : ∀ g, vr.ownBlock = some g → wi.heap[g]? = w.heap[g]? ∧ x'.l.ownBlock ≠ some g ∧ x'.lm.ownBlock ≠ some g
  far : ∀ p ∈ B.l ++ E, ∀ q ∈ bs.drop i, p.1.ownBlock = none ∨ p.1.ownBlock ≠ some q.2
  fr : Frame base w wi (fun g => ∃ q ∈ bs, q.2 = g)
  new : ∀ p ∈ E, ∀ g, p.1.ownBlock = some g → (∃ q ∈ bs, q.2 = g) ∨ w.heap.size ≤ g
theorem LentLeft.start {base wb bl ga : Nat} {x : WV} {B : Bk} {vr : Value} {bs : List (HI × Nat)} {Z : List Value} {w wi : World} (K : Kept base wb x B wi) (L : Lent bl ga vr bs Z w) (hb : Below w.heap.size w wi) (hfl : ∀ p ∈ B.l, ∀ q ∈ bs, p.1.ownBlock = none ∨ p.1.ownBlock ≠ some q.2)
    (hown : ∀ g, vr.ownBlock = some g → x.l.ownBlock ≠ some g ∧ x.lm.ownBlock ≠ some g) : LentLeft base wb ga x B vr bs w 0 x [] wi :=
  ⟨by simpa using K, rfl, rfl, fun q hq => hb.block q.2 (Array.getElem?_eq_some_iff.1 (L.line q (by simpa using hq)).2).1, hb.block ga (Array.getElem?_eq_some_iff.1 L.all).1, fun g hg => ⟨hb.block g (L.rows.lt g hg).2, hown g hg⟩, fun p hp q hq => hfl p (by simpa using hp) q (by simpa using hq), (Frame.of_below hb).mono (fun _ _ h => h.elim), by simp⟩
theorem LentLeft.next {base wb bl ga i : Nat} {x x1 x2 : WV} {B : Bk} {vr : Value} {bs : List (HI × Nat)} {Z : List Value} {w wi w' : World} {E E2 : List (Value × Value)} (h : LentLeft base wb ga x B vr bs w i x1 E wi) (L : Lent bl ga vr bs Z w) (hi : i < bs.length)
    (k : Kept base wb x2 { B with l := B.l ++ E ++ E2 } w') (he : E2.length = 4) (hc : x2.c = x1.c + 1) (ho : ∀ p ∈ E2, p.1.ownBlock = some bs[i].2 ∨ ∀ g, p.1.ownBlock = some g → wi.heap.size ≤ g) (hF : Frame base wi w' (fun g => some g = some bs[i].2))
    (hR : ∀ g, vr.ownBlock = some g → w'.heap[g]? = wi.heap[g]? ∧ x2.l.ownBlock ≠ some g ∧ x2.lm.ownBlock ≠ some g) : LentLeft base wb ga x B vr bs w (i + 1) x2 (E ++ E2) w' := by
  have hdrop : bs.drop i = bs[i] :: bs.drop (i + 1) := List.drop_eq_getElem_cons hi
  have hsub : ∀ q ∈ bs.drop (i + 1), q ∈ bs.drop i := fun q hq => by rw [hdrop]; exact List.mem_cons_of_mem _ hq
  have hap : ∀ q ∈ bs.drop (i + 1), bs[i].2 ≠ q.2 := by
    have h0 := List.Pairwise.sublist (List.drop_sublist i bs) L.apart
    rw [hdrop] at h0
    exact (List.pairwise_cons.1 h0).1
  have hbs : ∀ q ∈ bs.drop i, q ∈ bs := fun q hq => List.mem_of_mem_drop hq
  have hsz := h.fr.1
  refine ⟨by rw [← List.append_assoc]; exact k, by rw [List.length_append, h.len, he]; omega, by rw [hc, h.c]; omega, fun q hq => ?_, ?_, fun g hg => ?_, fun p hp q hq => ?_, ?_, fun p hp g e => ?_⟩
  · have h1 := h.line q (hsub q hq)
    have h2 := h1.trans (L.line q (hbs q (hsub q hq))).2
    rw [hF.at h2 (by decide) (fun e => hap q hq (Option.some.inj e).symm)]
    exact h1
  · have h2 := h.all.trans L.all
    rw [hF.at h2 (by decide) (fun e => ?_)]
    · exact h.all
    · exact block_ne (L.line bs[i] (List.getElem_mem hi)).2 L.all (by decide) (Option.some.inj e).symm
  · obtain ⟨h1, h2, h3⟩ := hR g hg
    exact ⟨h1.trans (h.rows g hg).1, h2, h3⟩
  · rw [← List.append_assoc] at hp
    rcases List.mem_append.1 hp with hp | hp
    · exact h.far p hp q (hsub q hq)
    · rcases ho p hp with e | e
      · right
        rw [e]
        exact fun e2 => hap q hq (Option.some.inj e2)
      · cases hv : p.1.ownBlock with
        | none => exact .inl rfl
        | some g =>
          right
          intro e2
          cases e2
          have h1 := e q.2 hv
          have h2 := (Array.getElem?_eq_some_iff.1 (L.line q (hbs q (hsub q hq))).2).1
          omega
  · refine (h.fr.trans hF).mono fun g _ hg => ?_
    rcases hg with hg | hg
    · exact hg
    · exact ⟨bs[i], List.getElem_mem hi, (Option.some.inj hg).symm⟩
  · rcases List.mem_append.1 hp with hp | hp
    · exact h.new p hp g e
    · rcases ho p hp with e2 | e2
      · rw [e2] at e
        exact .inl ⟨bs[i], List.getElem_mem hi, Option.some.inj e⟩
      · right
        have := e2 g e
        omega
theorem LentLeft.old {base wb bl ga i : Nat} {x x1 : WV} {B : Bk} {vr : Value} {bs : List (HI × Nat)} {Z : List Value} {w wi W : World} {E : List (Value × Value)} (L : Lent bl ga vr bs Z w) (h : LentLeft base wb ga x B vr bs w i x1 E wi) (hW : ∀ k, k < wi.heap.size → W.heap[k]? = wi.heap[k]?) (hz : wi.heap.size ≤ W.heap.size) (hO : Outs wi W) : LentLeft base wb ga x B vr bs w i x1 E W := by
  have hs := h.fr.1
  refine ⟨h.kept.old hW, h.len, h.c, fun q hq => ?_, ?_, fun g hg => ?_, h.far, ?_, h.new⟩
  · have := (Array.getElem?_eq_some_iff.1 (L.line q (List.mem_of_mem_drop hq)).2).1
    exact (hW q.2 (by omega)).trans (h.line q hq)
  · have := (Array.getElem?_eq_some_iff.1 L.all).1
    exact (hW ga (by omega)).trans h.all
  · have := (L.rows.lt g hg).2
    exact ⟨(hW g (by omega)).trans (h.rows g hg).1, (h.rows g hg).2⟩
  · have hF : Frame base wi W (fun _ => False) := ⟨hz, fun g hg => .inl (hW g hg), hO⟩
    exact (h.fr.trans hF).mono fun g _ hg => hg.elim id (fun h => h.elim)
theorem LentLeft.call {base wb bl ga i : Nat} {x x1 : WV} {B : Bk} {vr : Value} {bs : List (HI × Nat)} {Z : List Value} {w W : World} {E : List (Value × Value)} (L : Lent bl ga vr bs Z w) (h : LentLeft base wb ga x B vr bs w i x1 E W) (hi : i < bs.length) (hl : bs[i].1.lines.length ≤ 1048576) (hbl : bl ≤ w.heap.size) (hbase : base ≤ w.heap.size) (hn : bs.length ≤ 300000) (hc : x.c ≤ 7000000000000) (hll : B.l.length ≤ 700000000000)
    {pb : Nat} {ob : Array Value} {t : Nat} (hpb : W.heap[pb]? = some (.cells ob t (0, 0))) (ht : t ∉ Tys) (hne : w.heap.size ≤ pb) :
    Calls Tryz.prog 113 #[.pointer (some ⟨wb, 0, none⟩), .slice (some ⟨bs[i].2, 0, none⟩) (bs[i].1.lines.length + 2) (bs[i].1.lines.length + 2)] W fun e w' => e = .returned (.tuple #[]) ∧ ∃ (x2 : WV) (E2 : List (Value × Value)), LentLeft base wb ga x B vr bs w (i + 1) x2 E2 w' ∧ w'.heap[pb]? = some (.cells ob t (0, 0)) := by
  have hpm : bs[i] ∈ bs := List.getElem_mem hi
  have hin : bs[i] ∈ bs.drop i := by rw [List.drop_eq_getElem_cons hi]; exact List.mem_cons_self
  have hlt : bs[i].2 < w.heap.size := (Array.getElem?_eq_some_iff.1 (L.line bs[i] hpm).2).1
  have hs := h.fr.1
  have hwb := (Array.getElem?_eq_some_iff.1 h.kept.blk).1
  have hrow : W.ownsRow bl 93 2 (.slice (some ⟨bs[i].2, 0, none⟩) (bs[i].1.lines.length + 2) (bs[i].1.lines.length + 2)) (bs[i].1.lines.length + 2) (lentLine bs[i].1) := owns_same (L.row hpm hl) fun g hg => by cases hg; exact h.line bs[i] hin
  refine (linesOf_far (F := fun g => vr.ownBlock = some g) (bl := bl) h.kept hrow (by omega) (fun p hp => h.far p hp bs[i] hin) (by omega) (by omega) (by rw [h.c]; omega) (by show (B.l ++ E).length ≤ _; rw [List.length_append, h.len]; omega) ?_).mono ?_
  · intro g hg
    have h1 := L.rows.lt g hg
    refine ⟨by omega, fun e => ?_, (h.rows g hg).2.1, (h.rows g hg).2.2, fun e => ?_⟩
    · obtain ⟨c, hcb⟩ := owns_block L.rows hg
      exact block_ne ((h.rows g hg).1.trans hcb) h.kept.blk (by decide) e
    · obtain ⟨c, hcb⟩ := owns_block L.rows hg
      exact block_ne (L.line bs[i] hpm).2 hcb (by decide) (Option.some.inj e)
  · rintro e w' ⟨rfl, x2, E2, k1, k2, k3, k4, k5, k6⟩
    refine ⟨rfl, x2, E ++ E2, h.next L hi k1 k2 k3 k4 k5 (fun g hg => ⟨(k6 g hg).1, (k6 g hg).2⟩), ?_⟩
    rw [k5.at hpb ht (fun e => ?_)]
    · exact hpb
    · have e2 : pb = bs[i].2 := Option.some.inj e
      omega
end Go.Proofs.YtcclgodahlinbaaGreatDoor
namespace Go.Proofs.YtcclgodahlinbaaGreatDoor
open Go.RowKit Go
set_option maxRecDepth 100000
set_option maxHeartbeats 8000000 in
theorem lsame_any {hs : List HI} {a b : Option Addr} {ca cb : Nat} {w : World} (hA : HIAt w.heap.size w (.slice a hs.length ca) hs) (hB : HIAt w.heap.size w (.slice b hs.length cb) hs) (hL : hs.length ≤ 300000) (hl : ∀ h ∈ hs, h.lines.length ≤ 1048576) :
    Calls Tryz.prog 81 #[.agg #[.slice a hs.length ca], .agg #[.slice b hs.length cb]] w fun e w' => e = .returned (.bool true) ∧ Below w.heap.size w w' := by
  have hb0 := ((Below.refl w.heap.size w).alloc (Nat.le_refl _) (.cells #[.slice a hs.length ca] 32)).alloc (by simp) (.cells #[.slice b hs.length cb] 32)
  have hP1 := heap_alloc_new w (.cells #[.slice a hs.length ca] 32)
  have hP2 := heap_alloc_new (w.alloc (.cells #[.slice a hs.length ca] 32)) (.cells #[.slice b hs.length cb] 32)
  rw [World.size_alloc] at hP2
  have hP1' := (Below.heap_alloc (w.alloc (.cells #[.slice a hs.length ca] 32)) (.cells #[.slice b hs.length cb] 32) w.heap.size (by simp)).trans hP1
  have hz : ((w.alloc (.cells #[.slice a hs.length ca] 32)).alloc (.cells #[.slice b hs.length cb] 32)).heap.size = w.heap.size + 2 := by simp
  go_enter Tryz.func81, Tryz.ntmps81
  go_wp2_with fail
  generalize (w.alloc (.cells #[.slice a hs.length ca] 32)).alloc (.cells #[.slice b hs.length cb] 32) = W0 at *
  clear hP1
  go_loopg [5] hs.length (fun g t wr => ∃ k : Nat, g = hs.length - k ∧ k ≤ hs.length ∧ t = .int .i64 k ∧ Below W0.heap.size W0 wr)
  case atStart => exact ⟨0, by omega, by omega, rfl, Below.refl _ _⟩
  case round =>
    obtain ⟨k, hgk, hkl, rfl, hbel⟩ := hrel
    have hG : Hid (gk = hs.length - k) := hgk
    clear hgk
    have hsw := hbel.size
    have hbw := hb0.trans (hbel.mono (by omega))
    have p1 : wr.cell? ⟨w.heap.size, 0, none⟩ = some (.slice a hs.length ca) := cell_of ((hbel.block w.heap.size (by omega)).trans hP1') rfl
    have p2 : wr.cell? ⟨w.heap.size + 1, 0, none⟩ = some (.slice b hs.length cb) := cell_of ((hbel.block (w.heap.size + 1) (by omega)).trans hP2) rfl
    by_cases hk : k < hs.length
    · have hkI : (k : Int) < hs.length := by omega
      obtain ⟨bA, oA, a1, c1, rfl, hbA, r0, r1, r2, r3, r4, hsA⟩ := (hA.below hbw).at hk
      obtain ⟨bB, oB, a2, c2, rfl, hbB, t0, t1, t2, t3, t4, hsB⟩ := (hB.below hbw).at hk
      have l1 := hl _ (List.getElem_mem hk)
      generalize hs[k] = h at *
      have q1 := (Below.refl wr.heap.size wr).alloc (Nat.le_refl _) (hiObj h (.slice a1 h.lines.length c1))
      have q2 := q1.alloc q1.size (hiObj h (.slice a2 h.lines.length c2))
      have hX1 := heap_alloc_new wr (hiObj h (.slice a1 h.lines.length c1))
      have hX2 := heap_alloc_new (wr.alloc (hiObj h (.slice a1 h.lines.length c1))) (hiObj h (.slice a2 h.lines.length c2))
      rw [World.size_alloc] at hX2
      have hX1' := (Below.heap_alloc (wr.alloc (hiObj h (.slice a1 h.lines.length c1))) (hiObj h (.slice a2 h.lines.length c2)) wr.heap.size (by simp)).trans hX1
      have hzU : ((wr.alloc (hiObj h (.slice a1 h.lines.length c1))).alloc (hiObj h (.slice a2 h.lines.length c2))).heap.size = wr.heap.size + 2 := by simp
      have t0' : (wr.alloc (hiObj h (.slice a1 h.lines.length c1))).cell? ⟨bB, oB + k * 5, none⟩ = some (.int .i64 h.fr) := (q1.cell (p := ⟨bB, oB + k * 5, none⟩) (by show bB < wr.heap.size; omega)).trans t0
      have t1' : (wr.alloc (hiObj h (.slice a1 h.lines.length c1))).cell? ⟨bB, oB + k * 5 + 1, none⟩ = some (.int .i64 h.fc) := (q1.cell (p := ⟨bB, oB + k * 5 + 1, none⟩) (by show bB < wr.heap.size; omega)).trans t1
      have t2' : (wr.alloc (hiObj h (.slice a1 h.lines.length c1))).cell? ⟨bB, oB + k * 5 + 2, none⟩ = some (.int .i64 h.tr) := (q1.cell (p := ⟨bB, oB + k * 5 + 2, none⟩) (by show bB < wr.heap.size; omega)).trans t2
      have t3' : (wr.alloc (hiObj h (.slice a1 h.lines.length c1))).cell? ⟨bB, oB + k * 5 + 3, none⟩ = some (.int .i64 h.tc) := (q1.cell (p := ⟨bB, oB + k * 5 + 3, none⟩) (by show bB < wr.heap.size; omega)).trans t3
      have t4' : (wr.alloc (hiObj h (.slice a1 h.lines.length c1))).cell? ⟨bB, oB + k * 5 + 4, none⟩ = some (.slice a2 h.lines.length c2) := (q1.cell (p := ⟨bB, oB + k * 5 + 4, none⟩) (by show bB < wr.heap.size; omega)).trans t4
      have p2' : (wr.alloc (hiObj h (.slice a1 h.lines.length c1))).cell? ⟨w.heap.size + 1, 0, none⟩ = some (.slice (some ⟨bB, oB, none⟩) hs.length cb) := (q1.cell (p := ⟨w.heap.size + 1, 0, none⟩) (by show w.heap.size + 1 < wr.heap.size; omega)).trans p2
      clear hX1 t0 t1 t2 t3 t4
      have e0 : ∀ x : Int, (x != x) = false := by simp
      go_wp2_with fail
      generalize (wr.alloc (hiObj h (.slice a1 h.lines.length c1))).alloc (hiObj h (.slice a2 h.lines.length c2)) = U at *
      have hbU := hbel.trans (q2.mono (by omega))
      have hsA' := hsA.below (q2.mono (by omega))
      have hsB' := hsB.below (q2.mono (by omega))
      clear t0' t1' t2' t3' t4' p2' r0 r1 r2 r3 r4 p1 p2 hsA hsB q1
      unfold hiObj at hX1' hX2
      generalize h.lines = M at *
      go_loopg [8] M.length (fun g t wi => ∃ j : Nat, g = M.length - j ∧ j ≤ M.length ∧ t = .int .i64 j ∧ Below U.heap.size U wi)
      case atStart => exact ⟨0, by omega, by omega, rfl, Below.refl _ _⟩
      case round =>
        rename World => wi
        obtain ⟨j, hgj, hjl, rfl, hbi⟩ := hrel
        have hGj : Hid (_ = M.length - j) := hgj
        clear hgj
        have hsi := hbi.size
        have x1 : wi.cell? ⟨wr.heap.size, 4, none⟩ = some (.slice a1 M.length c1) := cell_of ((hbi.block wr.heap.size (by omega)).trans hX1') rfl
        have x2 : wi.cell? ⟨wr.heap.size + 1, 4, none⟩ = some (.slice a2 M.length c2) := cell_of ((hbi.block (wr.heap.size + 1) (by omega)).trans hX2) rfl
        by_cases hj : j < M.length
        · have hjI : (j : Int) < M.length := by omega
          obtain ⟨g1, o1, rfl, hg1, u0, u1⟩ := (hsA'.below (hbi.mono (by omega))).at hj
          obtain ⟨g2, o2, rfl, hg2, v0, v1⟩ := (hsB'.below (hbi.mono (by omega))).at hj
          generalize M[j] = sx at *
          have hjI0 : (0 : Int) ≤ (j : Int) := by omega
          go_wp2_with fail
          go_quiet (fail)
          go_wp2_with fail
          go_roundg (M.length - (j + 1))
          · exact ⟨j + 1, rfl, by omega, by push_cast; rfl, Below.drewN' hbi⟩
          · have := hGj.out; omega
        · have hjI : ¬ ((j : Int) < M.length) := by omega
          go_wp2_with fail
          go_roundg (hs.length - (k + 1))
          · exact ⟨k + 1, rfl, by omega, by push_cast; rfl, hbU.trans (hbi.mono (by omega))⟩
          · have := hG.out; omega
    · have hkI : ¬ ((k : Int) < hs.length) := by omega
      go_wp2_with fail
      go_ret
      exact ⟨rfl, hbw⟩
end Go.Proofs.YtcclgodahlinbaaGreatDoor
namespace Go.Proofs.YtcclgodahlinbaaGreatDoor
open Go.RowKit Go
set_option maxRecDepth 100000
def UntDone (base wb ga : Nat) (x : WV) (B : Bk) (bs : List (HI × Nat)) (n : Nat) (w w' : World) : Prop :=
  ∃ (x' : WV) (E : List (Value × Value)), Kept base wb x' { B with l := B.l ++ E } w' ∧ E.length = 4 * n ∧ x'.c = x.c + n ∧ Frame base w w' (fun g => g = ga ∨ ∃ q ∈ bs, q.2 = g) ∧ ∀ p ∈ E, ∀ g, p.1.ownBlock = some g → (∃ q ∈ bs, q.2 = g) ∨ w.heap.size ≤ g
theorem wr1 {M : Nat} (h : M ≤ 1048576) : IntKind.i64.wrap ((M : Int) + 1) = (M : Int) + 1 := by rw [IntKind.wrap_i64]; omega
theorem run_lsame (args : Array Value) (w : World) : (callFunc 81 args).run Tryz.prog w = .ok (.enter 81 args) w := enters_of Tryz.func81 (by kernel_rfl) rfl args w
set_option maxHeartbeats 16000000 in
theorem untouched_ok {base wb bl ga : Nat} {x : WV} {B : Bk} {w : World} {hs : List HI} {vr : Value} {bs : List (HI × Nat)} {a : Option Addr} {cap : Nat} (K : Kept base wb x B w) (L : Lent bl ga vr bs lentEnd w) (hmap : bs.map (·.1) = hs) (hn : 0 < hs.length) (hLim : Lim hs) (hbl : bl ≤ w.heap.size) (hbase : base ≤ w.heap.size)
    (hfl : ∀ p ∈ B.l, ∀ q ∈ bs, p.1.ownBlock = none ∨ p.1.ownBlock ≠ some q.2) (hfh : Hid (∀ p ∈ B.h, p.1.ownBlock = none ∨ p.1.ownBlock ≠ some ga)) (hown : ∀ g, vr.ownBlock = some g → x.l.ownBlock ≠ some g ∧ x.lm.ownBlock ≠ some g)
    (hp : ∀ w', Frame base w w' (fun g => g = ga ∨ ∃ q ∈ bs, q.2 = g) → HIAt w.heap.size w' (.slice a hs.length cap) hs) (hc : x.c ≤ 7000000000000) (hll : B.l.length ≤ 700000000000) :
    Calls Tryz.prog 87 #[.pointer (some ⟨wb, 0, none⟩), .slice (some ⟨ga, 0, none⟩) (hs.length + 2) (hs.length + 2), vr, .agg #[.slice a hs.length cap]] w fun e w' => e = .returned (.bool true) ∧ UntDone base wb ga x B bs hs.length w w' := by
  have hb0 := (Below.refl w.heap.size w).alloc (Nat.le_refl _) (.cells #[.slice a hs.length cap] 32)
  have hP1 := heap_alloc_new w (.cells #[.slice a hs.length cap] 32)
  have hz : (w.alloc (.cells #[.slice a hs.length cap] 32)).heap.size = w.heap.size + 1 := by simp
  have hp0 := hp _ ((Frame.of_below hb0.drew).mono fun _ _ h => h.elim)
  have hga := (Array.getElem?_eq_some_iff.1 L.all).1
  have hL0 : HIAt w.heap.size w (.slice (some ⟨ga, 0, none⟩) hs.length (hs.length + 2)) hs := L.hunks hmap
  have hsame := lsame_any (w := (w.alloc (.cells #[.slice a hs.length cap] 32)).drew) ((hL0.below hb0.drew).mono hb0.size) (hp0.mono hb0.size) hLim.1 (fun h hh => (hLim.2 h hh).1)
  have hlh := hLim.1
  have c0 : (w.alloc (.cells #[.slice a hs.length cap] 32)).cell? ⟨w.heap.size, 0, none⟩ = some (.slice a hs.length cap) := cell_of hP1 rfl
  obtain ⟨n, hnE⟩ : ∃ n, hs.length = n := ⟨_, rfl⟩
  have hnH : Hid (hs.length = n) := hnE
  have hpH : Hid (∀ w', Frame base w w' (fun g => g = ga ∨ ∃ q ∈ bs, q.2 = g) → HIAt w.heap.size w' (.slice a n cap) hs) := by rw [← hnE]; exact hp
  have hsH : Hid _ := hsame
  have hLimH : Hid (Lim hs) := hLim
  clear hp hp0 hsame hLim hL0
  rw [hnE] at hn hb0 hP1 hz hlh hsH c0 ⊢
  have hnz : ¬ ((n : Int) = 0) := by omega
  clear hnE
  go_enter Tryz.func87, Tryz.ntmps87
  go_wp2_with fail
  generalize w.alloc (.cells #[.slice a n cap] 32) = W0 at *
  have hI0 : W0.drew.cell? ⟨w.heap.size, 0, none⟩ = some (.slice a n cap) := c0
  have hcall : Calls Tryz.prog 81 #[.agg #[.slice (some ⟨ga, 0, none⟩) n (n + 2)], .agg #[.slice a n cap]] W0.drew fun e w' => ∃ v, e = .returned v ∧ (v = .bool true ∧ Below W0.drew.heap.size W0.drew w') := Calls.mono hsH.out fun e w' h => ⟨_, h.1, rfl, h.2⟩
  refine wp_region_any mixed (wpKind.any (I := fun w' => w'.cell? ⟨w.heap.size, 0, none⟩ = some (.slice a n cap)) ?_)
  refine wpKind_take (i := 0) (n := 6) (v := .slice (some ⟨ga, 0, none⟩) (n + 2) (n + 2)) rfl (by kernel_rfl) (by kernel_rfl) (by kernel_rfl) (fun c a w h => h) ⟨by simp [Region.wanted], fun w' hw => ?_⟩ ?_
  · simp [execOp, go_sem, Act.eval]
  refine wpKind_take (i := 1) (n := 5) (v := .int .i64 (n : Int)) rfl (by kernel_rfl) (by kernel_rfl) (by kernel_rfl) (fun c a w h => h) ⟨by simp [Region.wanted], fun w' hw => ?_⟩ ?_
  · simp [execOp, go_sem, Act.eval, Act.put]
  refine wpKind_take (i := 2) (n := 4) (v := .slice (some ⟨ga, 0, none⟩) n (n + 2)) rfl (by kernel_rfl) (by kernel_rfl) (by kernel_rfl) (fun c a w h => h) ⟨by simp [Region.wanted], fun w' hw => ?_⟩ ?_
  · have k1 : (n : Int) ≤ (n : Int) + 2 := (by omega); simp [execOp, go_sem, Act.eval, Act.put, k1]
  refine wpKind_take (i := 3) (n := 3) (v := .agg #[.slice (some ⟨ga, 0, none⟩) n (n + 2)]) rfl (by kernel_rfl) (by kernel_rfl) (by kernel_rfl) (fun c a w h => h) ⟨by simp [Region.wanted], fun w' hw => ?_⟩ ?_
  · simp [execOp, go_sem, Act.eval, Act.put]
  refine wpKind_take (i := 4) (n := 2) (v := .agg #[.slice a n cap]) rfl (by kernel_rfl) (by kernel_rfl) (by kernel_rfl) (fun c a w h => h) ⟨by simp [Region.wanted], fun w' hw => ?_⟩ ?_
  · simp [execOp, go_sem, Act.eval, Act.put, hw]
  refine wpKind_one (i := 5) (n := 1) hI0 (by kernel_rfl) ?_
  refine wpOp_call rfl rfl 81 _ _ rfl #[.agg #[.slice (some ⟨ga, 0, none⟩) n (n + 2)], .agg #[.slice a n cap]] (by simp [Act.eval, Act.put]) (run_lsame _ _) (fun v w' => v = .bool true ∧ Below W0.drew.heap.size W0.drew w') hcall ?_
  rintro v W1 ⟨rfl, b1⟩
  have hI1 : W1.cell? ⟨w.heap.size, 0, none⟩ = some (.slice a n cap) := (b1.cell (p := ⟨w.heap.size, 0, none⟩) (by show w.heap.size < W0.heap.size; omega)).trans hI0
  refine wpKind_take (i := 6) (n := 0) (v := .bool true) rfl (by kernel_rfl) (by kernel_rfl) (by kernel_rfl) (fun c a w h => h) ⟨by simp [Region.wanted], fun w' hw => ?_⟩ ?_
  · simp [execOp, go_sem, Act.eval, Act.put]
  refine wpKind_done hI1 (by kernel_rfl) ?_
  have hbW : Below w.heap.size w W1 := hb0.drew.trans (b1.mono (by show w.heap.size ≤ W0.heap.size; omega))
  have hPW : W1.heap[w.heap.size]? = some (.cells #[.slice a n cap] 32 (0, 0)) := (b1.block w.heap.size (by show w.heap.size < W0.heap.size; omega)).trans hP1
  have hzW := b1.size
  clear hcall hsH hI0 c0 b1 hP1 hb0
  simp only [Act.put]
  have hll2 : Hid (∀ h ∈ hs, h.lines.length ≤ 1048576) := fun h hh => (hLimH.out.2 h hh).1
  have hallW := (hbW.block ga hga).trans L.all
  have hbn : Hid (bs.length = n) := by
    have h1 := congrArg List.length hmap
    rw [List.length_map, hnH.out] at h1
    exact h1
  have g7 : ∀ k, (lentCells bs ++ lentEnd)[n * 5 + k]? = lentEnd[k]? := fun k => by
    rw [List.getElem?_append_right (by rw [lentCells_length, hbn.out]; omega), lentCells_length, hbn.out]
    congr 1
    omega
  have z0 : W1.cell? ⟨ga, n * 5, none⟩ = some (.int .i64 77) := cell_of hallW (by simpa [lentEnd] using g7 0)
  have z4 : W1.cell? ⟨ga, n * 5 + 4, none⟩ = some (.slice none 0 0) := cell_of hallW (by simpa [lentEnd] using g7 4)
  have z5 : W1.cell? ⟨ga, (n + 1) * 5, none⟩ = some (.int .i64 78) := cell_of hallW (by rw [show (n + 1) * 5 = n * 5 + 5 by omega]; simpa [lentEnd] using g7 5)
  have z9 : W1.cell? ⟨ga, (n + 1) * 5 + 4, none⟩ = some (.slice none 0 0) := cell_of hallW (by rw [show (n + 1) * 5 + 4 = n * 5 + 9 by omega]; simpa [lentEnd] using g7 9)
  go_wp2_with fail
  obtain ⟨gr, cr, rfl, hgr, hgrl, _⟩ := owns_slice L.rows (by rw [hbn.out]; exact hn)
  rw [hbn.out] at L hown ⊢
  have hst : Hid (LentLeft base wb ga x B (.slice (some ⟨gr, 0, none⟩) n cr) bs w 0 x [] W1) := LentLeft.start (K.old fun g hg => hbW.block g hg) L hbW hfl hown
  clear z0 z4 z5 z9 g7 hallW hI1
  go_loopg [10, 11] n (fun g t10 t11 wi => ∃ (i : Nat) (x' : WV) (E : List (Value × Value)), g = n - i ∧ i ≤ n ∧ t11 = .int .i64 i ∧ t10 = .bool true ∧ Hid (LentLeft base wb ga x B (.slice (some ⟨gr, 0, none⟩) n cr) bs w i x' E wi) ∧ wi.heap[w.heap.size]? = some (.cells #[.slice a n cap] 32 (0, 0)))
  case atStart => exact ⟨0, x, [], by omega, by omega, rfl, rfl, hst, hPW⟩
  case round =>
    rename World => wi
    obtain ⟨i, x1, E, hgi, hin, rfl, rfl, hLL, hPi⟩ := hrel
    have hG : Hid (_ = n - i) := hgi
    clear hgi hst hPW
    have hzi : w.heap.size < wi.heap.size := (Array.getElem?_eq_some_iff.1 hPi).1
    have p0 : wi.cell? ⟨w.heap.size, 0, none⟩ = some (.slice a n cap) := cell_of hPi rfl
    by_cases hi2 : i < n
    · have hiI : (i : Int) < n := by omega
      have hib : i < bs.length := by rw [hbn.out]; exact hi2
      have his : i < hs.length := by rw [hnH.out]; exact hi2
      obtain ⟨b, off, a1, c1, rfl, hbA, _, _, _, _, r4, _⟩ := (hpH.out wi (hLL.out.fr.mono fun g _ h => .inr h)).at his
      have hhi : hs[i] = bs[i].1 := by simp [← hmap]
      have l1 : bs[i].1.lines.length ≤ 1048576 := by rw [← hhi]; exact hll2.out _ (List.getElem_mem his)
      rw [hhi] at r4
      have hpm : bs[i] ∈ bs := List.getElem_mem hib
      have hrc : wi.cell? ⟨gr, i, none⟩ = some (lentRow bs[i]) := by
        obtain ⟨hl, hr⟩ := L.rows
        rcases hr with ⟨e, _⟩ | ⟨g', cap', cur, e, hb, hg, h1, h2, h3, h4⟩
        · cases e
        · cases e
          refine cell_of (((hLL.out.rows gr rfl).1).trans hg) ?_
          have h5 : (cur.toList.take (bs.length * 1))[i]? = (bs.map lentRow)[i]? := by rw [h4]
          rw [List.getElem?_take_of_lt (by omega)] at h5
          simpa [hib] using h5
      unfold lentRow at hrc
      have hline := (hLL.out.line bs[i] (by rw [List.drop_eq_getElem_cons hib]; exact List.mem_cons_self)).trans (L.line bs[i] hpm).2
      have hrow : wi.ownsRow bl 93 2 (lentRow bs[i]) (bs[i].1.lines.length + 2) (lentLine bs[i].1) := owns_same (L.row hpm l1) fun g hg => by cases hg; exact hLL.out.line bs[i] (by rw [List.drop_eq_getElem_cons hib]; exact List.mem_cons_self)
      have hbeh := L.behind hpm
      have hqlt : bs[i].2 < w.heap.size := (Array.getElem?_eq_some_iff.1 (L.line bs[i] hpm).2).1
      have hbq : ∀ k, wi.cell? ⟨bs[i].2, k, none⟩ = w.cell? ⟨bs[i].2, k, none⟩ := fun k => World.cell?_of_block (a := ⟨bs[i].2, k, none⟩) (hLL.out.line bs[i] (by rw [List.drop_eq_getElem_cons hib]; exact List.mem_cons_self))
      have hrowH : Hid _ := hrow
      have hpmH : Hid (bs[i] ∈ bs) := hpm
      have hone2 : ∀ u ∈ [Value.int .u8 33, .string behindS.text], u.oneCell' = true := by intro u hu; simp at hu; rcases hu with rfl | rfl <;> rfl
      have hnewB := heap_alloc_new wi (.cells #[.int .u8 0, .string ByteArray.empty] 93)
      clear hrow hpm
      obtain ⟨q, hqE⟩ : ∃ q, bs[i].2 = q := ⟨_, rfl⟩
      obtain ⟨M, hME⟩ : ∃ M, bs[i].1.lines.length = M := ⟨_, rfl⟩
      have hqH : Hid (bs[i].2 = q) := hqE
      have hMH : Hid (bs[i].1.lines.length = M) := hME
      rw [hqE] at hrc hbeh hbq hqlt
      rw [hME] at hrc hbeh l1 r4
      clear hqE hME hhi hline
      go_wp2_with (refine wpList_store_in rfl 93 (.tmp 14) (.tmp 83) rfl wi.heap.size 0 ?_ [.int .u8 33, .string behindS.text] [] [.int .u8 0, .string ByteArray.empty] [] ?_ size_line 93 hnewB rfl rfl hone2 ?_
                   go_loud (rfl)
                   go_loud (rfl)
                   intro wj hj zj oj uj
                   have bj0 : wj.cell? ⟨wi.heap.size, 0, none⟩ = some (.int .u8 33) := cell_of hj rfl
                   have bj1 : wj.cell? ⟨wi.heap.size, 1, none⟩ = some (.string behindS.text) := cell_of hj rfl
                   have oj' : ∀ k, k < wi.heap.size → wj.heap[k]? = wi.heap[k]? := fun k hk => (oj k (by omega)).trans (Below.heap_alloc wi _ k hk)
                   have hqj : ∀ k, wj.cell? ⟨q, k, none⟩ = w.cell? ⟨q, k, none⟩ := fun k => (World.cell?_of_block (a := ⟨q, k, none⟩) (oj' q (by omega))).trans (hbq k)
                   have y0 := (hqj _).trans hbeh.1
                   have y1 := (hqj _).trans hbeh.2.1
                   have y2 := (hqj _).trans hbeh.2.2.1
                   have y3 := (hqj _).trans hbeh.2.2.2
                   clear hj oj hqj)
      have hM0 : (0 : Int) ≤ (M : Int) := by omega
      have hM1 : (M : Int) < (M : Int) + 2 := by omega
      have hM2 : (M : Int) < ((M + 2 : Nat) : Int) := by omega
      have hM3 : (M : Int) + 1 < ((M + 2 : Nat) : Int) := by omega
      have hM4 : (M : Int) + 1 < (M : Int) + 2 := by omega
      have hM5 : (0 : Int) ≤ (M : Int) + 1 := by omega
      have hM6 := wr1 l1
      go_quiet (fail)
      go_wp2_with fail
      have hcall := LentLeft.call (W := wj.drewN nq) L (LentLeft.old (W := wj.drewN nq) L hLL.out (fun k hk => oj' k hk) (by show wi.heap.size ≤ wj.heap.size; rw [zj, World.size_alloc]; exact Nat.le_succ _) ((Outs.alloc wi _).trans uj)) hib (by rw [hMH.out]; exact l1) hbl hbase (by rw [hbn.out]; exact hlh) hc hll ((oj' w.heap.size hzi).trans hPi) (by decide) (Nat.le_refl _)
      rw [hqH.out, hMH.out] at hcall
      refine hcall.mono ?_
      rintro e w2 ⟨rfl, x2, E2, hLL2, hP2⟩
      have hLL2H : Hid _ := hLL2
      clear hLL2 hcall y0 y1 y2 y3 bj0 bj1 hrc r4 p0
      go_wp2_with fail
      go_roundg (n - (i + 1))
      · exact ⟨i + 1, x2, E2, rfl, by omega, by push_cast; rfl, rfl, hLL2H, hP2⟩
      · have := hG.out; omega
    · obtain rfl : i = n := by omega
      have hiI : ¬ ((i : Int) < i) := by omega
      obtain ⟨C, hC, hCl⟩ : ∃ C : List Value, wi.heap[ga]? = some (.cells C.toArray 61 (0, 0)) ∧ Hid (C.length = (i + 2) * 5) := ⟨_, hLL.out.all.trans L.all, by show _ = _; rw [List.length_append, lentCells_length, hbn.out]; show _ + 10 = _; omega⟩
      have hone5 : ∀ u ∈ [Value.int .i64 0, .int .i64 0, .int .i64 0, .int .i64 0, .slice none 0 0], u.oneCell' = true := by intro u hu; simp at hu; rcases hu with rfl | rfl <;> rfl
      go_wp2_with fail
      go_loopg [15] (i + 2) (fun g t15 wk => ∃ (j : Nat) (C : List Value), g = i + 2 - j ∧ j ≤ i + 2 ∧ t15 = .int .i64 j ∧ wk.heap[ga]? = some (.cells C.toArray 61 (0, 0)) ∧ Hid (C.length = (i + 2) * 5) ∧ Hid ((∀ k, k ≠ ga → wk.heap[k]? = wi.heap[k]?) ∧ wk.heap.size = wi.heap.size ∧ Outs wi wk))
      case atStart => exact ⟨0, C, by omega, by omega, rfl, hC, hCl, ⟨fun _ _ => rfl, rfl, Outs.refl _⟩⟩
      case round =>
        rename World => wk
        obtain ⟨j, C2, hgj, hj, rfl, hC2, hC2l, hk⟩ := hrel
        have hGj : Hid (_ = i + 2 - j) := hgj
        clear hgj
        by_cases hj2 : j < i + 2
        · have hjI : (j : Int) < (i : Int) + 2 := by omega
          have hsp : wk.heap[ga]? = some (.cells (C2.take (j * 5) ++ ((C2.drop (j * 5)).take 5 ++ (C2.drop (j * 5)).drop 5)).toArray 61 (0, 0)) := by rw [List.take_append_drop, List.take_append_drop]; exact hC2
          have hl1 : (C2.take (j * 5)).length = j * 5 := by rw [List.length_take, hC2l.out]; omega
          have hl2 : ((C2.drop (j * 5)).take 5).length = 5 := by rw [List.length_take, List.length_drop, hC2l.out]; omega
          have hl3 : Hid ((C2.take (j * 5) ++ ([Value.int .i64 0, .int .i64 0, .int .i64 0, .int .i64 0, .slice none 0 0] ++ (C2.drop (j * 5)).drop 5)).length = (i + 2) * 5) := by
            show _ = _
            rw [List.length_append, hl1, List.length_append, List.length_drop, List.length_drop, hC2l.out]
            show j * 5 + (5 + _) = _
            omega
          go_wp2_with (refine wpList_store_in rfl 61 (.tmp 111) (.tmp 110) rfl ga (j * 5) ?_ [.int .i64 0, .int .i64 0, .int .i64 0, .int .i64 0, .slice none 0 0] (C2.take (j * 5)) ((C2.drop (j * 5)).take 5) ((C2.drop (j * 5)).drop 5) ?_ size_hunk 61 hsp hl1 hl2 hone5 ?_
                       go_loud (rfl)
                       go_loud (rfl)
                       intro wl hl zl ol ul)
          go_roundg (i + 2 - (j + 1))
          · exact ⟨j + 1, _, rfl, by omega, by push_cast; rfl, hl, hl3, ⟨fun k hk' => (ol k hk').trans (hk.out.1 k hk'), zl.trans hk.out.2.1, hk.out.2.2.trans ul⟩⟩
          · have := hGj.out; omega
        · have hjI : ¬ ((j : Int) < (i : Int) + 2) := by omega
          have hR : Hid (UntDone base wb ga x B bs i w wk) := by
            have h := hLL.out
            refine ⟨x1, E, Kept.skip_h (vb := some ga) h.kept (fun g hg _ => by cases hg; exact ⟨_, _, hC⟩) (fun g _ hne => hk.out.1 g (fun e => hne (by rw [e]))) (fun p hp => .inl (hfh.out p hp)), h.len, h.c, ?_, h.new⟩
            have hF : Frame base wi wk (fun g => g = ga) := ⟨Nat.le_of_eq hk.out.2.1.symm, fun g _ => (Decidable.em (g = ga)).elim (fun e => .inr (.inl e)) (fun e => .inl (hk.out.1 g e)), hk.out.2.2⟩
            exact (h.fr.trans hF).mono fun g _ hg => hg.elim .inr .inl
          go_wp2_with fail
          go_ret
          exact ⟨rfl, hR.out⟩
end Go.Proofs.YtcclgodahlinbaaGreatDoor
namespace Go.Proofs.YtcclgodahlinbaaGreatDoor
open Go.RowKit Go
set_option maxRecDepth 100000
set_option maxHeartbeats 4000000 in
theorem lent_none {a : Option Addr} {cap : Nat} {w : World} :
    Calls Tryz.prog 86 #[.agg #[.slice a 0 cap]] w fun e w' => e = .returned (.tuple #[.agg #[.slice none 0 0], .slice none 0 0, .slice none 0 0]) ∧ Below w.heap.size w w' := by
  have hb0 := ((Below.refl w.heap.size w).alloc (Nat.le_refl _) (.cells #[.slice a 0 cap] 32)).alloc (by simp) (.cells #[.slice none 0 0] 32)
  have hP2 := heap_alloc_new (w.alloc (.cells #[.slice a 0 cap] 32)) (.cells #[.slice none 0 0] 32)
  rw [World.size_alloc] at hP2
  go_enter Tryz.func86, Tryz.ntmps86
  go_wp2_with fail
  generalize (w.alloc (.cells #[.slice a 0 cap] 32)).alloc (.cells #[.slice none 0 0] 32) = W0 at *
  refine bodyPost_ret (v := .tuple #[.agg #[.slice none 0 0], .slice none 0 0, .slice none 0 0]) ?_ rfl ⟨rfl, ?_⟩
  · have hq : W0.cell? ⟨w.heap.size + 1, 0, none⟩ = some (.slice none 0 0) := cell_of hP2 rfl
    simp [results, Tryz.results86, go_sem, hq]
  · exact hb0
set_option maxHeartbeats 4000000 in
theorem untouched_none {wb : Nat} {v vr : Value} {a : Option Addr} {cap : Nat} {w : World} :
    Calls Tryz.prog 87 #[.pointer (some ⟨wb, 0, none⟩), v, vr, .agg #[.slice a 0 cap]] w fun e w' => e = .returned (.bool true) ∧ Below w.heap.size w w' := by
  have hb0 := (Below.refl w.heap.size w).alloc (Nat.le_refl _) (.cells #[.slice a 0 cap] 32)
  go_enter Tryz.func87, Tryz.ntmps87
  go_wp2_with fail
  go_ret
  exact ⟨rfl, hb0⟩
end Go.Proofs.YtcclgodahlinbaaGreatDoor
namespace Go.Proofs.YtcclgodahlinbaaGreatDoor
open Go.RowKit Go
set_option maxRecDepth 100000
theorem owns_addrr {w : World} {base e size n cl : Nat} {al : Option Addr} {xs : List Value} (h : w.ownsRow base e size (.slice al n cl) n xs) : ∀ a, al = some a → a = ⟨a.block, 0, none⟩ := by
  intro a ha
  subst ha
  rcases h.2 with ⟨e, _⟩ | ⟨g, cap, cur, e, _⟩
  · cases e
  · cases e; rfl
theorem info_rs : (Tryz.prog.info? 100).map (fun i => (i.zero, i.size, i.bytes)) = some (some (.slice none 0 0), 1, 24) := by kernel_rfl
theorem owns_set2r {w : World} {bl n i : Nat} {xs : List Value} {a b : Value} {al : Option Addr} {cl : Nat} (h : w.ownsRow bl 101 2 (.slice al n cl) n (pats [a, b] i ++ xs.drop (i * 2))) (hx : xs.length = n * 2) (hi : i < n) :
    ∃ g, al = some ⟨g, 0, none⟩ ∧ g < w.heap.size ∧ (∃ cur, w.heap[g]? = some (.cells cur 101 (0, 0)) ∧ i * 2 + 1 < cur.size) ∧ ((w.setCell ⟨g, i * 2, none⟩ a).setCell ⟨g, i * 2 + 1, none⟩ b).ownsRow bl 101 2 (.slice al n cl) n (pats [a, b] (i + 1) ++ xs.drop ((i + 1) * 2)) := by
  rcases h.2 with ⟨_, h0⟩ | ⟨g, cap, cur, e, hb, hg, h1, h2, h3, h4⟩
  · omega
  · cases e
    have hsz : i * 2 + 1 < cur.size := by rw [h3]; omega
    have hpl : (pats [a, b] i).length = i * 2 := pats_length [a, b] i
    refine ⟨g, rfl, (Array.getElem?_eq_some_iff.1 hg).1, ⟨cur, hg, hsz⟩, ?_, .inr ⟨g, cl, _, rfl, hb, heap_setCell_same _ _ _ _ _ _ _ (heap_setCell_same _ _ _ _ _ _ _ hg), h1, h2, by simp [h3], ?_⟩⟩
    · rw [List.length_append, pats_length, List.length_drop, hx]
      show (i + 1) * 2 + _ = _
      omega
    · have h5 : List.take (n * 2) ((cur.setIfInBounds (i * 2) a).setIfInBounds (i * 2 + 1) b).toList = ((List.take (n * 2) cur.toList).set (i * 2) a).set (i * 2 + 1) b := by
        simp [List.take_set]
      rw [h5, h4]
      apply List.ext_getElem?
      intro j
      rw [List.getElem?_set, List.getElem?_set]
      have hl1 : (pats [a, b] i ++ xs.drop (i * 2)).length = n * 2 := by rw [List.length_append, hpl, List.length_drop, hx]; omega
      have hl2 : (pats [a, b] (i + 1)).length = (i + 1) * 2 := pats_length [a, b] (i + 1)
      by_cases e1 : i * 2 + 1 = j
      · subst e1
        rw [if_pos rfl, if_pos (by rw [List.length_set, hl1]; omega), List.getElem?_append_left (by rw [hl2]; omega)]
        have := pats_get [a, b] (i + 1) i 1 (by omega) (by simp)
        simpa using this.symm
      · rw [if_neg e1]
        by_cases e2 : i * 2 = j
        · subst e2
          rw [if_pos rfl, if_pos (by rw [hl1]; omega), List.getElem?_append_left (by rw [hl2]; omega)]
          have := pats_get [a, b] (i + 1) i 0 (by omega) (by simp)
          simpa using this.symm
        · rw [if_neg e2]
          by_cases e3 : j < i * 2
          · rw [List.getElem?_append_left (by rw [hpl]; omega), List.getElem?_append_left (by rw [hl2]; omega)]
            rw [pats, List.getElem?_append_left (by rw [hpl]; omega)]
          · rw [List.getElem?_append_right (by rw [hpl]; omega), List.getElem?_append_right (by rw [hl2]; omega), List.getElem?_drop, List.getElem?_drop, hpl, hl2]
            congr 1
            omega
theorem runsOf_step {base wb bl N cl' : Nat} {al' : Option Addr} {x : WV} {B : Bk} {E : List (Value × Value)} {w4 w5 : World} {t : ByteArray} {v' : Value} {ob : Obj} (K : Kept base wb x { B with r := B.r ++ E } w4) (hN : N ≤ 1990)
    (row4 : w4.ownsRow bl 101 2 (.slice al' N cl') N (pats (patT (.string t)) N)) (hE : ∀ p ∈ E, p.2 = .string t ∧ ∃ al m cl, p.1 = .slice al m cl ∧ m ≤ N ∧ ∀ a, al = some a → a = ⟨a.block, 0, none⟩) (hfr : ∀ p ∈ B.r, p.1.ownBlock = none ∨ p.1.ownBlock ≠ (Value.slice al' N cl').ownBlock)
    (row5 : w5.ownsRow bl 101 2 v' (N + 1) (pats (patT (.string t)) N ++ [.int .u8 63, .string t]))
    (h3 : (v'.ownBlock = (Value.slice al' N cl').ownBlock ∧ (w4.alloc ob).grownBy w5 (Value.slice al' N cl').ownBlock) ∨ ((∀ g, v'.ownBlock = some g → (w4.alloc ob).heap.size ≤ g) ∧ (w4.alloc ob).grownBy w5 none)) :
    Kept base wb x { B with r := B.r ++ E } w5 ∧ Frame base w4 w5 (fun g => some g = (Value.slice al' N cl').ownBlock) ∧ w5.ownsRow bl 101 2 v' (N + 1) (pats (patT (.string t)) (N + 1)) ∧ (∀ p ∈ B.r, p.1.ownBlock = none ∨ p.1.ownBlock ≠ v'.ownBlock) ∧ (∀ g, g < w4.heap.size → some g ≠ (Value.slice al' N cl').ownBlock → w5.heap[g]? = w4.heap[g]?) := by
  have hrow : w5.ownsRow bl 101 2 v' (N + 1) (pats (patT (.string t)) (N + 1)) := row5
  have hold : ∀ g, g < w4.heap.size → some g ≠ (Value.slice al' N cl').ownBlock → w5.heap[g]? = w4.heap[g]? := fun g hg hne => by
    rcases h3 with ⟨_, h⟩ | ⟨_, h⟩
    · rw [h.block g (by simp; omega) hne]; exact Below.heap_alloc w4 ob g hg
    · rw [h.block g (by simp; omega) (by simp)]; exact Below.heap_alloc w4 ob g hg
  have hz : w4.heap.size ≤ w5.heap.size := by
    rcases h3 with ⟨_, h⟩ | ⟨_, h⟩
    · have := h.size; simp at this; omega
    · have := h.size; simp at this; omega
  have hOut : Outs w4 w5 := by
    rcases h3 with ⟨_, h⟩ | ⟨_, h⟩
    · exact (Outs.alloc w4 ob).trans (Outs.of_grown h)
    · exact (Outs.alloc w4 ob).trans (Outs.of_grown h)
  refine ⟨?_, ⟨hz, fun g hg => ?_, hOut⟩, hrow, ?_, hold⟩
  · refine K.skip_r (vb := (Value.slice al' N cl').ownBlock) (fun g hg _ => ?_) hold (fun p hp => ?_)
    · obtain ⟨c, hc⟩ := owns_block row4 hg
      exact ⟨c, _, hc⟩
    · rcases List.mem_append.1 hp with hp' | hp'
      · exact .inl (hfr p hp')
      · by_cases hq : p.1.ownBlock = (Value.slice al' N cl').ownBlock
        · right
          rcases h3 with ⟨e, _⟩ | ⟨_, h⟩
          · obtain ⟨e2, al, m, cl, e1, hm, ha⟩ := hE p hp'
            rw [e2]
            rw [e1] at hq ⊢
            exact Mark.of_owns (pat := patT (.string t)) hrow (by omega) (by omega) (e.trans hq.symm) ha
          · exact (K.r.ok p hp).same fun g _ ⟨c, f, hg⟩ => by
              have hlt := (Array.getElem?_eq_some_iff.1 hg).1
              rw [h.block g (by simp; omega) (by simp)]; exact Below.heap_alloc w4 ob g hlt
        · exact .inl (.inr hq)
  · by_cases hq : some g = (Value.slice al' N cl').ownBlock
    · exact .inr (.inl hq)
    · exact .inl (hold g hg hq)
  · intro p hp
    rcases h3 with ⟨e, _⟩ | ⟨e, _⟩
    · rw [e]; exact hfr p hp
    · cases hv : p.1.ownBlock with
      | none => exact .inl rfl
      | some g =>
        right
        intro e2
        have h1 := e g e2.symm
        have hM := ((K.r.ok p (List.mem_append_left _ hp)).lt g hv).1
        simp at h1
        omega
set_option maxHeartbeats 8000000 in
theorem runsOf_ok {base wb bl n cl : Nat} {al : Option Addr} {x : WV} {B : Bk} {w : World} {xs : List Value} (K : Kept base wb x B w) (hv : w.ownsRow bl 101 2 (.slice al n cl) n xs) (hn : n ≤ 1900)
    (hfresh : ∀ p ∈ B.r, p.1.ownBlock = none ∨ p.1.ownBlock ≠ (Value.slice al n cl).ownBlock) (hbase : base ≤ w.heap.size) (hbl : bl ≤ w.heap.size) (hc : x.c ≤ 8000000000000) (hl : B.r.length ≤ 800000000000) :
    Calls Tryz.prog 85 #[.pointer (some ⟨wb, 0, none⟩), .slice al n cl] w fun e w' => e = .returned (.tuple #[]) ∧ ∃ (x' : WV) (E : List (Value × Value)), Kept base wb x' { B with r := B.r ++ E } w' ∧ E.length = 4 ∧ x'.c = x.c + 1 ∧
      (∀ p ∈ E, p.1.ownBlock = (Value.slice al n cl).ownBlock ∨ ∀ g, p.1.ownBlock = some g → w.heap.size ≤ g) ∧ Frame base w w' (fun g => some g = (Value.slice al n cl).ownBlock) := by
  obtain ⟨i0, hi, ix0, ix1, ix2⟩ := info_parts info_rs
  obtain ⟨j0, ji, jx0, jx1, jx2⟩ := info_parts info_str
  obtain ⟨k0, ki, kx0, kx1, kx2⟩ := info_parts info_run
  have hwb : wb < w.heap.size := (Array.getElem?_eq_some_iff.1 K.blk).1
  go_enter Tryz.func85, Tryz.ntmps85
  go_wp2_with fail
  refine (word_ok K.blk hc).mono ?_
  rintro e w1 ⟨t, rfl, ht8, hk1, hs1, hz1, hO1⟩
  have K1 := K.count hk1 hs1
  have hnw : ∀ g, (Value.slice al n cl).ownBlock = some g → g ≠ wb := fun g hg => by
    obtain ⟨c, hc⟩ := owns_block hv hg
    exact block_ne hc K.blk (by decide)
  have hv1 : w1.ownsRow bl 101 2 (.slice al n cl) n xs := owns_same hv fun g hg => hs1 g (hv.lt g hg).2 (hnw g hg)
  have hxb : (w1.alloc (.cells #[.int .u8 63, .string t] 101)).heap[w1.heap.size]? = some (.cells #[.int .u8 63, .string t] 101 (0, 0)) := heap_alloc_new w1 _
  have hw2 : Hid (∀ g, g < w1.heap.size → (w1.alloc (.cells #[.int .u8 63, .string t] 101)).heap[g]? = w1.heap[g]?) := fun g hg => Below.heap_alloc w1 _ g hg
  have hz2 : (w1.alloc (.cells #[.int .u8 63, .string t] 101)).heap.size = w1.heap.size + 1 := by simp
  have hv2 := hv1.alloc (.cells #[.int .u8 63, .string t] 101)
  have hgx : Hid (∀ g, (Value.slice al n cl).ownBlock = some g → g < w1.heap.size) := fun g hg => (hv1.lt g hg).2
  have hlen : Hid (xs.length = n * 2) := hv.1
  have hF1 : Hid (∀ g, g < w.heap.size → w1.heap[g]? = w.heap[g]? ∨ ∃ cur t fr, w.heap[g]? = some (.cells cur t fr) ∧ t ∈ Tys ∧ base ≤ g) := fun g hg => by
    by_cases e : g = wb
    · subst e; exact .inr ⟨_, _, _, K.blk, by decide, K.wlo⟩
    · exact .inl (hs1 g hg e)
  have hO2 : Hid (Outs w (w1.alloc (.cells #[.int .u8 63, .string t] 101))) := hO1.trans (Outs.alloc _ _)
  have hv0 : Hid (∀ g, (Value.slice al n cl).ownBlock = some g → ∃ cur fr, w1.heap[g]? = some (.cells cur 101 fr)) := fun g hg => by
    obtain ⟨c, hc⟩ := owns_block hv1 hg
    exact ⟨c, _, hc⟩
  go_wp2_with fail
  obtain ⟨xb, hxbE⟩ : ∃ xb, w1.heap.size = xb := ⟨_, rfl⟩
  rw [hxbE] at hxb hz2 ⊢
  generalize w1.alloc (.cells #[.int .u8 63, .string t] 101) = w2 at *
  clear hk1 hs1 hv1
  go_loopg [5] n (fun g t5 wr => ∃ i : Nat, g = n - i ∧ i ≤ n ∧ t5 = .int .i64 i ∧ wr.ownsRow bl 101 2 (.slice al n cl) n (pats (patT (.string t)) i ++ xs.drop (i * 2)) ∧ Hid ((∀ g, some g ≠ (Value.slice al n cl).ownBlock → wr.heap[g]? = w2.heap[g]?) ∧ Outs w wr) ∧ wr.heap.size = xb + 1)
  case atStart => exact ⟨0, by omega, by omega, rfl, by simpa [pats] using hv2, ⟨fun g _ => rfl, hO2.out⟩, hz2⟩
  case round =>
    rename World => wr
    obtain ⟨i, hgi, hin, rfl, hrow, hoth, hzr⟩ := hrel
    have hG : Hid (_ = n - i) := hgi
    clear hgi
    have hxr : wr.heap[xb]? = some (.cells #[.int .u8 63, .string t] 101 (0, 0)) := by
      rw [hoth.out.1 xb (fun e => by have := hgx.out xb e.symm; omega)]; exact hxb
    by_cases hi2 : i < n
    · have hiI : (i : Int) < n := by omega
      obtain ⟨g, rfl, hg, ⟨cur, hcur, hsz⟩, hrow2⟩ := owns_set2r (a := .int .u8 63) (b := .string t) hrow hlen.out hi2
      have c0 : wr.cell? ⟨g, i * 2, none⟩ = some (cur[i * 2]'(by omega)) := cell_of hcur (by simp)
      have c1 : wr.cell? ⟨g, i * 2 + 1, none⟩ = some (cur[i * 2 + 1]'hsz) := cell_of hcur (by simp [hsz])
      have fz : ∀ k, wr.frozen? ⟨g, k, none⟩ = false := fun k => frozen_of hcur
      have y0 : wr.cell? ⟨xb, 0, none⟩ = some (.int .u8 63) := cell_of hxr rfl
      have y1 : wr.cell? ⟨xb, 1, none⟩ = some (.string t) := cell_of hxr rfl
      have hR : (∃ j : Nat, n - (i + 1) = n - j ∧ j ≤ n ∧ Value.int .i64 ((i : Int) + 1) = .int .i64 j ∧ ((wr.setCell ⟨g, i * 2, none⟩ (.int .u8 63)).setCell ⟨g, i * 2 + 1, none⟩ (.string t)).ownsRow bl 101 2 (.slice (some ⟨g, 0, none⟩) n cl) n (pats (patT (.string t)) j ++ xs.drop (j * 2)) ∧ Hid ((∀ g', some g' ≠ (Value.slice (some ⟨g, 0, none⟩) n cl).ownBlock → ((wr.setCell ⟨g, i * 2, none⟩ (.int .u8 63)).setCell ⟨g, i * 2 + 1, none⟩ (.string t)).heap[g']? = w2.heap[g']?) ∧ Outs w ((wr.setCell ⟨g, i * 2, none⟩ (.int .u8 63)).setCell ⟨g, i * 2 + 1, none⟩ (.string t))) ∧ ((wr.setCell ⟨g, i * 2, none⟩ (.int .u8 63)).setCell ⟨g, i * 2 + 1, none⟩ (.string t)).heap.size = xb + 1) := by
        refine ⟨i + 1, rfl, by omega, by push_cast; rfl, hrow2, ⟨fun g' hne => ?_, hoth.out.2.trans ((Outs.setCell _ _ _).trans (Outs.setCell _ _ _))⟩, by simp; exact hzr⟩
        have hgg : g' ≠ g := fun e => hne (by rw [e]; rfl)
        rw [heap_setCell_other _ _ _ _ _ hgg, heap_setCell_other _ _ _ _ _ hgg]
        exact hoth.out.1 g' hne
      have hRH : Hid _ := hR
      clear hR hrow2 hrow hoth hcur hxr
      go_wp2_with fail
      go_roundg (n - (i + 1))
      · exact hRH.out
      · have := hG.out; omega
    · obtain rfl : i = n := by omega
      have hiI : ¬ ((i : Int) < i) := by omega
      have hrow3 : wr.ownsRow bl 101 2 (.slice al i cl) i (pats (patT (.string t)) i) := by
        have h := hrow
        rw [List.drop_of_length_le (by rw [hlen.out]; exact Nat.le_refl _), List.append_nil] at h
        exact h
      have K3 : Kept base wb { x with c := x.c + 1 } B wr := by
        refine Kept.skip_r (vb := (Value.slice al i cl).ownBlock) K1 (fun g hg _ => hv0.out g hg) (fun g hg hne => (hoth.out.1 g hne).trans (hw2.out g hg)) (fun p hp => .inl (hfresh p hp))
      have hFr : Frame base w wr (fun g => some g = (Value.slice al i cl).ownBlock) := by
        refine ⟨by omega, fun g hg => ?_, hoth.out.2⟩
        by_cases e : some g = (Value.slice al i cl).ownBlock
        · exact .inr (.inl e)
        · rw [hoth.out.1 g e, hw2.out g (by omega)]
          rcases hF1.out g hg with h | h
          · exact .inl h
          · exact .inr (.inr h)
      have hKH : Hid (Kept base wb { x with c := x.c + 1 } B wr ∧ Frame base w wr (fun g => some g = (Value.slice al i cl).ownBlock)) := ⟨K3, hFr⟩
      have hnx : Hid ((Value.slice al i cl).ownBlock ≠ some xb) := fun e => by have := hgx.out xb e; omega
      clear K1 K3 hFr hrow hoth hv2 hxb hF1 hv0 hgx
      go_wp2_with fail
      go_loopg [1, 6] 4 (fun g t1 t6 wk => ∃ (j : Nat) (al' : Option Addr) (cl' : Nat) (x' : WV) (E : List (Value × Value)), g = 4 - j ∧ j ≤ 4 ∧ t6 = .int .i64 j ∧ t1 = .slice al' (i + j) cl' ∧ wk.ownsRow bl 101 2 (.slice al' (i + j) cl') (i + j) (pats (patT (.string t)) (i + j)) ∧ Kept base wb x' { B with r := B.r ++ E } wk ∧ E.length = j ∧ x'.c = x.c + 1 ∧
        Hid ((∀ p ∈ E, p.1.ownBlock = (Value.slice al i cl).ownBlock ∨ ∀ g, p.1.ownBlock = some g → w.heap.size ≤ g) ∧ (∀ p ∈ E, p.2 = .string t ∧ ∃ al m cl, p.1 = .slice al m cl ∧ m ≤ i + j ∧ ∀ a, al = some a → a = ⟨a.block, 0, none⟩) ∧ (∀ p ∈ B.r, p.1.ownBlock = none ∨ p.1.ownBlock ≠ (Value.slice al' (i + j) cl').ownBlock) ∧ ((Value.slice al' (i + j) cl').ownBlock = (Value.slice al i cl).ownBlock ∨ ∀ g, (Value.slice al' (i + j) cl').ownBlock = some g → w.heap.size ≤ g) ∧ (Value.slice al' (i + j) cl').ownBlock ≠ some xb ∧ Frame base w wk (fun g => some g = (Value.slice al i cl).ownBlock)) ∧ wk.heap[xb]? = some (.cells #[.int .u8 63, .string t] 101 (0, 0)))
      case atStart => exact ⟨0, al, cl, { x with c := x.c + 1 }, [], rfl, by omega, rfl, rfl, hrow3, by simpa using hKH.out.1, rfl, rfl, ⟨by simp, by simp, hfresh, .inl rfl, hnx.out, hKH.out.2⟩, hxr⟩
      case round =>
        rename World => wk
        obtain ⟨j, al', cl', x', E, hgj, hj4, rfl, rfl, hrowk, Kk, hEl, hxc, hH, hxk⟩ := hrel
        have hG2 : Hid (_ = 4 - j) := hgj
        have hxbk : xb < wk.heap.size := (Array.getElem?_eq_some_iff.1 hxk).1
        clear hgj hKH hnx hrow3 hxr
        by_cases hj2 : j < 4
        · have hjI : (j : Int) < 4 := by omega
          obtain ⟨N, hNe⟩ : ∃ N, (B.r ++ E).length = N := ⟨_, rfl⟩
          have hNN : Hid ((B.r ++ E).length = N) := hNe
          have hN : N = B.r.length + j := by rw [← hNe, List.length_append, hEl]
          have hwbk : wb < wk.heap.size := (Array.getElem?_eq_some_iff.1 Kk.blk).1
          have hbk : base ≤ wk.heap.size := by have := hH.out.2.2.2.2.2.1; omega
          have hblk : bl ≤ wk.heap.size := by have := hH.out.2.2.2.2.2.1; omega
          have c2 : wk.cell? ⟨wb, 6, none⟩ = some x'.r := cell_of Kk.blk rfl
          have hor : wk.ownsRow base 100 1 x'.r N ((B.r ++ E).map (·.1)) := by rw [← hNe]; exact Kk.r.row
          have hmar : wk.ownsRow base 9 1 x'.rm N ((B.r ++ E).map (·.2)) := by rw [← hNe]; exact Kk.r.marks
          have hon1 : ∀ u ∈ [Value.slice al' (i + j) cl'], u.oneCell' = true := by intro u hu; simp at hu; subst hu; rfl
          have hon2 : ∀ u ∈ [Value.string t], u.oneCell' = true := by intro u hu; simp at hu; subst hu; rfl
          have hon3 : ∀ u ∈ [Value.int .u8 63, Value.string t], u.oneCell' = true := by intro u hu; simp at hu; rcases hu with rfl | rfl <;> rfl
          have hm2 : (N + 1) * 24 ≤ 140737488355328 := by omega
          have hm3 : (N + 1) * 16 ≤ 140737488355328 := by omega
          have hm6 : i + j + 1 ≤ 1990 := Nat.le_trans (Nat.add_le_add_right (Nat.add_le_add hn (Nat.le_of_lt hj2)) 1) (by decide)
          have hm5 : (i + j + 1) * 24 ≤ 140737488355328 := Nat.le_trans (Nat.mul_le_mul_right 24 hm6) (by decide)
          have hxcb : x'.c ≤ 8000000000001 := by rw [hxc]; exact Nat.succ_le_succ hc
          have hm1 : N + 1 ≤ maxLen := by unfold maxLen; omega
          have hm4 : i + j + 1 ≤ maxLen := Nat.le_trans hm6 (by decide)
          have hnr : Hid (x'.r.ownBlock ≠ some wb ∧ x'.rm.ownBlock ≠ some wb ∧ x'.r.ownBlock ≠ some xb ∧ x'.rm.ownBlock ≠ some xb ∧ ∀ g, x'.rm.ownBlock = some g → g ≠ wb ∧ some g ≠ x'.r.ownBlock) := by
            refine ⟨fun e => ?_, fun e => ?_, fun e => ?_, fun e => ?_, fun g e => ⟨?_, fun e2 => ?_⟩⟩
            · obtain ⟨c, hc⟩ := owns_block Kk.r.row e; exact block_ne hc Kk.blk (by decide) rfl
            · obtain ⟨c, hc⟩ := owns_block Kk.r.marks e; exact block_ne hc Kk.blk (by decide) rfl
            · obtain ⟨c, hc⟩ := owns_block Kk.r.row e; exact block_ne hc hxk (by decide) rfl
            · obtain ⟨c, hc⟩ := owns_block Kk.r.marks e; exact block_ne hc hxk (by decide) rfl
            · obtain ⟨c, hc⟩ := owns_block Kk.r.marks e; exact block_ne hc Kk.blk (by decide)
            · obtain ⟨c, hc⟩ := owns_block Kk.r.marks e; obtain ⟨c2, hc2⟩ := owns_block Kk.r.row e2.symm; exact block_ne hc hc2 (by decide) rfl
          have hA : Hid (∀ (ob : Obj) (wA : World), (wk.alloc ob).grownBy wA x'.r.ownBlock → wA.heap[wb]? = some x'.obj ∧ wA.heap[xb]? = some (.cells #[.int .u8 63, .string t] 101 (0, 0)) ∧ wA.ownsRow base 9 1 x'.rm N ((B.r ++ E).map (·.2)) ∧ wk.heap.size ≤ wA.heap.size) := by
            intro ob wA g1
            have k1 : ∀ g, g < wk.heap.size → some g ≠ x'.r.ownBlock → wA.heap[g]? = wk.heap[g]? := fun g hg hne => by
              rw [g1.block g (by simp; omega) hne]; exact Below.heap_alloc wk ob g hg
            have z1 := g1.size
            simp at z1
            exact ⟨(k1 wb hwbk (fun e => hnr.out.1 e.symm)).trans Kk.blk, (k1 xb hxbk (fun e => hnr.out.2.2.1 e.symm)).trans hxk, owns_same hmar fun g hg => k1 g (Kk.r.marks.lt g hg).2 (hnr.out.2.2.2.2 g hg).2, by omega⟩
          have hM : Hid (Mark 101 2 (patT (.string t)) wk (.slice al' (i + j) cl')) := Mark.of_owns (pat := patT (.string t)) hrowk (Nat.le_refl _) (by exact Nat.le_trans (Nat.le_succ _) (Nat.le_trans hm6 (by decide))) rfl (owns_addrr hrowk)
          have hKH : Hid (Kept base wb x' { B with r := B.r ++ E } wk) := Kk
          have hrH : Hid (wk.ownsRow bl 101 2 (.slice al' (i + j) cl') (i + j) (pats (patT (.string t)) (i + j))) := hrowk
          have haddr : Hid (∀ a, al' = some a → a = ⟨a.block, 0, none⟩) := owns_addrr hrowk
          have hfzk : ∀ k, wk.frozen? ⟨wb, k, none⟩ = false := fun k => frozen_of Kk.blk
          have hxkH : Hid (wk.heap[xb]? = some (.cells #[.int .u8 63, .string t] 101 (0, 0))) := hxk
          have hxw : xb ≠ wb := block_ne hxk Kk.blk (by decide)
          clear Kk hrowk hxk hlen hw2 hN hNe
          go_wp2_with (at_builtin; refine wpList_append_own2 rfl (.tmp 28) (.tmp 30) 53 rfl base 100 i0 _ 1 24 Tryz.underlying53 hi ix0 ix1 ix2 rfl (by decide) x'.r N ((B.r ++ E).map (·.1)) rfl (hor.alloc _) ⟨wk.heap.size, 0, none⟩ 1 1 [.slice al' (i + j) cl'] rfl rfl (cells_new wk _ _) hon1 hm1 hm2 (by simp; omega) ?_; intro v1 wA o1 g1 n1; obtain ⟨a1, c1, rfl⟩ := owns_isSlice o1; obtain ⟨bA, xA, mA, zA⟩ := hA.out _ wA g1; have cA : wA.cell? ⟨wb, 6, none⟩ = some x'.r := cell_of bA rfl; have fA : ∀ k, wA.frozen? ⟨wb, k, none⟩ = false := fun k => frozen_of bA; have o1H : Hid _ := o1; have g1H : Hid _ := g1; clear o1 g1 n1)
          obtain ⟨U, hUe⟩ : ∃ U, wA.setCell ⟨wb, 6, none⟩ (.slice a1 (N + 1) c1) = U := ⟨_, rfl⟩
          have bU : U.heap[wb]? = some ({ x' with r := .slice a1 (N + 1) c1 } : WV).obj := by rw [← hUe, heap_setCell_same _ _ _ _ _ _ _ bA]; rfl
          have xU : U.heap[xb]? = some (.cells #[.int .u8 63, .string t] 101 (0, 0)) := by rw [← hUe, heap_setCell_other _ _ _ _ _ hxw]; exact xA
          have mU : U.ownsRow base 9 1 x'.rm N ((B.r ++ E).map (·.2)) := by rw [← hUe]; exact owns_same mA fun g hg => heap_setCell_other _ _ _ _ _ (hnr.out.2.2.2.2 g hg).1
          have zU : wk.heap.size ≤ U.heap.size := by rw [← hUe]; simpa using zA
          have d3 : U.cell? ⟨wb, 7, none⟩ = some x'.rm := cell_of bU rfl
          have dx : U.cell? ⟨xb, 1, none⟩ = some (.string t) := cell_of xU rfl
          have dfz : ∀ k, U.frozen? ⟨wb, k, none⟩ = false := fun k => frozen_of bU
          have hxbU : xb < U.heap.size := Nat.lt_of_lt_of_le hxbk zU
          have hwbU : wb < U.heap.size := Nat.lt_of_lt_of_le hwbk zU
          have hbs : ∀ ob, base ≤ ((U.alloc ob).drew).heap.size := by intro ob; simp; exact Nat.le_trans (Nat.le_trans hbk zU) (Nat.le_succ _)
          have mUd : ((U.alloc (.cells #[.string t] 9)).drew).ownsRow base 9 1 x'.rm N ((B.r ++ E).map (·.2)) := mU.alloc _
          have hcn : ∀ (j : Nat) (u : Value), [Value.string t][j]? = some u → ((U.alloc (.cells #[.string t] 9)).drew).cell? ((⟨U.heap.size, 0, none⟩ : Addr).add j) = some u := cells_new U [.string t] 9
          have hY : Hid (∀ (ob : Obj) (w3 : World), ((U.alloc ob).drew).grownBy w3 x'.rm.ownBlock → w3.heap[wb]? = U.heap[wb]?) := by
            intro ob w3 g2
            rw [g2.block wb (by simp; exact Nat.lt_of_lt_of_le hwbU (Nat.le_succ _)) (fun e => hnr.out.2.1 e.symm)]
            exact Below.heap_alloc U ob wb hwbU
          have hpush : Hid (∀ (ob : Obj) (v2 : Value) (w3 : World), ((U.alloc ob).drew).grownBy w3 x'.rm.ownBlock → w3.ownsRow base 9 1 v2 (N + 1) ((B.r ++ E).map (·.2) ++ [.string t]) → (v2.ownBlock = x'.rm.ownBlock ∨ ∀ g, v2.ownBlock = some g → ((U.alloc ob).drew).heap.size ≤ g) →
              ∃ x2 : WV, Kept base wb x2 { B with r := B.r ++ (E ++ [(.slice al' (i + j) cl', .string t)]) } (w3.setCell ⟨wb, 7, none⟩ v2) ∧ x2.c = x'.c ∧ Frame base wk (w3.setCell ⟨wb, 7, none⟩ v2) (fun _ => False)) := by
            intro ob v2 w3 g2 o2 n2
            obtain ⟨k1, k2⟩ := hKH.out.push_r (m := .string t) (v1 := .slice a1 (N + 1) c1) (v2 := v2) (w3 := w3) g1H.out (by show wA.ownsRow base 100 1 _ ((B.r ++ E).length + 1) _; rw [hNN.out]; exact o1H.out) (by rw [hUe]; exact ⟨g2.os, g2.tape, g2.output, g2.size, g2.block⟩) (by show w3.ownsRow base 9 1 _ ((B.r ++ E).length + 1) _; rw [hNN.out]; exact o2) (n2.imp id fun h g e => by have h1 := h g e; simp at h1; omega) hM.out ⟨fun h => absurd h (by decide), fun _ => ⟨t, rfl⟩⟩
            refine ⟨{ x' with r := .slice a1 (N + 1) c1, rm := v2 }, ?_, rfl, k2⟩
            rw [← List.append_assoc]
            exact k1
          clear bA xA mA zA cA fA
          rw [hUe]
          clear hUe o1H g1H bU xU hA hor c2 hfzk hmar
          go_cut [] (fun wx => ∃ x2 : WV, Kept base wb x2 { B with r := B.r ++ (E ++ [(.slice al' (i + j) cl', .string t)]) } wx ∧ x2.c = x'.c ∧ Frame base wk wx (fun _ => False))
          case first =>
            go_region_law (refine step_append_own rfl (.tmp 38) (.tmp 41) 27 rfl base 9 j0 _ 1 16 Tryz.underlying27 ji jx0 jx1 jx2 rfl (by decide) x'.rm N ((B.r ++ E).map (·.2)) (by simp [Act.eval]) mUd ⟨U.heap.size, 0, none⟩ 1 1 [.string t] (by simp [Act.eval]) rfl hcn hon2 hm1 hm3 (hbs _) ?_; intro v2 w3 o2 g2 n2; obtain ⟨a2, c2, rfl⟩ := owns_isSlice o2; have b3 := hY.out _ w3 g2; have e3 := (World.cell?_of_block (a := ⟨wb, 7, none⟩) b3).trans d3; have f3 := fun k => (World.frozen?_of_block (a := ⟨wb, k, none⟩) b3).trans (dfz k))
            all_goals
              have hR := hpush.out _ _ w3 g2 o2 n2
              have hRH : Hid _ := hR
              clear hR hpush hY g2 o2 n2
              go_wp2_with fail
              go_meet
              case rel => exact hRH.out
          case rest =>
            obtain ⟨x2, K4, hx2c, F4⟩ := hcut
            obtain ⟨W4, rfl⟩ : ∃ W4, W4 = wc := ⟨_, rfl⟩
            have hx4 : W4.heap[xb]? = some (.cells #[.int .u8 63, .string t] 101 (0, 0)) := (F4.at hxkH.out (by decide) (fun h => h)).trans hxkH.out
            have row4 : W4.ownsRow bl 101 2 (.slice al' (i + j) cl') (i + j) (pats (patT (.string t)) (i + j)) := owns_same hrH.out fun g hg => by
              obtain ⟨c, hc⟩ := owns_block hrH.out hg
              exact F4.at hc (by decide) (fun h => h)
            have hbl4 : bl ≤ W4.heap.size := Nat.le_trans hblk F4.1
            have e0 : W4.cell? ⟨xb, 0, none⟩ = some (.int .u8 63) := cell_of hx4 rfl
            have e1 : W4.cell? ⟨xb, 1, none⟩ = some (.string t) := cell_of hx4 rfl
            have hFin : Hid (∀ (ob : Obj) (v5 : Value) (w5 : World), w5.ownsRow bl 101 2 v5 (i + j + 1) (pats (patT (.string t)) (i + j) ++ [.int .u8 63, .string t]) → ((v5.ownBlock = (Value.slice al' (i + j) cl').ownBlock ∧ (W4.alloc ob).grownBy w5 (Value.slice al' (i + j) cl').ownBlock) ∨ ((∀ g, v5.ownBlock = some g → (W4.alloc ob).heap.size ≤ g) ∧ (W4.alloc ob).grownBy w5 none)) →
                ∃ (j' : Nat) (al5 : Option Addr) (cl5 : Nat) (x5 : WV) (E5 : List (Value × Value)), 4 - (j + 1) = 4 - j' ∧ j' ≤ 4 ∧ Value.int .i64 ((j : Int) + 1) = .int .i64 j' ∧ v5 = .slice al5 (i + j') cl5 ∧ w5.ownsRow bl 101 2 (.slice al5 (i + j') cl5) (i + j') (pats (patT (.string t)) (i + j')) ∧ Kept base wb x5 { B with r := B.r ++ E5 } w5 ∧ E5.length = j' ∧ x5.c = x.c + 1 ∧
                Hid ((∀ p ∈ E5, p.1.ownBlock = (Value.slice al i cl).ownBlock ∨ ∀ g, p.1.ownBlock = some g → w.heap.size ≤ g) ∧ (∀ p ∈ E5, p.2 = .string t ∧ ∃ al m cl, p.1 = .slice al m cl ∧ m ≤ i + j' ∧ ∀ a, al = some a → a = ⟨a.block, 0, none⟩) ∧ (∀ p ∈ B.r, p.1.ownBlock = none ∨ p.1.ownBlock ≠ (Value.slice al5 (i + j') cl5).ownBlock) ∧ ((Value.slice al5 (i + j') cl5).ownBlock = (Value.slice al i cl).ownBlock ∨ ∀ g, (Value.slice al5 (i + j') cl5).ownBlock = some g → w.heap.size ≤ g) ∧ (Value.slice al5 (i + j') cl5).ownBlock ≠ some xb ∧ Frame base w w5 (fun g => some g = (Value.slice al i cl).ownBlock)) ∧ w5.heap[xb]? = some (.cells #[.int .u8 63, .string t] 101 (0, 0))) := by
              intro ob v5 w5 row5 h3
              obtain ⟨q1, q2, q3, q4, q5, q6⟩ := hH.out
              have hE2 : ∀ p ∈ E ++ [(Value.slice al' (i + j) cl', Value.string t)], p.2 = .string t ∧ ∃ al m cl, p.1 = .slice al m cl ∧ m ≤ i + j ∧ ∀ a, al = some a → a = ⟨a.block, 0, none⟩ := by
                intro p hp
                rcases List.mem_append.1 hp with hp | hp
                · exact q2 p hp
                · rw [List.mem_singleton] at hp
                  subst hp
                  exact ⟨rfl, al', i + j, cl', rfl, Nat.le_refl _, haddr.out⟩
              obtain ⟨s1, s2, s3, s4, s5⟩ := runsOf_step (ob := ob) K4 (Nat.le_of_succ_le hm6) row4 hE2 q3 row5 h3
              obtain ⟨al5, cl5, rfl⟩ := owns_isSlice row5
              have hFz := F4.1
              have hq61 := q6.1
              have hold : (Value.slice al5 (i + j + 1) cl5).ownBlock = (Value.slice al' (i + j) cl').ownBlock ∨ ∀ g, (Value.slice al5 (i + j + 1) cl5).ownBlock = some g → W4.heap.size ≤ g := h3.imp (fun h => h.1) (fun h g e => by have := h.1 g e; simp at this; omega)
              refine ⟨j + 1, al5, cl5, x2, _, rfl, hj2, by push_cast; rfl, rfl, s3, s1, by rw [List.length_append, hEl]; rfl, hx2c.trans hxc, ⟨?_, ?_, s4, ?_, ?_, ?_⟩, ?_⟩
              · intro p hp
                rcases List.mem_append.1 hp with hp | hp
                · exact q1 p hp
                · rw [List.mem_singleton] at hp
                  subst hp
                  exact q4
              · intro p hp
                obtain ⟨r1, al, m, cl, r2, r3, r4⟩ := hE2 p hp
                exact ⟨r1, al, m, cl, r2, Nat.le_succ_of_le r3, r4⟩
              · rcases hold with h | h
                · have h' : (Value.slice al5 (i + (j + 1)) cl5).ownBlock = (Value.slice al' (i + j) cl').ownBlock := h
                  rw [h']; exact q4
                · right
                  intro g e
                  have := h g e
                  omega
              · rcases hold with h | h
                · have h' : (Value.slice al5 (i + (j + 1)) cl5).ownBlock = (Value.slice al' (i + j) cl').ownBlock := h
                  rw [h']; exact q5
                · intro e
                  have := h xb e
                  omega
              · have hF := (q6.trans F4).trans s2
                refine hF.mono fun g hg h => ?_
                rcases h with (h | h) | h
                · exact h
                · exact h.elim
                · rcases q4 with e | e
                  · exact h.trans e
                  · have := e g h.symm; omega
              · rw [s5 xb (by omega) (fun e => q5 e.symm)]
                exact hx4
            clear hH hKH hM K4 F4 hnr hrH
            go_wp2_with (at_builtin; refine wpList_append_own3 rfl (.tmp 45) (.tmp 47) 100 rfl bl 101 k0 _ 2 24 Tryz.underlying100 ki kx0 kx1 kx2 rfl (by decide) (.slice al' (i + j) cl') (i + j) (pats (patT (.string t)) (i + j)) rfl (row4.alloc _) ⟨W4.heap.size, 0, none⟩ 1 1 [.int .u8 63, .string t] rfl rfl (cells_new W4 _ _) hon3 hm4 hm5 (by simp; omega) ?_; intro v5 w5 row5 h3; have hR := hFin.out _ v5 w5 row5 h3; have hRH : Hid _ := hR; clear hR row5 h3)
            go_roundg (4 - (j + 1))
            · exact hRH.out
            · have := hG2.out; omega
        · obtain rfl : j = 4 := by omega
          have hR : ∃ (x' : WV) (E : List (Value × Value)), Kept base wb x' { B with r := B.r ++ E } wk ∧ E.length = 4 ∧ x'.c = x.c + 1 ∧ (∀ p ∈ E, p.1.ownBlock = (Value.slice al i cl).ownBlock ∨ ∀ g, p.1.ownBlock = some g → w.heap.size ≤ g) ∧ Frame base w wk (fun g => some g = (Value.slice al i cl).ownBlock) := ⟨x', E, Kk, hEl, hxc, hH.out.1, hH.out.2.2.2.2.2⟩
          have hRH : Hid _ := hR
          clear hR Kk hH hrowk hxk
          go_wp2_with fail
          go_end0
          exact ⟨rfl, hRH.out⟩
end Go.Proofs.YtcclgodahlinbaaGreatDoor
namespace Go.Proofs.YtcclgodahlinbaaGreatDoor
open Go.RowKit Go
set_option maxRecDepth 100000
set_option maxHeartbeats 8000000 in
theorem lsame_yes {hs : List HunkM} {a b : Option Addr} {ca cb : Nat} {w : World} (hA : HunksAt w.heap.size w (.slice a hs.length ca) hs) (hB : HunksAt w.heap.size w (.slice b hs.length cb) hs) (hL : hs.length ≤ 1000) (hl : ∀ h ∈ hs, h.lines.length ≤ 1000) :
    Calls Tryz.prog 81 #[.agg #[.slice a hs.length ca], .agg #[.slice b hs.length cb]] w fun e w' => e = .returned (.bool true) ∧ Below w.heap.size w w' := by
  have hb0 := ((Below.refl w.heap.size w).alloc (Nat.le_refl _) (.cells #[.slice a hs.length ca] 32)).alloc (by simp) (.cells #[.slice b hs.length cb] 32)
  have hP1 := heap_alloc_new w (.cells #[.slice a hs.length ca] 32)
  have hP2 := heap_alloc_new (w.alloc (.cells #[.slice a hs.length ca] 32)) (.cells #[.slice b hs.length cb] 32)
  rw [World.size_alloc] at hP2
  have hP1' := (Below.heap_alloc (w.alloc (.cells #[.slice a hs.length ca] 32)) (.cells #[.slice b hs.length cb] 32) w.heap.size (by simp)).trans hP1
  have hz : ((w.alloc (.cells #[.slice a hs.length ca] 32)).alloc (.cells #[.slice b hs.length cb] 32)).heap.size = w.heap.size + 2 := by simp
  go_enter Tryz.func81, Tryz.ntmps81
  go_wp2_with fail
  generalize (w.alloc (.cells #[.slice a hs.length ca] 32)).alloc (.cells #[.slice b hs.length cb] 32) = W0 at *
  clear hP1
  go_loopg [5] hs.length (fun g t wr => ∃ k : Nat, g = hs.length - k ∧ k ≤ hs.length ∧ t = .int .i64 k ∧ Below W0.heap.size W0 wr)
  case atStart => exact ⟨0, by omega, by omega, rfl, Below.refl _ _⟩
  case round =>
    obtain ⟨k, hgk, hkl, rfl, hbel⟩ := hrel
    have hG : Hid (gk = hs.length - k) := hgk
    clear hgk
    have hsw := hbel.size
    have hbw := hb0.trans (hbel.mono (by omega))
    have p1 : wr.cell? ⟨w.heap.size, 0, none⟩ = some (.slice a hs.length ca) := cell_of ((hbel.block w.heap.size (by omega)).trans hP1') rfl
    have p2 : wr.cell? ⟨w.heap.size + 1, 0, none⟩ = some (.slice b hs.length cb) := cell_of ((hbel.block (w.heap.size + 1) (by omega)).trans hP2) rfl
    by_cases hk : k < hs.length
    · have hkI : (k : Int) < hs.length := by omega
      obtain ⟨bA, a1, c1, rfl, hbA, r0, r1, r2, r3, r4, hsA⟩ := (hA.below hbw).at hk
      obtain ⟨bB, a2, c2, rfl, hbB, t0, t1, t2, t3, t4, hsB⟩ := (hB.below hbw).at hk
      have l1 := hl _ (List.getElem_mem hk)
      generalize hs[k] = h at *
      have q1 := (Below.refl wr.heap.size wr).alloc (Nat.le_refl _) (hkObj h a1 c1)
      have q2 := q1.alloc q1.size (hkObj h a2 c2)
      have hX1 := heap_alloc_new wr (hkObj h a1 c1)
      have hX2 := heap_alloc_new (wr.alloc (hkObj h a1 c1)) (hkObj h a2 c2)
      rw [World.size_alloc] at hX2
      have hX1' := (Below.heap_alloc (wr.alloc (hkObj h a1 c1)) (hkObj h a2 c2) wr.heap.size (by simp)).trans hX1
      have hzU : ((wr.alloc (hkObj h a1 c1)).alloc (hkObj h a2 c2)).heap.size = wr.heap.size + 2 := by simp
      have t0' : (wr.alloc (hkObj h a1 c1)).cell? ⟨bB, k * 5, none⟩ = some (.int .i64 (h.fr : Int)) := (q1.cell (p := ⟨bB, k * 5, none⟩) (by show bB < wr.heap.size; omega)).trans t0
      have t1' : (wr.alloc (hkObj h a1 c1)).cell? ⟨bB, k * 5 + 1, none⟩ = some (.int .i64 (h.fc : Int)) := (q1.cell (p := ⟨bB, k * 5 + 1, none⟩) (by show bB < wr.heap.size; omega)).trans t1
      have t2' : (wr.alloc (hkObj h a1 c1)).cell? ⟨bB, k * 5 + 2, none⟩ = some (.int .i64 (h.tr : Int)) := (q1.cell (p := ⟨bB, k * 5 + 2, none⟩) (by show bB < wr.heap.size; omega)).trans t2
      have t3' : (wr.alloc (hkObj h a1 c1)).cell? ⟨bB, k * 5 + 3, none⟩ = some (.int .i64 (h.tc : Int)) := (q1.cell (p := ⟨bB, k * 5 + 3, none⟩) (by show bB < wr.heap.size; omega)).trans t3
      have t4' : (wr.alloc (hkObj h a1 c1)).cell? ⟨bB, k * 5 + 4, none⟩ = some (.slice a2 h.lines.length c2) := (q1.cell (p := ⟨bB, k * 5 + 4, none⟩) (by show bB < wr.heap.size; omega)).trans t4
      have p2' : (wr.alloc (hkObj h a1 c1)).cell? ⟨w.heap.size + 1, 0, none⟩ = some (.slice (some ⟨bB, 0, none⟩) hs.length cb) := (q1.cell (p := ⟨w.heap.size + 1, 0, none⟩) (by show w.heap.size + 1 < wr.heap.size; omega)).trans p2
      clear hX1 t0 t1 t2 t3 t4
      have e0 : ∀ x : Int, (x != x) = false := by simp
      go_wp2_with fail
      generalize (wr.alloc (hkObj h a1 c1)).alloc (hkObj h a2 c2) = U at *
      have hbU := hbel.trans (q2.mono (by omega))
      have hsA' := hsA.below (q2.mono (by omega))
      have hsB' := hsB.below (q2.mono (by omega))
      clear t0' t1' t2' t3' t4' p2' r0 r1 r2 r3 r4 p1 p2 hsA hsB q1
      unfold hkObj at hX1' hX2
      generalize h.lines = M at *
      go_loopg [8] M.length (fun g t wi => ∃ j : Nat, g = M.length - j ∧ j ≤ M.length ∧ t = .int .i64 j ∧ Below U.heap.size U wi)
      case atStart => exact ⟨0, by omega, by omega, rfl, Below.refl _ _⟩
      case round =>
        rename World => wi
        obtain ⟨j, hgj, hjl, rfl, hbi⟩ := hrel
        have hGj : Hid (_ = M.length - j) := hgj
        clear hgj
        have hsi := hbi.size
        have x1 : wi.cell? ⟨wr.heap.size, 4, none⟩ = some (.slice a1 M.length c1) := cell_of ((hbi.block wr.heap.size (by omega)).trans hX1') rfl
        have x2 : wi.cell? ⟨wr.heap.size + 1, 4, none⟩ = some (.slice a2 M.length c2) := cell_of ((hbi.block (wr.heap.size + 1) (by omega)).trans hX2) rfl
        by_cases hj : j < M.length
        · have hjI : (j : Int) < M.length := by omega
          obtain ⟨g1, rfl, hg1, u0, u1⟩ := (hsA'.below (hbi.mono (by omega))).at hj
          obtain ⟨g2, rfl, hg2, v0, v1⟩ := (hsB'.below (hbi.mono (by omega))).at hj
          generalize M[j] = sx at *
          have hjI0 : (0 : Int) ≤ (j : Int) := by omega
          go_wp2_with fail
          go_quiet (fail)
          go_wp2_with fail
          go_roundg (M.length - (j + 1))
          · exact ⟨j + 1, rfl, by omega, by push_cast; rfl, Below.drewN' hbi⟩
          · have := hGj.out; omega
        · have hjI : ¬ ((j : Int) < M.length) := by omega
          go_wp2_with fail
          go_roundg (hs.length - (k + 1))
          · exact ⟨k + 1, rfl, by omega, by push_cast; rfl, hbU.trans (hbi.mono (by omega))⟩
          · have := hG.out; omega
    · have hkI : ¬ ((k : Int) < hs.length) := by omega
      go_wp2_with fail
      go_ret
      exact ⟨rfl, hbw⟩
end Go.Proofs.YtcclgodahlinbaaGreatDoor
namespace Go.Proofs.YtcclgodahlinbaaGreatDoor
open Go.RowKit Go
set_option maxRecDepth 100000
def Dd (o f : List ByteArray) (i j : Nat) : Nat := Dn.dist (o.drop i) (f.drop j)
theorem Dd_low (o f : List ByteArray) (j : Nat) : Dd o f o.length j = f.length - j := by
  unfold Dd; rw [List.drop_length, Dn.dist_nil_l, List.length_drop]
theorem Dd_right (o f : List ByteArray) (i : Nat) : Dd o f i f.length = o.length - i := by
  unfold Dd; rw [List.drop_length, Dn.dist_nil_r, List.length_drop]
theorem Dd_same {o f : List ByteArray} {i j : Nat} (hi : i < o.length) (hj : j < f.length) (h : o[i] = f[j]) : Dd o f i j = Dd o f (i + 1) (j + 1) := by
  unfold Dd; rw [List.drop_eq_getElem_cons hi, List.drop_eq_getElem_cons hj, h, Dn.dist_same]
theorem Dd_ne {o f : List ByteArray} {i j : Nat} (hi : i < o.length) (hj : j < f.length) (h : ¬ o[i] = f[j]) : Dd o f i j = 1 + min (Dd o f (i + 1) j) (Dd o f i (j + 1)) := by
  unfold Dd
  rw [List.drop_eq_getElem_cons hi, List.drop_eq_getElem_cons hj, Dn.dist_ne h]
theorem Dd_le (o f : List ByteArray) (i j : Nat) : Dd o f i j ≤ o.length + f.length := by
  unfold Dd
  have : ∀ l r : List ByteArray, Dn.dist l r ≤ l.length + r.length := by
    intro l
    induction l with
    | nil => intro r; rw [Dn.dist_nil_l]; simp
    | cons a l ih => intro r; have := Dn.dist_l1 a l r; have := ih r; simp; omega
  have h := this (o.drop i) (f.drop j)
  rw [List.length_drop, List.length_drop] at h
  omega
theorem specW_keep (o f : List ByteArray) {i j : Nat} (hi : i < o.length) (hj : j < f.length) (h : o[i] = f[j]) : Dn.spec (o.drop i) (f.drop j) = ⟨32, o[i]⟩ :: Dn.spec (o.drop (i + 1)) (f.drop (j + 1)) := by
  rw [List.drop_eq_getElem_cons hi, List.drop_eq_getElem_cons hj, Dn.spec_cc, if_pos h]
theorem specW_drop (o f : List ByteArray) {i j : Nat} (hi : i < o.length) (hj : j ≤ f.length) (h : ∀ hj : j < f.length, ¬ o[i] = f[j]) (hd : Dd o f (i + 1) j + 1 = Dd o f i j) : Dn.spec (o.drop i) (f.drop j) = ⟨45, o[i]⟩ :: Dn.spec (o.drop (i + 1)) (f.drop j) := by
  by_cases hj2 : j < f.length
  · have hne := h hj2
    have hD := Dd_ne hi hj2 hne
    unfold Dd at hd hD
    rw [List.drop_eq_getElem_cons hi, List.drop_eq_getElem_cons hj2] at hd hD ⊢
    rw [Dn.spec_cc, if_neg hne, if_pos (by omega)]
  · obtain rfl : j = f.length := by omega
    rw [List.drop_length, List.drop_eq_getElem_cons hi, Dn.spec_cn]
theorem specW_add (o f : List ByteArray) {i j : Nat} (hi : i ≤ o.length) (hj : j < f.length) (h : ∀ hi : i < o.length, ¬ o[i] = f[j] ∧ ¬ Dd o f (i + 1) j + 1 = Dd o f i j) : Dn.spec (o.drop i) (f.drop j) = ⟨43, f[j]⟩ :: Dn.spec (o.drop i) (f.drop (j + 1)) := by
  by_cases hi2 : i < o.length
  · obtain ⟨hne, hd⟩ := h hi2
    have hD := Dd_ne hi2 hj hne
    unfold Dd at hd hD
    rw [List.drop_eq_getElem_cons hi2, List.drop_eq_getElem_cons hj] at hd hD ⊢
    rw [Dn.spec_cc, if_neg hne, if_neg (by omega)]
  · obtain rfl : i = o.length := by omega
    rw [List.drop_length, List.drop_eq_getElem_cons hj, Dn.spec_nc]
def rowC (D : Nat → Nat) (m q : Nat) : List Value := (List.range (m + 1)).map fun j => .int .i64 (((if q ≤ j then D j else 0) : Nat) : Int)
def tabC (B n m p : Nat) : List Value := (List.range (n + 1)).map fun k => if p ≤ k then .slice (some ⟨B + 1 + (n - k), 0, none⟩) (m + 1) (m + 1) else .slice none 0 0
theorem rowC_at {D : Nat → Nat} {m q j : Nat} (h1 : q ≤ j) (h2 : j ≤ m) : (rowC D m q).toArray[j]? = some (.int .i64 (D j : Int)) := by
  have : j < m + 1 := by omega
  simp [rowC, this, h1]
theorem rowC_any {D : Nat → Nat} {m q j : Nat} (h2 : j ≤ m) : (rowC D m q).toArray[j]? = some (.int .i64 (((if q ≤ j then D j else 0) : Nat) : Int)) := by
  have : j < m + 1 := by omega
  simp [rowC, this]
theorem tabC_at {B n m p k : Nat} (h1 : p ≤ k) (h2 : k ≤ n) : (tabC B n m p).toArray[k]? = some (.slice (some ⟨B + 1 + (n - k), 0, none⟩) (m + 1) (m + 1)) := by
  have : k < n + 1 := by omega
  simp [tabC, this, h1]
theorem tabC_any {B n m p k : Nat} (h2 : k ≤ n) : ∃ v, (tabC B n m p).toArray[k]? = some v ∧ ∃ a x y, v = .slice a x y := by
  have : k < n + 1 := by omega
  refine ⟨_, by simp [tabC, this]; rfl, ?_⟩
  split
  · exact ⟨_, _, _, rfl⟩
  · exact ⟨_, _, _, rfl⟩
theorem rowC_set {D : Nat → Nat} {m q : Nat} (_h : q ≤ m) : (rowC D m (q + 1)).toArray.setIfInBounds q (.int .i64 (D q : Int)) = (rowC D m q).toArray := by
  apply Array.ext'
  apply List.ext_getElem
  · simp [rowC]
  · intro i h1 h2
    simp [rowC] at h1
    simp [rowC, List.getElem_set]
    by_cases e : q = i
    · subst e; simp
    · have e1 : (q + 1 ≤ i) ↔ (q ≤ i) := by omega
      simp [e, e1]
theorem tabC_set {B n m p : Nat} (_h : p ≤ n) : (tabC B n m (p + 1)).toArray.setIfInBounds p (.slice (some ⟨B + 1 + (n - p), 0, none⟩) (m + 1) (m + 1)) = (tabC B n m p).toArray := by
  apply Array.ext'
  apply List.ext_getElem
  · simp [tabC]
  · intro i h1 h2
    simp [tabC] at h1
    simp [tabC, List.getElem_set]
    by_cases e : p = i
    · subst e; simp
    · have e1 : (p + 1 ≤ i) ↔ (p ≤ i) := by omega
      simp [e, e1]
theorem rowC_new (D : Nat → Nat) (m : Nat) : madeCells #[.int .i64 0] (m + 1) = (rowC D m (m + 1)).toArray := by
  rw [madeCells_one]
  apply Array.ext'
  apply List.ext_getElem
  · simp [rowC]
  · intro i h1 h2
    simp at h1
    have : ¬ m + 1 ≤ i := by omega
    simp [rowC, this]
theorem tabC_new (B n m : Nat) : madeCells #[.slice none 0 0] (n + 1) = (tabC B n m (n + 1)).toArray := by
  rw [madeCells_one]
  apply Array.ext'
  apply List.ext_getElem
  · simp [tabC]
  · intro i h1 h2
    simp at h1
    have : ¬ n + 1 ≤ i := by omega
    simp [tabC, this]
structure Tab (o f : List ByteArray) (B p : Nat) (w : World) : Prop where
  size : w.heap.size = B + 1 + (o.length + 1 - p)
  tab : w.heap[B]? = some (.cells (tabC B o.length f.length p).toArray 25 (0, 0))
  rows : ∀ k, p ≤ k → k ≤ o.length → w.heap[B + 1 + (o.length - k)]? = some (.cells (rowC (Dd o f k) f.length 0).toArray 3 (0, 0))
structure TabI (o f : List ByteArray) (B i q : Nat) (w : World) : Prop where
  size : w.heap.size = B + 1 + (o.length + 1 - i)
  tab : w.heap[B]? = some (.cells (tabC B o.length f.length i).toArray 25 (0, 0))
  rows : ∀ k, i < k → k ≤ o.length → w.heap[B + 1 + (o.length - k)]? = some (.cells (rowC (Dd o f k) f.length 0).toArray 3 (0, 0))
  row : w.heap[B + 1 + (o.length - i)]? = some (.cells (rowC (Dd o f i) f.length q).toArray 3 (0, 0))
theorem TabI.done {o f : List ByteArray} {B i : Nat} {w : World} (h : TabI o f B i 0 w) : Tab o f B i w :=
  ⟨h.size, h.tab, fun k h1 h2 => by
    by_cases e : i = k
    · subst e; exact h.row
    · exact h.rows k (by omega) h2⟩
theorem TabI.link {o f : List ByteArray} {B i q k : Nat} {w : World} (h : TabI o f B i q w) (h1 : i ≤ k) (h2 : k ≤ o.length) : w.cell? ⟨B, k, none⟩ = some (.slice (some ⟨B + 1 + (o.length - k), 0, none⟩) (f.length + 1) (f.length + 1)) :=
  cell_of h.tab (tabC_at h1 h2)
theorem TabI.full {o f : List ByteArray} {B i q k j : Nat} {w : World} (h : TabI o f B i q w) (h1 : i < k) (h2 : k ≤ o.length) (hj : j ≤ f.length) : w.cell? ⟨B + 1 + (o.length - k), j, none⟩ = some (.int .i64 (Dd o f k j : Int)) :=
  cell_of (h.rows k h1 h2) (rowC_at (Nat.zero_le _) hj)
theorem TabI.own {o f : List ByteArray} {B i q j : Nat} {w : World} (h : TabI o f B i q w) (h1 : q ≤ j) (hj : j ≤ f.length) : w.cell? ⟨B + 1 + (o.length - i), j, none⟩ = some (.int .i64 (Dd o f i j : Int)) :=
  cell_of h.row (rowC_at h1 hj)
theorem TabI.there {o f : List ByteArray} {B i q j : Nat} {w : World} (h : TabI o f B i q w) (hj : j ≤ f.length) : ∃ z : Int, w.cell? ⟨B + 1 + (o.length - i), j, none⟩ = some (.int .i64 z) :=
  ⟨_, cell_of h.row (rowC_any hj)⟩
theorem TabI.warm {o f : List ByteArray} {B i q : Nat} {w : World} (h : TabI o f B i q w) (j : Nat) : w.frozen? ⟨B + 1 + (o.length - i), j, none⟩ = false := frozen_of h.row
theorem TabI.put {o f : List ByteArray} {B i q : Nat} {w : World} (h : TabI o f B i (q + 1) w) (hq : q ≤ f.length) (hi : i ≤ o.length) {z : Int} (hz : z = (Dd o f i q : Int)) : TabI o f B i q (w.setCell ⟨B + 1 + (o.length - i), q, none⟩ (.int .i64 z)) := by
  subst hz
  refine ⟨by rw [World.size_setCell]; exact h.size, ?_, fun k h1 h2 => ?_, ?_⟩
  · rw [heap_setCell_other _ _ _ _ _ (by omega)]; exact h.tab
  · rw [heap_setCell_other _ _ _ _ _ (by omega)]; exact h.rows k h1 h2
  · rw [heap_setCell_same _ _ _ _ _ _ _ h.row, rowC_set hq]
theorem Tab.row {o f : List ByteArray} {B p : Nat} {w : World} (h : Tab o f B (p + 1) w) (hp : p ≤ o.length) :
    TabI o f B p (f.length + 1) ((w.alloc (.cells (madeCells #[.int .i64 0] (f.length + 1)) 3)).setCell ⟨B, p, none⟩ (.slice (some ⟨w.heap.size, 0, none⟩) (f.length + 1) (f.length + 1))) := by
  have hs := h.size
  have e : w.heap.size = B + 1 + (o.length - p) := by omega
  refine ⟨by rw [World.size_setCell, World.size_alloc]; omega, ?_, fun k h1 h2 => ?_, ?_⟩
  · rw [heap_setCell_same _ _ _ _ _ _ _ ((Below.heap_alloc w _ B (by omega)).trans h.tab), e, tabC_set hp]
  · rw [heap_setCell_other _ _ _ _ _ (by omega), Below.heap_alloc w _ _ (by omega)]; exact h.rows k (by omega) h2
  · rw [heap_setCell_other _ _ _ _ _ (by omega), ← e, heap_alloc_new, rowC_new (Dd o f p)]
theorem Tab.link {o f : List ByteArray} {B p k : Nat} {w : World} (h : Tab o f B p w) (h2 : k ≤ o.length) : ∃ a x y, w.cell? ⟨B, k, none⟩ = some (.slice a x y) := by
  obtain ⟨v, hv, a, x, y, rfl⟩ := tabC_any (B := B) (m := f.length) (p := p) h2
  exact ⟨a, x, y, cell_of h.tab hv⟩
theorem Tab.warm {o f : List ByteArray} {B p : Nat} {w : World} (h : Tab o f B p w) (j : Nat) : w.frozen? ⟨B, j, none⟩ = false := frozen_of h.tab
theorem Tab.cells {o f : List ByteArray} {B i j : Nat} {w w' : World} (h : Tab o f B 0 w) (hb : Below w.heap.size w w') (hi : i ≤ o.length) (hj : j ≤ f.length) :
    w'.cell? ⟨B, i, none⟩ = some (.slice (some ⟨B + 1 + (o.length - i), 0, none⟩) (f.length + 1) (f.length + 1)) ∧ w'.cell? ⟨B + 1 + (o.length - i), j, none⟩ = some (.int .i64 (Dd o f i j : Int)) := by
  have hs := h.size
  refine ⟨?_, ?_⟩
  · exact (hb.cell (p := ⟨B, i, none⟩) (by show B < _; omega)).trans (cell_of h.tab (tabC_at (Nat.zero_le _) hi))
  · exact (hb.cell (p := ⟨B + 1 + (o.length - i), j, none⟩) (by show B + 1 + (o.length - i) < _; omega)).trans (cell_of (h.rows i (Nat.zero_le _) hi) (rowC_at (Nat.zero_le _) hj))
end Go.Proofs.YtcclgodahlinbaaGreatDoor
namespace Go.Proofs.YtcclgodahlinbaaGreatDoor
open Go.RowKit Go
set_option maxRecDepth 100000
theorem info_int : (Tryz.prog.info? 3).map (fun i => (i.zero, i.size, i.bytes)) = some (some (.int .i64 0), 1, 8) := by kernel_rfl
theorem info_ints : (Tryz.prog.info? 25).map (fun i => (i.zero, i.size, i.bytes)) = some (some (.slice none 0 0), 1, 24) := by kernel_rfl
theorem make_ints (n : Nat) (hn : n ≤ 1000) (w : World) : (Instr.makeSlice 25 (.int .i64 ((n : Int) + 1)) (.int .i64 ((n : Int) + 1))).run Tryz.prog w = .ok (.slice (some ⟨w.heap.size, 0, none⟩) (n + 1) (n + 1)) (w.alloc (.cells (madeCells #[.int .i64 0] (n + 1)) 3)) := by
  have h := run_make_row' (P := Tryz.prog) 25 3 (.int .i64 0) 8 Tryz.underlying25 info_int rfl .i64 .i64 (n + 1) (by omega) (by omega) w
  rw [show ((n + 1 : Nat) : Int) = (n : Int) + 1 by omega] at h
  exact h
theorem make_intss (n : Nat) (hn : n ≤ 1000) (w : World) : (Instr.makeSlice 148 (.int .i64 ((n : Int) + 1)) (.int .i64 ((n : Int) + 1))).run Tryz.prog w = .ok (.slice (some ⟨w.heap.size, 0, none⟩) (n + 1) (n + 1)) (w.alloc (.cells (madeCells #[.slice none 0 0] (n + 1)) 25)) := by
  have h := run_make_row' (P := Tryz.prog) 148 25 (.slice none 0 0) 24 Tryz.underlying148 info_ints rfl .i64 .i64 (n + 1) (by omega) (by omega) w
  rw [show ((n + 1 : Nat) : Int) = (n : Int) + 1 by omega] at h
  exact h
set_option maxHeartbeats 8000000 in
theorem way_row {o f : List ByteArray} {ao af : Option Addr} {co cf : Nat} {w : World} (hO : Strs w.heap.size w (.slice ao o.length co) o) (hF : Strs w.heap.size w (.slice af f.length cf) f) (hno : o.length ≤ 1000) (hnf : f.length ≤ 1000) :
    Calls Tryz.prog 39 #[.slice ao o.length co, .slice af f.length cf] w fun e w' => ∃ a c, e = .returned (.slice a (Dn.wayM o f).length c) ∧ w'.ownsRow w.heap.size 93 2 (.slice a (Dn.wayM o f).length c) (Dn.wayM o f).length (stepCells (Dn.wayM o f)) ∧ Below w.heap.size w w' := by
  obtain ⟨i0, hi, hz0, hz1, hz2⟩ := info_parts info_line
  have hmkT := make_intss o.length hno
  have hmkR := make_ints f.length hnf
  have hT0 : Tab o f w.heap.size (o.length + 1) (w.alloc (.cells (madeCells #[.slice none 0 0] (o.length + 1)) 25)) := by
    refine ⟨by simp, ?_, fun k h1 h2 => by omega⟩
    rw [heap_alloc_new, tabC_new w.heap.size o.length f.length]
  have hb0 := (Below.refl w.heap.size w).alloc (Nat.le_refl _) (.cells (madeCells #[.slice none 0 0] (o.length + 1)) 25)
  go_enter Tryz.func39, Tryz.ntmps39
  go_wp2_with fail
  go_loopg [8] (o.length + 1) (fun g t wr => ∃ p : Nat, g = p ∧ p ≤ o.length + 1 ∧ t = .int .i64 ((p : Int) - 1) ∧ Tab o f w.heap.size p wr ∧ Below w.heap.size w wr)
  case atStart => exact ⟨o.length + 1, rfl, Nat.le_refl _, by rw [show ((o.length + 1 : Nat) : Int) - 1 = o.length by omega], hT0, hb0⟩
  case round =>
    obtain ⟨p, hgp, hpl, rfl, hT, hbel⟩ := hrel
    have hG : Hid (gk = p) := hgp
    clear hgp hT0 hb0
    have hsw := hbel.size
    cases p with
    | zero =>
      have hiI : ¬ ((0 : Int) ≤ ((0 : Nat) : Int) - 1) := by omega
      have hstart : Hid (([] : List StepB) ++ Dn.spec (o.drop 0) (f.drop 0) = Dn.wayM o f) := by show _ = _; rw [Dn.wayM_spec]; rfl
      go_wp2_with fail
      go_loopg [10, 11, 12] (o.length + f.length) (fun g v ti tj wj => ∃ (i j : Nat) (acc : List StepB), g = (o.length - i) + (f.length - j) ∧ i ≤ o.length ∧ j ≤ f.length ∧ ti = .int .i64 i ∧ tj = .int .i64 j ∧ acc.length ≤ i + j ∧ wj.ownsRow wr.heap.size 93 2 v acc.length (stepCells acc) ∧ Hid (acc ++ Dn.spec (o.drop i) (f.drop j) = Dn.wayM o f) ∧ Below wr.heap.size wr wj)
      case atStart => exact ⟨0, 0, [], by omega, by omega, by omega, rfl, rfl, by simp, World.ownsRow_nil _ _ _ _, hstart, Below.refl _ _⟩
      case round =>
        rename World => wj
        obtain ⟨i, j, acc, hgi, hil, hjl, rfl, rfl, hal, hown, hacc, hbj⟩ := hrel
        have hGq : Hid (_ = (o.length - i) + (f.length - j)) := hgi
        clear hgi hstart
        have hszj := hbj.size
        obtain ⟨al, cl, rfl⟩ := owns_isSlice hown
        have hon : ∀ (t : ByteArray) (k : Int), ∀ u ∈ [Value.int .u8 k, .string t], u.oneCell' = true := by intro t k u hu; simp at hu; rcases hu with rfl | rfl <;> rfl
        have hbwj := hbel.trans (hbj.mono hsw)
        obtain ⟨q0, q1⟩ := hT.cells hbj hil hjl
        have hiI2 : (i : Int) < (o.length : Int) + 1 := by omega
        have hjI2 : (j : Int) < (f.length : Int) + 1 := by omega
        have hD0 : Dd o f i j ≤ 2000 := by have := Dd_le o f i j; omega
        by_cases hi1 : i < o.length
        · have hiI3 : (i : Int) < o.length := by omega
          have hiI4 : (i : Int) + 1 < (o.length : Int) + 1 := by omega
          obtain ⟨q2, q3⟩ := hT.cells hbj (show i + 1 ≤ o.length by omega) hjl
          have hD1 : Dd o f (i + 1) j ≤ 2000 := by have := Dd_le o f (i + 1) j; omega
          obtain ⟨bo, oo, rfl, hbo, so⟩ := (hO.below hbwj).at hi1
          rw [show o.getD i ByteArray.empty = o[i] by simp [List.getD, hi1]] at so
          have hdec : decide ((i : Int) < o.length) = true := by simpa using hiI3
          by_cases hj1 : j < f.length
          · have hjI3 : (j : Int) < f.length := by omega
            have hdej : decide ((j : Int) < f.length) = true := by simpa using hjI3
            obtain ⟨bf, of, rfl, hbf, sf⟩ := (hF.below hbwj).at hj1
            rw [show f.getD j ByteArray.empty = f[j] by simp [List.getD, hj1]] at sf
            by_cases e3 : o[i] = f[j]
            · have hq3 : (o[i].toList == f[j].toList) = true := by rw [e3]; simp
              have hN : Hid ((acc ++ [⟨32, o[i]⟩]) ++ Dn.spec (o.drop (i + 1)) (f.drop (j + 1)) = Dn.wayM o f) := by
                show _ = _
                rw [← hacc.out, specW_keep o f hi1 hj1 e3]; simp
              clear hacc e3
              generalize o[i] = so' at *
              generalize f[j] = sf' at *
              go_wp2_with fail
              go_quiet (fail)
              go_wp2_with (at_builtin; refine wpList_append_own2 rfl (.tmp 173) (.tmp 179) 59 rfl wr.heap.size 93 i0 _ 2 24 Tryz.underlying59 hi hz0 hz1 hz2 rfl (by decide) (.slice al acc.length cl) acc.length (stepCells acc) rfl (World.ownsRow.alloc (w := wj.drewN _) hown _) ⟨wj.heap.size, 0, none⟩ 1 1 [.int .u8 32, .string so'] rfl rfl (cells_new (wj.drewN _) [.int .u8 32, .string so'] 93) (hon _ _) (by unfold maxLen; omega) (by omega) (by simp; omega) ?_; intro v' w3 hown3 hgr hnew; have hb3 := ((Below.drewN' hbj).alloc hszj _).grown hgr (by simp; omega) (fun j e => by have := (hown.lt j e).1; omega))
              go_wp2_with fail
              go_roundg ((o.length - (i + 1)) + (f.length - (j + 1)))
              · exact ⟨i + 1, j + 1, acc ++ [⟨32, so'⟩], rfl, by omega, by omega, by push_cast; rfl, by push_cast; rfl, by simp; omega, by rw [stepCells_append, List.length_append]; exact hown3, hN, hb3⟩
              · have := hGq.out; omega
            · have hq3 : (o[i].toList == f[j].toList) = false := str_ne e3
              by_cases e4 : Dd o f (i + 1) j + 1 = Dd o f i j
              · have hq4 : (((Dd o f (i + 1) j : Nat) : Int) + 1 == (Dd o f i j : Int)) = true := by simp; omega
                have hN : Hid ((acc ++ [⟨45, o[i]⟩]) ++ Dn.spec (o.drop (i + 1)) (f.drop j) = Dn.wayM o f) := by
                  show _ = _
                  rw [← hacc.out, specW_drop o f hi1 hjl (fun _ => e3) e4]; simp
                clear hacc e3 e4
                generalize o[i] = so' at *
                generalize f[j] = sf' at *
                generalize Dd o f (i + 1) j = d1 at *
                generalize Dd o f i j = d0 at *
                go_wp2_with fail
                go_quiet (fail)
                go_wp2_with fail
                go_quiet (fail)
                go_wp2_with (at_builtin; refine wpList_append_own2 rfl (.tmp 208) (.tmp 214) 59 rfl wr.heap.size 93 i0 _ 2 24 Tryz.underlying59 hi hz0 hz1 hz2 rfl (by decide) (.slice al acc.length cl) acc.length (stepCells acc) rfl (World.ownsRow.alloc (w := wj.drewN _) hown _) ⟨wj.heap.size, 0, none⟩ 1 1 [.int .u8 45, .string so'] rfl rfl (cells_new (wj.drewN _) [.int .u8 45, .string so'] 93) (hon _ _) (by unfold maxLen; omega) (by omega) (by simp; omega) ?_; intro v' w3 hown3 hgr hnew; have hb3 := ((Below.drewN' hbj).alloc hszj _).grown hgr (by simp; omega) (fun j e => by have := (hown.lt j e).1; omega))
                go_wp2_with fail
                go_roundg ((o.length - (i + 1)) + (f.length - j))
                · exact ⟨i + 1, j, acc ++ [⟨45, so'⟩], rfl, by omega, by omega, by push_cast; rfl, rfl, by simp; omega, by rw [stepCells_append, List.length_append]; exact hown3, hN, hb3⟩
                · have := hGq.out; omega
              · have hq4 : (((Dd o f (i + 1) j : Nat) : Int) + 1 == (Dd o f i j : Int)) = false := by simp; omega
                have hN : Hid ((acc ++ [⟨43, f[j]⟩]) ++ Dn.spec (o.drop i) (f.drop (j + 1)) = Dn.wayM o f) := by
                  show _ = _
                  rw [← hacc.out, specW_add o f hil hj1 (fun _ => ⟨e3, e4⟩)]; simp
                clear hacc e3 e4
                generalize o[i] = so' at *
                generalize f[j] = sf' at *
                generalize Dd o f (i + 1) j = d1 at *
                generalize Dd o f i j = d0 at *
                go_wp2_with fail
                go_quiet (fail)
                go_wp2_with fail
                go_quiet (fail)
                go_wp2_with (at_builtin; refine wpList_append_own2 rfl (.tmp 143) (.tmp 149) 59 rfl wr.heap.size 93 i0 _ 2 24 Tryz.underlying59 hi hz0 hz1 hz2 rfl (by decide) (.slice al acc.length cl) acc.length (stepCells acc) rfl (World.ownsRow.alloc (w := wj.drewN _) hown _) ⟨wj.heap.size, 0, none⟩ 1 1 [.int .u8 43, .string sf'] rfl rfl (cells_new (wj.drewN _) [.int .u8 43, .string sf'] 93) (hon _ _) (by unfold maxLen; omega) (by omega) (by simp; omega) ?_; intro v' w3 hown3 hgr hnew; have hb3 := ((Below.drewN' hbj).alloc hszj _).grown hgr (by simp; omega) (fun j e => by have := (hown.lt j e).1; omega))
                go_wp2_with fail
                go_roundg ((o.length - i) + (f.length - (j + 1)))
                · exact ⟨i, j + 1, acc ++ [⟨43, sf'⟩], rfl, by omega, by omega, rfl, by push_cast; rfl, by simp; omega, by rw [stepCells_append, List.length_append]; exact hown3, hN, hb3⟩
                · have := hGq.out; omega
          · have hjI3 : ¬ ((j : Int) < f.length) := by omega
            have hdej : decide ((j : Int) < f.length) = false := by simpa using hjI3
            have e4 : Dd o f (i + 1) j + 1 = Dd o f i j := by
              have ej : j = f.length := by omega
              rw [ej, Dd_right, Dd_right]; omega
            have hq4 : (((Dd o f (i + 1) j : Nat) : Int) + 1 == (Dd o f i j : Int)) = true := by simp; omega
            have hN : Hid ((acc ++ [⟨45, o[i]⟩]) ++ Dn.spec (o.drop (i + 1)) (f.drop j) = Dn.wayM o f) := by
              show _ = _
              rw [← hacc.out, specW_drop o f hi1 hjl (fun h => absurd h hj1) e4]; simp
            clear hacc e4
            generalize o[i] = so' at *
            generalize Dd o f (i + 1) j = d1 at *
            generalize Dd o f i j = d0 at *
            go_wp2_with fail
            go_quiet (fail)
            go_wp2_with fail
            go_quiet (fail)
            go_wp2_with (at_builtin; refine wpList_append_own2 rfl (.tmp 208) (.tmp 214) 59 rfl wr.heap.size 93 i0 _ 2 24 Tryz.underlying59 hi hz0 hz1 hz2 rfl (by decide) (.slice al acc.length cl) acc.length (stepCells acc) rfl (World.ownsRow.alloc (w := wj.drewN _) hown _) ⟨wj.heap.size, 0, none⟩ 1 1 [.int .u8 45, .string so'] rfl rfl (cells_new (wj.drewN _) [.int .u8 45, .string so'] 93) (hon _ _) (by unfold maxLen; omega) (by omega) (by simp; omega) ?_; intro v' w3 hown3 hgr hnew; have hb3 := ((Below.drewN' hbj).alloc hszj _).grown hgr (by simp; omega) (fun j e => by have := (hown.lt j e).1; omega))
            go_wp2_with fail
            go_roundg ((o.length - (i + 1)) + (f.length - j))
            · exact ⟨i + 1, j, acc ++ [⟨45, so'⟩], rfl, by omega, by omega, by push_cast; rfl, rfl, by simp; omega, by rw [stepCells_append, List.length_append]; exact hown3, hN, hb3⟩
            · have := hGq.out; omega
        · have hiI3 : ¬ ((i : Int) < o.length) := by omega
          have hdec : decide ((i : Int) < o.length) = false := by simpa using hiI3
          by_cases hj1 : j < f.length
          · have hjI3 : (j : Int) < f.length := by omega
            obtain ⟨bf, of, rfl, hbf, sf⟩ := (hF.below hbwj).at hj1
            rw [show f.getD j ByteArray.empty = f[j] by simp [List.getD, hj1]] at sf
            have hN : Hid ((acc ++ [⟨43, f[j]⟩]) ++ Dn.spec (o.drop i) (f.drop (j + 1)) = Dn.wayM o f) := by
              show _ = _
              rw [← hacc.out, specW_add o f hil hj1 (fun h => absurd h hi1)]; simp
            clear hacc
            generalize f[j] = sf' at *
            go_wp2_with fail
            go_quiet (fail)
            go_wp2_with fail
            go_quiet (fail)
            go_wp2_with (at_builtin; refine wpList_append_own2 rfl (.tmp 143) (.tmp 149) 59 rfl wr.heap.size 93 i0 _ 2 24 Tryz.underlying59 hi hz0 hz1 hz2 rfl (by decide) (.slice al acc.length cl) acc.length (stepCells acc) rfl (World.ownsRow.alloc (w := wj.drewN _) hown _) ⟨wj.heap.size, 0, none⟩ 1 1 [.int .u8 43, .string sf'] rfl rfl (cells_new (wj.drewN _) [.int .u8 43, .string sf'] 93) (hon _ _) (by unfold maxLen; omega) (by omega) (by simp; omega) ?_; intro v' w3 hown3 hgr hnew; have hb3 := ((Below.drewN' hbj).alloc hszj _).grown hgr (by simp; omega) (fun j e => by have := (hown.lt j e).1; omega))
            go_wp2_with fail
            go_roundg ((o.length - i) + (f.length - (j + 1)))
            · exact ⟨i, j + 1, acc ++ [⟨43, sf'⟩], rfl, by omega, by omega, rfl, by push_cast; rfl, by simp; omega, by rw [stepCells_append, List.length_append]; exact hown3, hN, hb3⟩
            · have := hGq.out; omega
          · have hjI3 : ¬ ((j : Int) < f.length) := by omega
            have hF' : Hid (Dn.wayM o f = acc) := by
              show _ = _
              rw [← hacc.out, List.drop_eq_nil_of_le (show o.length ≤ i by omega), List.drop_eq_nil_of_le (show f.length ≤ j by omega), Dn.spec_nn, List.append_nil]
            clear hacc
            go_wp2_with fail
            go_ret
            refine ⟨al, cl, ?_, ?_, hbwj⟩
            · rw [hF'.out]; rfl
            · rw [hF'.out]; exact owns_mono hown hsw
    | succ i =>
      rw [show ((i + 1 : Nat) : Int) - 1 = (i : Int) by omega]
      have hiI : (0 : Int) ≤ i := by omega
      have hil : i ≤ o.length := by omega
      have hi2 : (i : Int) < (o.length : Int) + 1 := by omega
      obtain ⟨xa, xl, xc, hx⟩ := hT.link hil
      have hxf := hT.warm i
      have hTI := hT.row hil
      have hbI := (hbel.alloc hsw (.cells (madeCells #[.int .i64 0] (f.length + 1)) 3)).setCell (p := ⟨w.heap.size, i, none⟩) (Nat.le_refl _) (.slice (some ⟨wr.heap.size, 0, none⟩) (f.length + 1) (f.length + 1))
      have hxa : (wr.alloc (.cells (madeCells #[.int .i64 0] (f.length + 1)) 3)).cell? ⟨w.heap.size, i, none⟩ = some (.slice xa xl xc) := ((Below.refl wr.heap.size wr).alloc (Nat.le_refl _) _).cell (p := ⟨w.heap.size, i, none⟩) (by show w.heap.size < wr.heap.size; have := hT.size; omega) |>.trans hx
      have hxaf : (wr.alloc (.cells (madeCells #[.int .i64 0] (f.length + 1)) 3)).frozen? ⟨w.heap.size, i, none⟩ = false := frozen_of ((Below.heap_alloc wr _ w.heap.size (by have := hT.size; omega)).trans hT.tab)
      go_wp2_with fail
      generalize (wr.alloc (.cells (madeCells #[.int .i64 0] (f.length + 1)) 3)).setCell ⟨w.heap.size, i, none⟩ (.slice (some ⟨wr.heap.size, 0, none⟩) (f.length + 1) (f.length + 1)) = W1 at *
      clear hxa hxaf hx hxf hT hbel
      go_loopg [9] (f.length + 1) (fun g t wi => ∃ q : Nat, g = q ∧ q ≤ f.length + 1 ∧ t = .int .i64 ((q : Int) - 1) ∧ TabI o f w.heap.size i q wi ∧ Below w.heap.size w wi)
      case atStart => exact ⟨f.length + 1, rfl, Nat.le_refl _, by rw [show ((f.length + 1 : Nat) : Int) - 1 = f.length by omega], hTI, hbI⟩
      case round =>
        rename World => wi
        obtain ⟨q, hgq, hql, rfl, hQ, hbq⟩ := hrel
        have hGq : Hid (_ = q) := hgq
        clear hgq hTI hbI
        cases q with
        | zero =>
          have hz : (0 : Int) ≤ ((0 : Nat) : Int) - 1 ↔ False := by simp
          go_wp2_with fail
          go_roundg i
          · exact ⟨i, rfl, by omega, rfl, hQ.done, hbq⟩
          · have := hG.out; omega
        | succ j =>
          rw [show ((j + 1 : Nat) : Int) - 1 = (j : Int) by omega]
          have hjI : (0 : Int) ≤ j := by omega
          have hjl : j ≤ f.length := by omega
          have hj2 : (j : Int) < (f.length : Int) + 1 := by omega
          have hL0 := hQ.link (Nat.le_refl i) hil
          obtain ⟨z0, hc0⟩ := hQ.there hjl
          have hcf := hQ.warm j
          by_cases e1 : i = o.length
          · have hq1 : (((i : Nat) : Int) == (o.length : Int)) = true := by simp [e1]
            have hP : Hid (TabI o f w.heap.size i j (wi.setCell ⟨w.heap.size + 1 + (o.length - i), j, none⟩ (.int .i64 ((f.length : Int) - j)))) := hQ.put hjl hil (by rw [e1, Dd_low]; omega)
            have hBp := hbq.setCell (p := ⟨w.heap.size + 1 + (o.length - i), j, none⟩) (by show w.heap.size ≤ w.heap.size + 1 + (o.length - i); omega) (.int .i64 ((f.length : Int) - j))
            clear hQ e1
            go_wp2_with fail
            go_roundg j
            · exact ⟨j, rfl, by omega, rfl, hP.out, hBp⟩
            · have := hGq.out; omega
          · have hq1 : (((i : Nat) : Int) == (o.length : Int)) = false := by simp; omega
            have hi3 : i < o.length := by omega
            by_cases e2 : j = f.length
            · have hq2 : (((j : Nat) : Int) == (f.length : Int)) = true := by simp [e2]
              have hP : Hid (TabI o f w.heap.size i j (wi.setCell ⟨w.heap.size + 1 + (o.length - i), j, none⟩ (.int .i64 ((o.length : Int) - i)))) := hQ.put hjl hil (by rw [e2, Dd_right]; omega)
              have hBp := hbq.setCell (p := ⟨w.heap.size + 1 + (o.length - i), j, none⟩) (by show w.heap.size ≤ w.heap.size + 1 + (o.length - i); omega) (.int .i64 ((o.length : Int) - i))
              clear hQ e1 e2
              go_wp2_with fail
              go_roundg j
              · exact ⟨j, rfl, by omega, rfl, hP.out, hBp⟩
              · have := hGq.out; omega
            · have hq2 : (((j : Nat) : Int) == (f.length : Int)) = false := by simp; omega
              have hj3 : j < f.length := by omega
              have hL1 := hQ.link (Nat.le_succ i) (show i + 1 ≤ o.length by omega)
              have hi4 : (i : Int) < o.length := by omega
              have hj4 : (j : Int) < f.length := by omega
              obtain ⟨bo, oo, rfl, hbo, so⟩ := (hO.below hbq).at hi3
              obtain ⟨bf, of, rfl, hbf, sf⟩ := (hF.below hbq).at hj3
              rw [show o.getD i ByteArray.empty = o[i] by simp [List.getD, hi3]] at so
              rw [show f.getD j ByteArray.empty = f[j] by simp [List.getD, hj3]] at sf
              have hi5 : (i : Int) + 1 < (o.length : Int) + 1 := by omega
              have hj5 : (j : Int) + 1 < (f.length : Int) + 1 := by omega
              have hD0 : Dd o f i j ≤ 2000 := by have := Dd_le o f i j; omega
              by_cases e3 : o[i] = f[j]
              · have hq3 : (o[i].toList == f[j].toList) = true := by rw [e3]; simp
                have hc1 := hQ.full (Nat.lt_succ_self i) (show i + 1 ≤ o.length by omega) (show j + 1 ≤ f.length by omega)
                have hP : Hid (∀ k, TabI o f w.heap.size i j ((wi.drewN k).setCell ⟨w.heap.size + 1 + (o.length - i), j, none⟩ (.int .i64 (Dd o f (i + 1) (j + 1) : Int)))) := fun k => TabI.put (w := wi.drewN k) ⟨hQ.size, hQ.tab, hQ.rows, hQ.row⟩ hjl hil (by rw [Dd_same hi3 hj3 e3])
                generalize o[i] = so' at *
                generalize f[j] = sf' at *
                generalize Dd o f (i + 1) (j + 1) = dd at *
                clear hQ
                go_wp2_with fail
                go_quiet (fail)
                go_wp2_with fail
                go_region
                go_wp2_with fail
                go_roundg j
                · exact ⟨j, rfl, by omega, rfl, hP.out _, (Below.drewN' hbq).setCell (p := ⟨w.heap.size + 1 + (o.length - i), j, none⟩) (by show w.heap.size ≤ w.heap.size + 1 + (o.length - i); omega) _⟩
                · have := hGq.out; omega
              · have hq3 : (o[i].toList == f[j].toList) = false := str_ne e3
                have hDn := Dd_ne hi3 hj3 e3
                have hc1 := hQ.full (Nat.lt_succ_self i) (show i + 1 ≤ o.length by omega) hjl
                have hc2 := hQ.own (Nat.le_refl (j + 1)) (show j + 1 ≤ f.length by omega)
                have hP : Hid (∀ k (z : Int), z = (Dd o f i j : Int) → TabI o f w.heap.size i j ((wi.drewN k).setCell ⟨w.heap.size + 1 + (o.length - i), j, none⟩ (.int .i64 z))) := fun k z hz => TabI.put (w := wi.drewN k) ⟨hQ.size, hQ.tab, hQ.rows, hQ.row⟩ hjl hil hz
                have hd1 : Dd o f (i + 1) j ≤ 2000 := by have := Dd_le o f (i + 1) j; omega
                have hd2 : Dd o f i (j + 1) ≤ 2000 := by have := Dd_le o f i (j + 1); omega
                generalize o[i] = so' at *
                generalize f[j] = sf' at *
                generalize Dd o f (i + 1) j = d1 at *
                generalize Dd o f i (j + 1) = d2 at *
                generalize Dd o f i j = d0 at *
                have hDH : Hid (d0 = 1 + min d1 d2) := hDn
                clear hQ hDn
                by_cases hle : d1 ≤ d2
                · have hleI : (d1 : Int) ≤ d2 := by omega
                  go_wp2_with fail
                  go_quiet (fail)
                  go_wp2_with fail
                  go_quiet (fail)
                  go_wp2_with fail
                  go_region
                  go_wp2_with fail
                  go_roundg j
                  · exact ⟨j, rfl, by omega, rfl, hP.out _ _ (by have := hDH.out; omega), (Below.drewN' hbq).setCell (p := ⟨w.heap.size + 1 + (o.length - i), j, none⟩) (by show w.heap.size ≤ w.heap.size + 1 + (o.length - i); omega) _⟩
                  · have := hGq.out; omega
                · have hleI : ¬ ((d1 : Int) ≤ d2) := by omega
                  go_wp2_with fail
                  go_quiet (fail)
                  go_wp2_with fail
                  go_quiet (fail)
                  go_wp2_with fail
                  go_region
                  go_wp2_with fail
                  go_roundg j
                  · exact ⟨j, rfl, by omega, rfl, hP.out _ _ (by have := hDH.out; omega), (Below.drewN' hbq).setCell (p := ⟨w.heap.size + 1 + (o.length - i), j, none⟩) (by show w.heap.size ≤ w.heap.size + 1 + (o.length - i); omega) _⟩
                  · have := hGq.out; omega
end Go.Proofs.YtcclgodahlinbaaGreatDoor
namespace Go.Proofs.YtcclgodahlinbaaGreatDoor
open Go.RowKit Go
set_option maxRecDepth 100000
theorem StepsAt.of_ownsT {T base : Nat} {w : World} {v : Value} {L : List StepB} (h : w.ownsRow base T 2 v L.length (stepCells L)) : StepsAt w.heap.size w v L := by
  by_cases h0 : L.length = 0
  · have : L = [] := List.eq_nil_of_length_eq_zero h0
    subst this
    rcases h.2 with ⟨e, _⟩ | ⟨g, cap, cur, e, _⟩
    · exact .inl ⟨rfl, _, _, e⟩
    · exact .inl ⟨rfl, _, _, e⟩
  · obtain ⟨g, cap, rfl, _, hg, _⟩ := owns_slice h (by omega)
    refine .inr ⟨g, cap, rfl, hg, fun i hi => ?_⟩
    obtain ⟨s0, s1⟩ := stepCells_get L i hi
    exact ⟨(h.cellAt (i * 2) (by omega)).trans s0, (h.cellAt (i * 2 + 1) (by omega)).trans s1⟩
theorem nearI_past {L : List StepB} {c k i : Nat} {bs : List Bool} (h : NearI L c k i bs) (hi : L.length ≤ i) : NearI L c k (i + 1) bs :=
  ⟨h.1, fun j hj => by
    rw [h.2 j hj]
    have e1 : decide (j < i) = true := by simp; omega
    have e2 : decide (j < i + 1) = true := by simp; omega
    rw [e1, e2]⟩
theorem make_bools (n : Nat) (hn : n ≤ 1000) (w : World) : (Instr.makeSlice 97 (.int .i64 (n : Int)) (.int .i64 (n : Int))).run Tryz.prog w = .ok (.slice (some ⟨w.heap.size, 0, none⟩) n n) (w.alloc (.cells (madeCells #[.bool false] n) 4)) :=
  run_make_row' (P := Tryz.prog) 97 4 (.bool false) 1 Tryz.underlying97 info_bool rfl .i64 .i64 n (by omega) (by omega) w
theorem bools_new (n : Nat) (hn : n ≤ 1000) (w : World) : (w.alloc (.cells (madeCells #[.bool false] n) 4)).ownsRow w.heap.size 4 1 (.slice (some ⟨w.heap.size, 0, none⟩) n n) n (boolCells (List.replicate n false)) :=
  ⟨by simp [boolCells], .inr ⟨_, _, _, rfl, Nat.le_refl _, heap_alloc_new w _, Nat.le_refl _, by unfold maxLen; omega, by rw [madeCells_one]; simp, by rw [madeCells_one]; simp [boolCells]⟩⟩
theorem number_fin {base g n cap i : Nat} {hv : List HV} {w : World} (hs : HSv base g n cap hv w) (hbase : base ≤ w.heap.size) (hgb : base ≤ g) (hi : i < hv.length) (l : List (Nat × Value))
    (hl : (l = [] ∧ numL hv[i].1 = hv[i].1) ∨ (l = [(i * 5, .int .i64 ((numL hv[i].1).fr : Nat))] ∧ (numL hv[i].1).tr = hv[i].1.tr) ∨ (l = [(i * 5 + 2, .int .i64 ((numL hv[i].1).tr : Nat))] ∧ (numL hv[i].1).fr = hv[i].1.fr) ∨ l = [(i * 5, .int .i64 ((numL hv[i].1).fr : Nat)), (i * 5 + 2, .int .i64 ((numL hv[i].1).tr : Nat))]) :
    HSv base g n cap (hv.set i (numL hv[i].1, hv[i].2)) (l.foldl (fun w p => w.setCell ⟨g, p.1, none⟩ p.2) w) ∧ Below base w (l.foldl (fun w p => w.setCell ⟨g, p.1, none⟩ p.2) w) ∧ w.grownBy (l.foldl (fun w p => w.setCell ⟨g, p.1, none⟩ p.2) w) (some g) := by
  obtain ⟨cur, hcur⟩ := owns_block hs.row (g := g) rfl
  have hG := hunkCells_get hv i hi
  have hgr : ∀ (l : List (Nat × Value)) (w : World), w.grownBy (l.foldl (fun w p => w.setCell ⟨g, p.1, none⟩ p.2) w) (some g) := by
    intro l
    induction l with
    | nil => intro w; exact ⟨rfl, rfl, rfl, Nat.le_refl _, fun _ _ _ => rfl⟩
    | cons p l ih => intro w; exact grownBy_trans (grownBy_setCell w g p.1 p.2) (ih _)
  have hgw := hgr l w
  have hrow : (l.foldl (fun w p => w.setCell ⟨g, p.1, none⟩ p.2) w).ownsRow base 61 5 (.slice (some ⟨g, 0, none⟩) n cap) n (hunkCells (hv.set i (numL hv[i].1, hv[i].2))) := by
    refine owns_setHunk hs.row hs.len hi _ (fun cu hcu htk => ?_)
    have hb : (numL hv[i].1).fc = hv[i].1.fc ∧ (numL hv[i].1).tc = hv[i].1.tc := ⟨rfl, rfl⟩
    simp only [hb.1, hb.2]
    rw [two (by rw [htk]; exact hG.2.1) (by rw [htk]; exact hG.2.2.2.1) (by rw [htk]; exact hG.2.2.2.2)]
    rcases hl with ⟨rfl, e⟩ | ⟨rfl, e⟩ | ⟨rfl, e⟩ | rfl
    · refine ⟨cu, hcu, rfl, ?_⟩
      rw [e, set_self' (l := List.take (n * 5) cu.toList) (by rw [htk]; exact hG.1), set_self' (by rw [htk]; exact hG.2.2.1)]
    · refine ⟨_, heap_setCell_same _ _ _ _ _ _ _ hcu, by simp, ?_⟩
      rw [e, set_self' (i := i * 5 + 2) (by rw [List.getElem?_set, htk]; simp [hG.2.2.1])]
      simp [List.take_set]
    · refine ⟨_, heap_setCell_same _ _ _ _ _ _ _ hcu, by simp, ?_⟩
      rw [e, set_self' (i := i * 5) (by rw [htk]; exact hG.1)]
      simp [List.take_set]
    · refine ⟨_, heap_setCell_same _ _ _ _ _ _ _ (heap_setCell_same _ _ _ _ _ _ _ hcu), by simp, ?_⟩
      simp [List.take_set]
  refine ⟨⟨by simp [hs.len], hrow, fun p hp => ?_, ?_⟩, (Below.refl base w).grown hgw hbase (fun k e => by cases e; exact hgb), hgw⟩
  · have key : ∃ q ∈ hv, q.2 = p.2 ∧ q.1.lines = p.1.lines := by
      rcases List.mem_or_eq_of_mem_set hp with h | h
      · exact ⟨p, h, rfl, rfl⟩
      · exact ⟨hv[i], List.getElem_mem hi, by rw [h], by rw [h]; rfl⟩
    obtain ⟨q, hq, e1, e2⟩ := key
    have ho := hs.lines q hq
    have := ho.kept hgw (.inr (owns_ne ho hcur (by decide)))
    rw [e1, e2] at this
    exact this
  · have h0 := hs.apart
    have h1 : (hv.map (·.2)).Pairwise (fun a b : Value => a.ownBlock = none ∨ a.ownBlock ≠ b.ownBlock) := List.pairwise_map.2 h0
    have h2 : (hv.set i (numL hv[i].1, hv[i].2)).map (·.2) = hv.map (·.2) := by
      rw [List.map_set]
      apply List.ext_getElem?
      intro j
      rw [List.getElem?_set]
      split
      · rename_i e; subst e; simp [hi]
      · rfl
    rw [← h2] at h1
    exact List.pairwise_map.1 h1
theorem addLine_end {base g n cap g' cap' O : Nat} {init : List HV} {h : HunkM} {vl : Value} {s : StepB} {w w2 : World} (hs : HSv base g n cap (init ++ [(h, vl)]) w) (hO : init.length * 5 = O)
    (hown : w2.ownsRow base 93 2 (.slice (some ⟨g', 0, none⟩) (h.lines.length + 1) cap') (h.lines.length + 1) (stepCells h.lines ++ [.int .u8 (s.kind : Nat), .string s.text]))
    (hold : ∀ k, k < w.heap.size → some k ≠ vl.ownBlock → w2.heap[k]? = w.heap[k]?)
    (hnew : (Value.slice (some ⟨g', 0, none⟩) (h.lines.length + 1) cap').ownBlock = vl.ownBlock ∨ ∀ k, (Value.slice (some ⟨g', 0, none⟩) (h.lines.length + 1) cap').ownBlock = some k → w.heap.size ≤ k) :
    (s.kind = 32 → HSv base g n cap (init ++ [(addL h s, .slice (some ⟨g', 0, none⟩) (h.lines.length + 1) cap')]) (((w2.setCell ⟨g, O + 4, none⟩ (.slice (some ⟨g', 0, none⟩) (h.lines.length + 1) cap')).setCell ⟨g, O + 1, none⟩ (.int .i64 ((h.fc : Int) + 1))).setCell ⟨g, O + 3, none⟩ (.int .i64 ((h.tc : Int) + 1)))) ∧
    (s.kind = 45 → HSv base g n cap (init ++ [(addL h s, .slice (some ⟨g', 0, none⟩) (h.lines.length + 1) cap')]) ((w2.setCell ⟨g, O + 4, none⟩ (.slice (some ⟨g', 0, none⟩) (h.lines.length + 1) cap')).setCell ⟨g, O + 1, none⟩ (.int .i64 ((h.fc : Int) + 1)))) ∧
    (s.kind = 43 → HSv base g n cap (init ++ [(addL h s, .slice (some ⟨g', 0, none⟩) (h.lines.length + 1) cap')]) ((w2.setCell ⟨g, O + 4, none⟩ (.slice (some ⟨g', 0, none⟩) (h.lines.length + 1) cap')).setCell ⟨g, O + 3, none⟩ (.int .i64 ((h.tc : Int) + 1)))) := by
  have hget := hunkCells_get (init ++ [(h, vl)]) init.length (by simp)
  simp only [last_get, hO] at hget
  refine ⟨fun hk => ?_, fun hk => ?_, fun hk => ?_⟩
  · have hA : (addL h s).fc = h.fc + 1 ∧ (addL h s).tc = h.tc + 1 := by unfold addL; simp [hk]
    refine addLine_fin hs hown hold hnew (grownBy_trans (grownBy_trans (grownBy_setCell _ _ _ _) (grownBy_setCell _ _ _ _)) (grownBy_setCell _ _ _ _)) ?_
    intro cu hcu htk
    obtain ⟨cu', k1, k2, k3⟩ := heap3 (o1 := O + 4) (o2 := O + 1) (o3 := O + 3) (v1 := .slice (some ⟨g', 0, none⟩) (h.lines.length + 1) cap') (v2 := .int .i64 ((h.fc : Int) + 1)) (v3 := .int .i64 ((h.tc : Int) + 1)) hcu (n * 5)
    refine ⟨cu', k1, k2, ?_⟩
    rw [k3, hO, five (by rw [htk]; exact hget.1) (by rw [htk]; exact hget.2.2.1), hA.1, hA.2]
    rfl
  · have hA : (addL h s).fc = h.fc + 1 ∧ (addL h s).tc = h.tc := by unfold addL; simp [hk]
    refine addLine_fin hs hown hold hnew (grownBy_trans (grownBy_setCell _ _ _ _) (grownBy_setCell _ _ _ _)) ?_
    intro cu hcu htk
    obtain ⟨cu', k1, k2, k3⟩ := heap2 (o1 := O + 4) (o2 := O + 1) (v1 := .slice (some ⟨g', 0, none⟩) (h.lines.length + 1) cap') (v2 := .int .i64 ((h.fc : Int) + 1)) hcu (n * 5)
    refine ⟨cu', k1, k2, ?_⟩
    rw [k3, hO, five (by rw [htk]; exact hget.1) (by rw [htk]; exact hget.2.2.1), hA.1, hA.2]
    refine (set_self ?_).symm
    rw [List.getElem?_set, List.getElem?_set, htk]
    simp [hget.2.2.2.1]
  · have hA : (addL h s).fc = h.fc ∧ (addL h s).tc = h.tc + 1 := by unfold addL; simp [hk]
    refine addLine_fin hs hown hold hnew (grownBy_trans (grownBy_setCell _ _ _ _) (grownBy_setCell _ _ _ _)) ?_
    intro cu hcu htk
    obtain ⟨cu', k1, k2, k3⟩ := heap2 (o1 := O + 4) (o2 := O + 3) (v1 := .slice (some ⟨g', 0, none⟩) (h.lines.length + 1) cap') (v2 := .int .i64 ((h.tc : Int) + 1)) hcu (n * 5)
    refine ⟨cu', k1, k2, ?_⟩
    rw [k3, hO, five (by rw [htk]; exact hget.1) (by rw [htk]; exact hget.2.2.1), hA.1, hA.2]
    rw [set_self (l := (List.take (n * 5) cu.toList).set (O + 4) _) (i := O + 1)]
    · rfl
    · rw [List.getElem?_set, htk]; simp [hget.2.1]
end Go.Proofs.YtcclgodahlinbaaGreatDoor
