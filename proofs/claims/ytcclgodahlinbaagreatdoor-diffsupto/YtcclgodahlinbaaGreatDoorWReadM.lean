import Derived.Test.YtcclgodahlinbaaGreatDoorWNumM
import Derived.Test.YtcclgodahlinbaaGreatDoorWIsRight
namespace Go.Proofs.YtcclgodahlinbaaGreatDoor
open Go.RowKit Go
set_option maxRecDepth 100000

/-- what stands in a patch's text: a header, or a line of a hunk -/
abbrev Tok := Sum HunkM StepB
def tokL (t : Tok) : List UInt8 := match t with
  | .inl h => headM h
  | .inr s => UInt8.ofNat s.kind :: s.text.data.toList
def toksL (ts : List Tok) : List UInt8 := ts.flatMap fun t => tokL t ++ [10]
def toksH (h : HunkM) : List Tok := .inl { h with lines := [] } :: h.lines.map .inr
def toksM (hs : List HunkM) : List Tok := hs.flatMap toksH
def writeM (hs : List HunkM) : List UInt8 := toksL (toksM hs)
theorem toksL_append (a b : List Tok) : toksL (a ++ b) = toksL a ++ toksL b := by simp [toksL]
theorem toksL_one (t : Tok) : toksL [t] = tokL t ++ [10] := by simp [toksL]
theorem toksL_cons (t : Tok) (l : List Tok) : toksL (t :: l) = tokL t ++ [10] ++ toksL l := by simp [toksL]
theorem toksM_append (a b : List HunkM) : toksM (a ++ b) = toksM a ++ toksM b := by simp [toksM]
theorem toksM_one (h : HunkM) : toksM [h] = toksH h := by simp [toksM]
theorem writeM_append (a b : List HunkM) : writeM (a ++ b) = writeM a ++ writeM b := by unfold writeM; rw [toksM_append, toksL_append]

/-- how far a text was read -/
structure Rd where
  hs : List HunkM
  en : Nat
  gr : Int
  f : Nat
  t : Nat
  b : Bool
def Rd.start : Rd := ⟨[], 0, 0, 0, 0, false⟩
def Rd.ended (st : Rd) : Prop := st.hs = [] ∨ (st.f = 0 ∧ st.t = 0 ∧ st.b = true)
def Step (st : Rd) (tk : Tok) (st' : Rd) : Prop := match tk with
  | .inl h => st.f = 0 ∧ st.t = 0 ∧ st.ended ∧ h.lines = [] ∧ Small h ∧ fitsM h st.en st.gr = true ∧ st' = ⟨st.hs ++ [h], placeM h.fr h.fc + h.fc, st.gr + h.tc - h.fc, h.fc, h.tc, false⟩
  | .inr s => (s.kind = 32 ∨ s.kind = 45 ∨ s.kind = 43) ∧ kf s.kind ≤ st.f ∧ kt s.kind ≤ st.t ∧ (10 : UInt8) ∉ s.text.data.toList ∧ s.text.size ≤ 1000 ∧ ∃ init h, st.hs = init ++ [h] ∧
      st' = ⟨init ++ [{ h with lines := h.lines ++ [s] }], st.en, st.gr, st.f - kf s.kind, st.t - kt s.kind, st.b || decide (s.kind ≠ 32)⟩
def Steps : Rd → List Tok → Rd → Prop
  | st, [], st' => st = st'
  | st, t :: l, st' => ∃ m, Step st t m ∧ Steps m l st'
theorem steps_append {st st' : Rd} : ∀ {a b : List Tok}, Steps st (a ++ b) st' ↔ ∃ m, Steps st a m ∧ Steps m b st'
  | [], b => by simp [Steps]
  | t :: a, b => by
    simp only [List.cons_append, Steps, steps_append (a := a)]
    constructor
    · rintro ⟨m, h1, m', h2, h3⟩; exact ⟨m', ⟨m, h1, h2⟩, h3⟩
    · rintro ⟨m', ⟨m, h1, h2⟩, h3⟩; exact ⟨m, h1, m', h2, h3⟩
theorem step_nl {st st' : Rd} {t : Tok} (h : Step st t st') : (10 : UInt8) ∉ tokL t := by
  cases t with
  | inl h0 => exact head_nl h.2.2.2.2.1
  | inr s =>
    obtain ⟨hk, _, _, hn, _⟩ := h
    unfold tokL
    rw [List.mem_cons]
    rintro (e | e)
    · rcases hk with hk | hk | hk <;> rw [hk] at e <;> revert e <;> decide
    · exact hn e
theorem kft {k : Nat} (h : k = 32 ∨ k = 45 ∨ k = 43) : 1 ≤ kf k + kt k := by rcases h with rfl | rfl | rfl <;> decide

/-! ### the text of a right patch is read to its end -/
def Fine (s : StepB) : Prop := (s.kind = 32 ∨ s.kind = 45 ∨ s.kind = 43) ∧ s.text.size ≤ 1000
theorem no10 {l : List UInt8} (h : ¬ 0 ≤ Lib.indexByte l 10) : (10 : UInt8) ∉ l := by
  induction l with
  | nil => simp
  | cons c l ih =>
    unfold Lib.indexByte at h
    intro hm
    rcases List.mem_cons.1 hm with e | e
    · subst e; simp at h
    · by_cases hc : (c == 10) = true
      · simp [hc] at h
      · simp only [hc, Bool.false_eq_true, if_false] at h
        refine ih ?_ e
        intro h0
        have : (Lib.indexByte l 10 == -1) = false := by rw [beq_eq_false_iff_ne]; omega
        rw [this] at h
        simp at h
        omega
theorem run_lines {init : List HunkM} {en : Nat} {gr : Int} : ∀ (L : List StepB) (h : HunkM) (f t : Nat) (b : Bool), matchM f t b L = true → (∀ s ∈ L, Fine s) →
    Steps ⟨init ++ [h], en, gr, f, t, b⟩ (L.map .inr) ⟨init ++ [{ h with lines := h.lines ++ L }], en, gr, 0, 0, true⟩
  | [], h, f, t, b, hm, _ => by
    simp only [matchM, Bool.and_eq_true, decide_eq_true_eq] at hm
    obtain ⟨⟨rfl, rfl⟩, rfl⟩ := hm
    simp [Steps]
  | s :: L, h, f, t, b, hm, hf => by
    simp only [matchM, Bool.and_eq_true, decide_eq_true_eq] at hm
    obtain ⟨⟨⟨⟨m1, m2⟩, m3⟩, m4⟩, m5⟩ := hm
    have ih := run_lines (init := init) (en := en) (gr := gr) L { h with lines := h.lines ++ [s] } _ _ _ m5 (fun x hx => hf x (List.mem_cons_of_mem _ hx))
    refine ⟨⟨init ++ [{ h with lines := h.lines ++ [s] }], en, gr, f - kf s.kind, t - kt s.kind, b || decide (s.kind ≠ 32)⟩, ⟨m1, m2, m3, no10 m4, (hf s (by simp)).2, init, h, rfl, rfl⟩, ?_⟩
    simpa using ih
def sumF (hs : List HunkM) : Nat := (hs.map (·.fc)).sum
def sumT (hs : List HunkM) : Nat := (hs.map (·.tc)).sum
theorem run_hunks : ∀ (hs : List HunkM) (st : Rd), rightM st.en st.gr hs = true → st.f = 0 → st.t = 0 → st.ended → (∀ h ∈ hs, Small h ∧ ∀ s ∈ h.lines, Fine s) →
    ∃ st', Steps st (toksM hs) st' ∧ st'.hs = st.hs ++ hs ∧ st'.f = 0 ∧ st'.t = 0 ∧ st'.ended ∧ st.en + sumF hs ≤ st'.en ∧ st'.gr = st.gr + sumT hs - sumF hs ∧ ∀ h tl, hs = h :: tl → placeM h.fr h.fc + h.fc + sumF tl ≤ st'.en
  | [], st, _, h1, h2, h3, _ => ⟨st, rfl, by simp, h1, h2, h3, by simp [sumF], by simp [sumF, sumT], by simp⟩
  | h :: hs, st, hr, h1, h2, h3, hs4 => by
    rw [rightM] at hr
    simp only [Bool.and_eq_true, decide_eq_true_eq] at hr
    obtain ⟨⟨⟨r1, r2⟩, r3⟩, r4⟩ := hr
    obtain ⟨s1, s2⟩ := hs4 h (by simp)
    have hl := run_lines (init := st.hs) (en := placeM h.fr h.fc + h.fc) (gr := st.gr + h.tc - h.fc) h.lines { h with lines := [] } h.fc h.tc false r2 s2
    simp only [List.nil_append] at hl
    obtain ⟨st', g1, g2, g3, g4, g5, g6, g7, _⟩ := run_hunks hs ⟨st.hs ++ [h], placeM h.fr h.fc + h.fc, st.gr + h.tc - h.fc, 0, 0, true⟩ r4 rfl rfl (.inr ⟨rfl, rfl, rfl⟩) (fun x hx => hs4 x (List.mem_cons_of_mem _ hx))
    have hen : st.en ≤ placeM h.fr h.fc := by
      unfold fitsM at r1
      simp only [Bool.and_eq_true, decide_eq_true_eq] at r1
      exact r1.1.2
    refine ⟨st', ?_, by rw [g2]; simp, g3, g4, g5, ?_, ?_, fun h' tl e => by cases e; exact g6⟩
    · have e : toksM (h :: hs) = (Sum.inl { h with lines := [] } : Tok) :: (h.lines.map .inr ++ toksM hs) := by simp [toksM, toksH]
      rw [e]
      refine ⟨_, ⟨h1, h2, h3, rfl, s1, r1, rfl⟩, ?_⟩
      rw [steps_append]
      exact ⟨_, hl, g1⟩
    · simp only at g6
      simp only [sumF, List.map_cons, List.sum_cons] at g6 ⊢
      omega
    · rw [g7]
      simp only [sumF, sumT, List.map_cons, List.sum_cons]
      omega
theorem match_some {f t : Nat} {L : List StepB} (h : matchM f t false L = true) : 1 ≤ f + t := by
  cases L with
  | nil => simp [matchM] at h
  | cons s L =>
    simp only [matchM, Bool.and_eq_true, decide_eq_true_eq] at h
    have := kft h.1.1.1.1
    omega
/-- a right patch's first hunk does not fit behind its last one -/
theorem first_again {h : HunkM} {hs : List HunkM} {en : Nat} {gr : Int} (hr : rightM 0 0 (h :: hs) = true) (hp : placeM h.fr h.fc + h.fc + sumF hs ≤ en) (hg : gr = sumT (h :: hs) - sumF (h :: hs)) : fitsM h en gr = false := by
  rw [rightM] at hr
  simp only [Bool.and_eq_true, decide_eq_true_eq] at hr
  obtain ⟨⟨⟨r1, r2⟩, r3⟩, r4⟩ := hr
  have hm := match_some r2
  cases hf : fitsM h en gr with
  | false => rfl
  | true =>
    exfalso
    unfold fitsM at r1 hf
    simp only [Bool.and_eq_true, decide_eq_true_eq] at r1 hf
    have a1 := r1.2
    have a2 := hf.2
    have a3 := hf.1.2
    have e1 : sumF (h :: hs) = h.fc + sumF hs := by simp [sumF]
    have e2 : sumT (h :: hs) = h.tc + sumT hs := by simp [sumT]
    omega

/-! ### what was read is right, and its text is what was read -/
structure RInv (ts : List Tok) (st : Rd) : Prop where
  txt : writeM st.hs = toksL ts
  len : st.hs.length ≤ ts.length
  sm : ∀ h ∈ st.hs, Small h ∧ ∀ s ∈ h.lines, Fine s
  st : (st.hs = [] ∧ st.en = 0 ∧ st.gr = 0) ∨ ∃ init h en0 gr0, st.hs = init ++ [h] ∧ (∀ l, rightM 0 0 (init ++ l) = rightM en0 gr0 l) ∧ fitsM h en0 gr0 = true ∧ st.en = placeM h.fr h.fc + h.fc ∧ st.gr = gr0 + h.tc - h.fc ∧
    (∀ L, matchM h.fc h.tc false (h.lines ++ L) = matchM st.f st.t st.b L) ∧ h.lines.length + st.f + st.t ≤ h.fc + h.tc
theorem RInv.start : RInv [] Rd.start := ⟨rfl, by simp [Rd.start], by simp [Rd.start], .inl ⟨rfl, rfl, rfl⟩⟩
theorem RInv.right {ts : List Tok} {st : Rd} (h : RInv ts st) (he : st.ended) : rightM 0 0 st.hs = true := by
  rcases h.st with ⟨e, _⟩ | ⟨init, h0, en0, gr0, e, i1, i2, i3, i4, i5, i6⟩
  · rw [e]; rfl
  · rcases he with he | ⟨h1, h2, h3⟩
    · rw [he]; rfl
    · have hsm := (h.sm h0 (by rw [e]; simp)).1
      have hm := i5 []
      rw [List.append_nil, h1, h2, h3] at hm
      rw [e, i1, rightM, i2, hm]
      have : h0.lines.length ≤ 1000 := by have := hsm.2.1; have := hsm.2.2.2; omega
      simp [matchM, rightM, this]
theorem RInv.step {ts : List Tok} {st st' : Rd} {tk : Tok} (h : RInv ts st) (hs : Step st tk st') : RInv (ts ++ [tk]) st' := by
  cases tk with
  | inl h0 =>
    obtain ⟨a1, a2, a3, a4, a5, a6, rfl⟩ := hs
    refine ⟨?_, ?_, ?_, .inr ⟨st.hs, h0, st.en, st.gr, rfl, ?_, a6, rfl, rfl, ?_, ?_⟩⟩
    · show writeM (st.hs ++ [h0]) = _
      rw [writeM_append, h.txt, toksL_append]
      congr 1
      unfold writeM
      rw [toksM_one]
      unfold toksH
      rw [a4]
      have : ({ h0 with lines := [] } : HunkM) = h0 := by cases h0; simp at a4; subst a4; rfl
      simp [this]
    · have := h.len
      simp
      omega
    · intro x hx
      rcases List.mem_append.1 hx with hx | hx
      · exact h.sm x hx
      · rw [List.mem_singleton] at hx
        subst hx
        exact ⟨a5, by rw [a4]; simp⟩
    · intro l
      rcases h.st with ⟨e, e1, e2⟩ | ⟨init, h1, en0, gr0, e, i1, i2, i3, i4, i5, i6⟩
      · rw [e, e1, e2]; rfl
      · rcases a3 with a3 | ⟨b1, b2, b3⟩
        · rw [a3] at e; simp at e
        · have hsm := (h.sm h1 (by rw [e]; simp)).1
          have hm := i5 []
          rw [List.append_nil, b1, b2, b3] at hm
          rw [e, List.append_assoc, i1, List.singleton_append, rightM, i2, hm, i3, i4]
          have : h1.lines.length ≤ 1000 := by have := hsm.2.1; have := hsm.2.2.2; omega
          simp [matchM, this]
    · intro L
      rw [a4]
      rfl
    · rw [a4]; simp
  | inr s =>
    obtain ⟨a1, a2, a3, a4, a5, init, h0, e, rfl⟩ := hs
    rcases h.st with ⟨e', _⟩ | ⟨init', h1, en0, gr0, e', i1, i2, i3, i4, i5, i6⟩
    · rw [e'] at e; simp at e
    · obtain ⟨rfl, hh⟩ := List.append_inj' (e'.symm.trans e) rfl
      obtain rfl : h1 = h0 := by simpa using hh
      have hsm := h.sm h1 (by rw [e]; simp)
      refine ⟨?_, ?_, ?_, .inr ⟨init', { h1 with lines := h1.lines ++ [s] }, en0, gr0, rfl, i1, i2, i3, i4, ?_, ?_⟩⟩
      · show writeM (init' ++ [{ h1 with lines := h1.lines ++ [s] }]) = _
        have ht := h.txt
        rw [e, writeM_append] at ht
        rw [writeM_append, toksL_append, ← ht, List.append_assoc]
        congr 1
        unfold writeM
        rw [toksM_one, toksM_one]
        unfold toksH
        simp [toksL]
      · have := h.len
        rw [e] at this
        simp at this ⊢
        omega
      · intro x hx
        rcases List.mem_append.1 hx with hx | hx
        · exact h.sm x (by rw [e]; simp [hx])
        · rw [List.mem_singleton] at hx
          subst hx
          refine ⟨hsm.1, fun y hy => ?_⟩
          rcases List.mem_append.1 hy with hy | hy
          · exact hsm.2 y hy
          · rw [List.mem_singleton] at hy
            subst hy
            exact ⟨a1, a5⟩
      · intro L
        show matchM h1.fc h1.tc false ((h1.lines ++ [s]) ++ L) = _
        rw [List.append_assoc, i5, List.singleton_append, matchM]
        have e1 : decide (¬ 0 ≤ Lib.indexByte s.text.data.toList 10) = true := by
          rw [decide_eq_true_eq]
          intro h0
          exact a4 (by
            have := h0
            clear i5 hsm h e e' hh i6 i1 i2 i3 i4
            revert this
            generalize s.text.data.toList = l
            induction l with
            | nil => intro h; simp [Lib.indexByte] at h
            | cons c l ih =>
              intro h
              unfold Lib.indexByte at h
              by_cases hc : (c == 10) = true
              · rw [beq_iff_eq] at hc; simp [hc]
              · simp only [hc, Bool.false_eq_true, if_false] at h
                refine List.mem_cons_of_mem _ (ih ?_)
                by_cases h1 : (Lib.indexByte l 10 == -1) = true
                · simp [h1] at h
                · simp only [h1, Bool.false_eq_true, if_false] at h
                  have : Lib.indexByte l 10 ≠ -1 := by simpa using h1
                  have := Lib.indexByte_ge l 10
                  omega)
        rw [e1]
        simp [a1, a2, a3]
      · have := kft a1
        simp only [List.length_append, List.length_singleton]
        omega
theorem RInv.steps {st st' : Rd} : ∀ {ts ts' : List Tok}, RInv ts st → Steps st ts' st' → RInv (ts ++ ts') st'
  | ts, [], h, hs => by cases hs; simpa using h
  | ts, t :: l, h, ⟨m, h1, h2⟩ => by have := RInv.steps (h.step h1) h2; simpa using this
end Go.Proofs.YtcclgodahlinbaaGreatDoor
