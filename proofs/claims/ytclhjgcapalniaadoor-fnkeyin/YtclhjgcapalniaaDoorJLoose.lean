/-
  Regions that leave their order of evaluation open: one proof an operation, in the order of the text, serves every order, also where an operation makes memory or writes it and what it hands back is known by a property alone. Conditions: as each theorem says.
-/
import Derived.Test.YtclhjgcapalniaaDoorGA
namespace Go.Proofs.YtclhjgcapalniaaDoor
open Go.ChangeShapes Go.WideShapes Go.ChangeAt Go.RowKit Go.Joins
set_option linter.unusedVariables false

/-- A fact that an operation left: its number, and what holds. -/
abbrev LFact := Nat × (World → Prop)
/-- What is told of an operation: of its operands' values, its value, the world behind it. -/
abbrev LTold := List Value → Value → World → Prop
section
variable {P : Program} {ops : Array Oper} {md : Region.Mode} {C : World → Prop} {X : Nat → World → World → Prop} {D : Nat → Option LTold}

def factsAll : List LFact → World → Prop
  | [], _ => True
  | f :: fs, w => f.2 w ∧ factsAll fs w
/-- Does operation j wait for i, by itself or by others (f steps at most)? -/
def waitsOn (md : Region.Mode) (ops : Array Oper) (j i : Nat) : Bool := ((ops[j]?).map fun o => o.after.any fun e => Region.binds md e && e.on == i).getD false
def ancF (md : Region.Mode) (ops : Array Oper) : Nat → Nat → Nat → Bool
  | 0, _, _ => false
  | f + 1, j, i => waitsOn md ops j i || (List.range ops.size).any fun k => waitsOn md ops j k && ancF md ops f k i
def factsFor (md : Region.Mode) (ops : Array Oper) (n i : Nat) : List LFact → World → Prop
  | [], _ => True
  | f :: fs, w => (ancF md ops n i f.1 = true → f.2 w) ∧ factsFor md ops n i fs w
/-- What the operation hands back, and the world then. -/
def looseR (P : Program) (K : Value → World → Prop) : Result Next → Prop
  | .ok (.value v) w' => K v w'
  | .ok .skip w' => K undef w'
  | .ok (.enter f args) w' => Calls P f args w' fun e w'' => ∃ v, e = .returned v ∧ K v w''
  | _ => False
theorem looseR_ex {K : Value → World → Prop} {r : Result Next} (hr : looseR P K r) : ∃ v w, K v w := by
  cases r with
  | ok n w' =>
    cases n <;> simp only [looseR] at hr
    case value v => exact ⟨_, _, hr⟩
    case skip => exact ⟨_, _, hr⟩
    case enter f args =>
      obtain ⟨e, w'', _, ⟨v, _, hk⟩, _⟩ := hr []
      exact ⟨v, w'', hk⟩
  | halt x w' => simp only [looseR] at hr
def opArgs (o : Oper) (a : Act) : List Value := o.op.operands.toList.map a.eval
/-- One operation. -/
def stepL (P : Program) (md : Region.Mode) (ops : Array Oper) (n : Nat) (C : World → Prop) (X : Nat → World → World → Prop) (D : Nat → Option LTold) (i : Nat) (o : Oper) (a : Act) (fs : List LFact) (next : Act → List LFact → Prop) : Prop :=
  if Region.wanted o (yielded ops a.tmps) then
    match D i with
    | none => ∃ v, (∀ w, C w → (execOp a.eval o).run P w = .ok (.value v) w) ∧ next (a.put o.dst v) fs
    | some R => (∀ w, C w → factsFor md ops n i fs w → looseR P (fun v w' => C w' ∧ X i w w' ∧ R (opArgs o a) v w') ((execOp a.eval o).run P w)) ∧
        ∀ v, (∃ w, C w ∧ factsAll fs w ∧ R (opArgs o a) v w) → next (a.put o.dst v) ((i, R (opArgs o a) v) :: fs)
  else next (a.put o.dst undef) fs
def anyL (P : Program) (md : Region.Mode) (ops : Array Oper) (n : Nat) (C : World → Prop) (X : Nat → World → World → Prop) (D : Nat → Option LTold) (Q : Act → World → Prop) : Nat → Array Bool → Act → List LFact → Prop
  | 0, listed, a, fs => Region.ready md ops listed = [] ∧ ∀ w, C w → factsAll fs w → Q a w
  | fuel + 1, listed, a, fs =>
    (Region.ready md ops listed = [] → ∀ w, C w → factsAll fs w → Q a w) ∧
    ∀ i ∈ Region.ready md ops listed, ∀ o, ops[i]? = some o → stepL P md ops n C X D i o a fs (anyL P md ops n C X D Q fuel (listed.setIfInBounds i true))
/-- The walk in the order of the text. -/
def wpL (P : Program) (md : Region.Mode) (ops : Array Oper) (n : Nat) (C : World → Prop) (X : Nat → World → World → Prop) (D : Nat → Option LTold) (Q : Act → World → Prop) : List Oper → Nat → Act → List LFact → Prop
  | [], _, a, fs => ∀ w, C w → factsAll fs w → Q a w
  | o :: l, i, a, fs => stepL P md ops n C X D i o a fs (wpL P md ops n C X D Q l (i + 1))

theorem factsAll_sub {fs gs : List LFact} {w : World} (h : ∀ f ∈ gs, f ∈ fs) (hf : factsAll fs w) : factsAll gs w := by
  have key : ∀ (fs : List LFact), factsAll fs w ↔ ∀ f ∈ fs, f.2 w := by
    intro fs; induction fs with
    | nil => simp [factsAll]
    | cons f fs ih => simp [factsAll, ih]
  exact (key gs).2 fun f hg => (key fs).1 hf f (h f hg)
theorem factsFor_iff {n i : Nat} {fs : List LFact} {w : World} : factsFor md ops n i fs w ↔ ∀ f ∈ fs, ancF md ops n i f.1 = true → f.2 w := by
  induction fs with
  | nil => simp [factsFor]
  | cons f fs ih => simp [factsFor, ih]
theorem factsFor_of_all {n i : Nat} {fs : List LFact} {w : World} (h : factsAll fs w) : factsFor md ops n i fs w := by
  induction fs with
  | nil => trivial
  | cons f fs ih => exact ⟨fun _ => h.1, ih h.2⟩
theorem stepL_mono {n i : Nat} {o : Oper} {a : Act} {fs gs : List LFact} {K K' : Act → List LFact → Prop} (hs : ∀ f ∈ fs, f ∈ gs) (h : ∀ a xs ys, (∀ f ∈ xs, f ∈ ys) → K a xs → K' a ys)
    (hh : stepL P md ops n C X D i o a fs K) : stepL P md ops n C X D i o a gs K' := by
  unfold stepL at *
  split
  · rename_i hw
    simp only [hw, if_true] at hh
    cases hD : D i with
    | none => simp only [hD] at hh ⊢; obtain ⟨v, h1, h2⟩ := hh; exact ⟨v, h1, h _ _ _ hs h2⟩
    | some R =>
      simp only [hD] at hh ⊢
      obtain ⟨h1, h2⟩ := hh
      refine ⟨fun w hw hf => h1 w hw (factsFor_iff.2 fun f hf' => factsFor_iff.1 hf f (hs f hf')), fun v ⟨w, h3, h4, h5⟩ => h _ _ _ ?_ (h2 v ⟨w, h3, factsAll_sub hs h4, h5⟩)⟩
      intro f hf
      rcases List.mem_cons.1 hf with rfl | hf
      · exact List.mem_cons_self ..
      · exact List.mem_cons_of_mem _ (hs f hf)
  · rename_i hw
    simp only [hw] at hh
    exact h _ _ _ hs hh
theorem anyL_sub {n : Nat} {Q : Act → World → Prop} : ∀ (fuel : Nat) (listed : Array Bool) (a : Act) (fs gs : List LFact), (∀ f ∈ fs, f ∈ gs) → anyL P md ops n C X D Q fuel listed a fs → anyL P md ops n C X D Q fuel listed a gs
  | 0, _, _, _, _, hs, h => ⟨h.1, fun w hw hf => h.2 w hw (factsAll_sub hs hf)⟩
  | fuel + 1, _, _, _, _, hs, h => ⟨fun h0 w hw hf => h.1 h0 w hw (factsAll_sub hs hf), fun i hi o ho => stepL_mono hs (fun a xs ys hxy hk => anyL_sub fuel _ a xs ys hxy hk) (h.2 i hi o ho)⟩
/-- Facts of one operation stay where another one is carried out. -/
def StableD (X : Nat → World → World → Prop) (D : Nat → Option LTold) : Prop := ∀ i j R, i ≠ j → D j = some R → ∀ xs v w w', X i w w' → R xs v w → R xs v w'
structure Stays (X : Nat → World → World → Prop) (listed : Array Bool) (fs : List LFact) : Prop where
  stay : ∀ f ∈ fs, ∀ i, i ≠ f.1 → ∀ w w', X i w w' → f.2 w → f.2 w'
  known : ∀ f ∈ fs, listed.getD f.1 false = true
theorem Stays.list {listed : Array Bool} {fs : List LFact} (h : Stays X listed fs) (i : Nat) : Stays X (listed.setIfInBounds i true) fs := ⟨h.stay, fun f hf => getD_set_true (h.known f hf)⟩
theorem not_listed {listed : Array Bool} {i : Nat} (hi : i ∈ Region.ready md ops listed) : listed.getD i false = false := by
  have h0 := (mem_ready.1 hi).1
  rcases Nat.lt_or_ge i listed.size with h' | h'
  · simpa [h'] using h0
  · simp [Array.getElem?_eq_none h'] at h0
theorem now_listed {listed : Array Bool} {i : Nat} (hi : i ∈ Region.ready md ops listed) : (listed.setIfInBounds i true).getD i false = true := by
  have h0 := (mem_ready.1 hi).1
  rcases Nat.lt_or_ge i listed.size with h' | h'
  · simp [h']
  · simp [Array.getElem?_eq_none h'] at h0
theorem Stays.all {listed : Array Bool} {fs : List LFact} (h : Stays X listed fs) {i : Nat} (hi : listed.getD i false = false) {w w' : World} (hb : X i w w') (hf : factsAll fs w) : factsAll fs w' := by
  induction fs with
  | nil => trivial
  | cons f fs ih => exact ⟨h.stay f (List.mem_cons_self ..) i (fun q => by have := h.known f (List.mem_cons_self ..); rw [← q, hi] at this; cases this) _ _ hb hf.1, ih ⟨fun g hg => h.stay g (List.mem_cons_of_mem _ hg), fun g hg => h.known g (List.mem_cons_of_mem _ hg)⟩ hf.2⟩
theorem Stays.cons {listed : Array Bool} {fs : List LFact} (h : Stays X listed fs) (hD : StableD X D) {i : Nat} (hi : i ∈ Region.ready md ops listed) {R : LTold} (hR : D i = some R) (xs : List Value) (v : Value) : Stays X (listed.setIfInBounds i true) ((i, R xs v) :: fs) := by
  refine ⟨fun f hf k hk w w' hb hw => ?_, fun f hf => ?_⟩
  · rcases List.mem_cons.1 hf with rfl | hf
    · exact hD k i R hk hR xs v w w' hb hw
    · exact h.stay f hf k hk w w' hb hw
  · rcases List.mem_cons.1 hf with rfl | hf
    · exact now_listed hi
    · exact getD_set_true (h.known f hf)
theorem wpOp_of_stepL {n i : Nat} {o : Oper} {a : Act} {listed : Array Bool} {fs : List LFact} {K : Act → List LFact → Prop} {K' : Act → World → Prop} {Q : Exit → Act → World → Prop} {w : World} (ho : ops[i]? = some o) (hD : StableD X D) (hi : i ∈ Region.ready md ops listed) (hs : Stays X listed fs) (hw : C w) (hf : factsAll fs w)
    (h : ∀ a gs w', Stays X (listed.setIfInBounds i true) gs → C w' → factsAll gs w' → K a gs → K' a w') (hh : stepL P md ops n C X D i o a fs K) : wpOp P ops Q i K' a w := by
  unfold stepL at hh
  unfold wpOp
  simp only [ho]
  split
  · rename_i hwd
    simp only [hwd, if_true] at hh
    refine .inl ?_
    unfold Oper.wp
    cases hDi : D i with
    | none =>
      simp only [hDi] at hh
      obtain ⟨v, h1, h2⟩ := hh
      rw [h1 w hw]
      exact h _ _ _ (hs.list i) hw hf h2
    | some R =>
      simp only [hDi] at hh
      obtain ⟨h1, h2⟩ := hh
      have h3 := h1 w hw (factsFor_of_all hf)
      have fin : ∀ v w', (C w' ∧ X i w w' ∧ R (opArgs o a) v w') → K' (a.put o.dst v) w' := fun v w' ⟨c1, c2, c3⟩ => by
        have ha := hs.all (not_listed hi) c2 hf
        exact h _ ((i, R (opArgs o a) v) :: fs) w' (hs.cons hD hi hDi _ v) c1 ⟨c3, ha⟩ (h2 v ⟨w', c1, ha, c3⟩)
      generalize (execOp a.eval o).run P w = r at h3 ⊢
      cases r with
      | ok x w' =>
        cases x <;> simp only [looseR] at h3 <;> simp only [Oper.upon]
        case value v => exact fin _ _ h3
        case skip => exact fin _ _ h3
        case enter f args =>
          refine h3.mono fun e w'' ⟨v, he, hk⟩ => ?_
          subst he
          exact fin _ _ hk
      | halt x w' => simp only [looseR] at h3
  · rename_i hwd
    simp only [hwd] at hh
    exact h _ _ _ (hs.list i) hw hf hh
theorem wpAny_of_anyL {n : Nat} {Q : Exit → Act → World → Prop} (hD : StableD X D) : ∀ (fuel : Nat) (listed : Array Bool) (a : Act) (fs : List LFact) (w : World), Stays X listed fs → C w → factsAll fs w →
    anyL P md ops n C X D (fun a w => Q .normal a w) fuel listed a fs → wpAny P md ops Q fuel listed a w
  | 0, _, _, _, _, _, hw, hf, h => ⟨h.1, h.2 _ hw hf⟩
  | fuel + 1, listed, a, fs, w, hs, hw, hf, h => ⟨fun h0 => h.1 h0 _ hw hf, fun i hi => by
      obtain ⟨_, o, ho, _⟩ := mem_ready.1 hi
      exact wpOp_of_stepL ho hD hi hs hw hf (fun a gs w' h1 h2 h3 h4 => wpAny_of_anyL hD fuel _ a gs w' h1 h2 h3 h4) (h.2 i hi o ho)⟩

/-! ### an operation that may come up may be taken first -/
theorem opArgs_put {o : Oper} {a : Act} {d : Option Tmp} {v : Value} (h : ∀ t, d = some t → t ∉ o.looksAt ops) : opArgs o (a.put d v) = opArgs o a := by
  unfold opArgs
  refine List.map_congr_left fun x hx => Act.eval_put fun t ht hxt => h t ht ?_
  subst hxt
  exact List.mem_append_left _ (List.mem_filterMap.2 ⟨.tmp t, by simpa using hx, rfl⟩)
/-- What waits for a listed one is listed. -/
def ClosedL (md : Region.Mode) (ops : Array Oper) (listed : Array Bool) : Prop := ∀ f k i, listed.getD k false = true → ancF md ops f k i = true → listed.getD i false = true
theorem waits_ready {listed : Array Bool} {j i : Nat} (hj : j ∈ Region.ready md ops listed) (h : waitsOn md ops j i = true) : listed.getD i false = true := by
  obtain ⟨_, o, ho, hall⟩ := mem_ready.1 hj
  unfold waitsOn at h
  rw [ho] at h
  simp only [Option.map_some, Option.getD_some] at h
  obtain ⟨e, he, hb⟩ := Array.any_eq_true'.1 h
  simp only [Bool.and_eq_true, beq_iff_eq] at hb
  rw [← hb.2]; exact hall e he hb.1
theorem anc_ready {listed : Array Bool} {n j i : Nat} (hc : ClosedL md ops listed) (hj : j ∈ Region.ready md ops listed) (h : ancF md ops n j i = true) : listed.getD i false = true := by
  cases n with
  | zero => simp [ancF] at h
  | succ n =>
    simp only [ancF, Bool.or_eq_true, List.any_eq_true, Bool.and_eq_true] at h
    rcases h with h | ⟨k, _, h1, h2⟩
    · exact waits_ready hj h
    · exact hc n k i (waits_ready hj h1) h2
theorem ClosedL.list {listed : Array Bool} {j : Nat} (hc : ClosedL md ops listed) (hj : j ∈ Region.ready md ops listed) : ClosedL md ops (listed.setIfInBounds j true) := by
  intro f k i hk ha
  by_cases e : j = k
  · subst e; exact getD_set_true (anc_ready hc hj ha)
  · rw [getD_set_ne false e] at hk
    exact getD_set_true (hc f k i hk ha)
/-- The next of a step, known to be one that may come. -/
theorem stepL_next {n i : Nat} {o : Oper} {a : Act} {listed : Array Bool} {fs : List LFact} {K K' : Act → List LFact → Prop} (hD : StableD X D) (hi : i ∈ Region.ready md ops listed) (hs : Stays X listed fs) (hl : ∃ w, C w ∧ factsAll fs w)
    (h : ∀ a gs, Stays X (listed.setIfInBounds i true) gs → (∃ w, C w ∧ factsAll gs w) → K a gs → K' a gs) (hh : stepL P md ops n C X D i o a fs K) : stepL P md ops n C X D i o a fs K' := by
  unfold stepL at *
  split
  · rename_i hw
    simp only [hw, if_true] at hh
    cases hDi : D i with
    | none => simp only [hDi] at hh ⊢; obtain ⟨v, h1, h2⟩ := hh; exact ⟨v, h1, h _ _ (hs.list i) hl h2⟩
    | some R =>
      simp only [hDi] at hh ⊢
      obtain ⟨h1, h2⟩ := hh
      exact ⟨h1, fun v hv => h _ _ (hs.cons hD hi hDi _ v) (by obtain ⟨w, q1, q2, q3⟩ := hv; exact ⟨w, q1, q3, q2⟩) (h2 v hv)⟩
  · rename_i hw
    simp only [hw] at hh
    exact h _ _ (hs.list i) hl hh
theorem stepL_ex {n i : Nat} {o : Oper} {a : Act} {listed : Array Bool} {fs : List LFact} {K : Act → List LFact → Prop} (hi : i ∈ Region.ready md ops listed) (hs : Stays X listed fs) (hl : ∃ w, C w ∧ factsAll fs w) (hh : stepL P md ops n C X D i o a fs K) : ∃ a' gs, K a' gs := by
  unfold stepL at hh
  split at hh
  · cases hDi : D i with
    | none => simp only [hDi] at hh; obtain ⟨v, _, h2⟩ := hh; exact ⟨_, _, h2⟩
    | some R =>
      simp only [hDi] at hh
      obtain ⟨h1, h2⟩ := hh
      obtain ⟨w0, hw0, hf0⟩ := hl
      obtain ⟨v0, w1, c1, c2, c3⟩ := looseR_ex (h1 w0 hw0 (factsFor_of_all hf0))
      exact ⟨_, _, h2 v0 ⟨w1, c1, hs.all (not_listed hi) c2 hf0, c3⟩⟩
  · exact ⟨_, _, hh⟩
/-- Number j, apart from i: what i does makes no difference to it. -/
theorem stepL_swap {n i j : Nat} {oi oj : Oper} {a : Act} {listed : Array Bool} {fs : List LFact} (hD : StableD X D) (hi : i ∈ Region.ready md ops listed) (hj : j ∈ Region.ready md ops listed) (hs : Stays X listed fs) (hap : oi.apart ops oj = true) (hsi : ∀ cs b, oi.op ≠ .select cs b) (hsj : ∀ cs b, oj.op ≠ .select cs b)
    (hanc : ancF md ops n j i = false) (hlive : ∃ w, C w ∧ factsAll fs w) {K K' : Act → List LFact → Prop}
    (hK : ∀ a xs ys, (∀ f ∈ xs, f ∈ ys) → K a xs → K a ys)
    (hK' : ∀ a' fs', Stays X (listed.setIfInBounds j true) fs' → (∃ w, C w ∧ factsAll fs' w) → stepL P md ops n C X D i oi a' fs' K → K' a' fs')
    (h : stepL P md ops n C X D i oi a fs (fun a' fs' => stepL P md ops n C X D j oj a' fs' K)) : stepL P md ops n C X D j oj a fs K' := by
  obtain ⟨p1, p2, p3⟩ := Oper.apart_spec hap
  obtain ⟨w0, hw0, hf0⟩ := hlive
  have wi : ∀ v, Region.wanted oi (yielded ops (a.put oj.dst v).tmps) = Region.wanted oi (yielded ops a.tmps) := fun v => wanted_put oi a oj.dst v p3
  have wj : ∀ v, Region.wanted oj (yielded ops (a.put oi.dst v).tmps) = Region.wanted oj (yielded ops a.tmps) := fun v => wanted_put oj a oi.dst v p1
  have ei : ∀ v, execOp (a.put oj.dst v).eval oi = execOp a.eval oi := fun v => execOp_put oi hsi a oj.dst v p3
  have ej : ∀ v, execOp (a.put oi.dst v).eval oj = execOp a.eval oj := fun v => execOp_put oj hsj a oi.dst v p1
  have ai : ∀ v, opArgs oi (a.put oj.dst v) = opArgs oi a := fun v => opArgs_put p3
  have aj : ∀ v, opArgs oj (a.put oi.dst v) = opArgs oj a := fun v => opArgs_put p1
  have pc : ∀ v u, (a.put oj.dst u).put oi.dst v = (a.put oi.dst v).put oj.dst u := fun v u => (Act.put_comm a v u p2).symm
  have swapmem : ∀ (x y : LFact) (zs : List LFact), ∀ f ∈ x :: y :: zs, f ∈ y :: x :: zs := fun x y zs f hf => by
    simp only [List.mem_cons] at hf ⊢; rcases hf with h | h | h
    · exact .inr (.inl h)
    · exact .inl h
    · exact .inr (.inr h)
  unfold stepL at h
  by_cases hwi : Region.wanted oi (yielded ops a.tmps) = true
  · simp only [hwi, if_true] at h
    cases hDi : D i with
    | none =>
      simp only [hDi] at h
      obtain ⟨v, hv, hn⟩ := h
      have back : ∀ u gs, K ((a.put oi.dst v).put oj.dst u) gs → stepL P md ops n C X D i oi (a.put oj.dst u) gs K := fun u gs hk => by
        unfold stepL
        rw [wi u, hwi, if_pos rfl]
        simp only [hDi]
        exact ⟨v, fun w hw => by rw [ei u]; exact hv w hw, by rw [pc]; exact hk⟩
      unfold stepL
      rw [wj v] at hn
      by_cases hwj : Region.wanted oj (yielded ops a.tmps) = true
      · simp only [hwj, if_true] at hn ⊢
        cases hDj : D j with
        | none =>
          simp only [hDj] at hn ⊢
          obtain ⟨u, hu, hk⟩ := hn
          exact ⟨u, fun w hw => by rw [← ej v]; exact hu w hw, hK' _ _ (hs.list j) ⟨w0, hw0, hf0⟩ (back u _ hk)⟩
        | some Rj =>
          simp only [hDj, aj v, ej v] at hn ⊢
          obtain ⟨h1, h2⟩ := hn
          refine ⟨h1, fun u hu => hK' _ _ (hs.cons hD hj hDj _ u) ?_ (back u _ (h2 u hu))⟩
          obtain ⟨w, q1, q2, q3⟩ := hu; exact ⟨w, q1, q3, q2⟩
      · simp only [hwj] at hn ⊢
        exact hK' _ _ (hs.list j) ⟨w0, hw0, hf0⟩ (back undef _ hn)
    | some Ri =>
      simp only [hDi] at h
      obtain ⟨hop, hn⟩ := h
      obtain ⟨v0, w1, c1, c2, c3⟩ := looseR_ex (hop w0 hw0 (factsFor_of_all hf0))
      have g0 := hn v0 ⟨w1, c1, hs.all (not_listed hi) c2 hf0, c3⟩
      have back : ∀ u gs, (∀ w, factsAll gs w → factsAll fs w) → (∀ w, factsFor md ops n i gs w → factsFor md ops n i fs w) → (∀ v, (∃ w, C w ∧ factsAll gs w ∧ Ri (opArgs oi a) v w) → K ((a.put oi.dst v).put oj.dst u) ((i, Ri (opArgs oi a) v) :: gs)) →
          stepL P md ops n C X D i oi (a.put oj.dst u) gs K := fun u gs g1 g2 hk => by
        unfold stepL
        rw [wi u, hwi, if_pos rfl]
        simp only [hDi, ai u, ei u]
        exact ⟨fun w hw hf => hop w hw (g2 w hf), fun v hv => by rw [pc]; exact hk v hv⟩
      unfold stepL
      rw [wj v0] at g0
      by_cases hwj : Region.wanted oj (yielded ops a.tmps) = true
      · simp only [hwj, if_true] at g0 ⊢
        cases hDj : D j with
        | none =>
          simp only [hDj] at g0 ⊢
          obtain ⟨u, hu, _⟩ := g0
          have hu' : ∀ w, C w → (execOp a.eval oj).run P w = .ok (.value u) w := fun w hw => by rw [← ej v0]; exact hu w hw
          refine ⟨u, hu', hK' _ _ (hs.list j) ⟨w0, hw0, hf0⟩ (back u fs (fun _ h => h) (fun _ h => h) fun v hv => ?_)⟩
          have g := hn v hv
          rw [wj v] at g
          simp only [hwj, if_true, hDj] at g
          obtain ⟨u', hu2, hk⟩ := g
          have e1 := hu2 w0 hw0
          rw [ej v, hu' w0 hw0] at e1
          simp only [Result.ok.injEq, Next.value.injEq, and_true] at e1
          rw [e1]; exact hk
        | some Rj =>
          simp only [hDj, aj v0, ej v0] at g0 ⊢
          obtain ⟨h1, _⟩ := g0
          refine ⟨fun w hw hf => h1 w hw ⟨fun q => (by rw [hanc] at q; cases q), hf⟩, fun u hu => hK' _ _ (hs.cons hD hj hDj _ u) ?_ (back u _ (fun _ h => h.2) (fun _ h => h.2) fun v hv => ?_)⟩
          · obtain ⟨w, q1, q2, q3⟩ := hu; exact ⟨w, q1, q3, q2⟩
          · obtain ⟨w, q1, q2, q3⟩ := hv
            have g := hn v ⟨w, q1, q2.2, q3⟩
            rw [wj v] at g
            simp only [hwj, if_true, hDj, aj v, ej v] at g
            exact hK _ _ _ (swapmem _ _ _) (g.2 u ⟨w, q1, ⟨q3, q2.2⟩, q2.1⟩)
      · simp only [hwj] at g0 ⊢
        refine hK' _ _ (hs.list j) ⟨w0, hw0, hf0⟩ (back undef fs (fun _ h => h) (fun _ h => h) fun v hv => ?_)
        have g := hn v hv
        rw [wj v] at g
        simpa only [hwj, Bool.false_eq_true, if_false] using g
  · have hwi' : Region.wanted oi (yielded ops a.tmps) = false := by simpa using hwi
    simp only [hwi', Bool.false_eq_true, if_false] at h
    have back : ∀ u gs, K ((a.put oi.dst undef).put oj.dst u) gs → stepL P md ops n C X D i oi (a.put oj.dst u) gs K := fun u gs hk => by
      unfold stepL
      rw [wi u, hwi']
      simp only [Bool.false_eq_true, if_false]
      rw [pc]; exact hk
    unfold stepL
    rw [wj undef] at h
    by_cases hwj : Region.wanted oj (yielded ops a.tmps) = true
    · simp only [hwj, if_true] at h ⊢
      cases hDj : D j with
      | none =>
        simp only [hDj] at h ⊢
        obtain ⟨u, hu, hk⟩ := h
        exact ⟨u, fun w hw => by rw [← ej undef]; exact hu w hw, hK' _ _ (hs.list j) ⟨w0, hw0, hf0⟩ (back u _ hk)⟩
      | some Rj =>
        simp only [hDj, aj undef, ej undef] at h ⊢
        obtain ⟨h1, h2⟩ := h
        refine ⟨h1, fun u hu => hK' _ _ (hs.cons hD hj hDj _ u) ?_ (back u _ (h2 u hu))⟩
        obtain ⟨w, q1, q2, q3⟩ := hu; exact ⟨w, q1, q3, q2⟩
    · simp only [hwj] at h ⊢
      exact hK' _ _ (hs.list j) ⟨w0, hw0, hf0⟩ (back undef _ h)
theorem anyL_first {n i : Nat} {oi : Oper} {Q : Act → World → Prop} (hD : StableD X D) (hi : ops[i]? = some oi) (hsel : ∀ (j : Nat) (o : Oper) cs b, ops[j]? = some o → o.op ≠ .select cs b) :
    ∀ (fuel : Nat) (listed : Array Bool) (a : Act) (fs : List LFact),
      (∀ j oj, ops[j]? = some oj → j ≠ i → listed.getD j true = false → (∀ e ∈ oj.after, Region.binds md e = true → e.on ≠ i) → oi.apart ops oj = true) →
      ClosedL md ops listed → i ∈ Region.ready md ops listed → Stays X listed fs → (∃ w, C w ∧ factsAll fs w) →
      stepL P md ops n C X D i oi a fs (anyL P md ops n C X D Q fuel (listed.setIfInBounds i true)) → anyL P md ops n C X D Q (fuel + 1) listed a fs := by
  intro fuel
  induction fuel with
  | zero =>
    intro listed a fs _ _ hr hs hl H
    refine ⟨fun h => (by rw [h] at hr; cases hr), fun j hj o ho => ?_⟩
    by_cases hji : j = i
    · subst hji
      rw [hi] at ho; cases ho; exact H
    · obtain ⟨_, _, h0⟩ := stepL_ex hr hs hl H
      have := ready_mono hj hji
      rw [h0.1] at this
      cases this
  | succ fuel ih =>
    intro listed a fs hfree hc hr hs hl H
    refine ⟨fun h => (by rw [h] at hr; cases hr), fun j hj oj hoj => ?_⟩
    by_cases hji : j = i
    · subst hji
      rw [hi] at hoj; cases hoj; exact H
    · obtain ⟨hjun, oj', hoj', hall⟩ := mem_ready.1 hj
      rw [hoj] at hoj'; cases hoj'
      have hi0 := not_listed hr
      have hnot : ∀ e ∈ oj.after, Region.binds md e = true → e.on ≠ i := fun e he hb heq => by
        have h1 := hall e he hb
        rw [heq, hi0] at h1; cases h1
      have hanc : ancF md ops n j i = false := by
        rw [Bool.eq_false_iff]; intro q
        have := anc_ready hc hj q
        rw [hi0] at this; cases this
      have hfree' : ∀ k ok, ops[k]? = some ok → k ≠ i → (listed.setIfInBounds j true).getD k true = false →
          (∀ e ∈ ok.after, Region.binds md e = true → e.on ≠ i) → oi.apart ops ok = true := fun k ok hk hki hun hno => by
        refine hfree k ok hk hki ?_ hno
        by_cases hjk : j = k
        · subst hjk; exact hjun
        · rw [getD_set_ne true hjk] at hun; exact hun
      refine stepL_swap hD hr hj hs (hfree j oj hoj hji hjun hnot) (fun cs b => hsel i oi cs b hi) (fun cs b => hsel j oj cs b hoj) hanc hl
        (K := anyL P md ops n C X D Q fuel ((listed.setIfInBounds i true).setIfInBounds j true)) (fun a xs ys hxy hk => anyL_sub fuel _ a xs ys hxy hk) (fun a' fs' hs' hl' h' => ?_) (stepL_next hD hr hs hl (fun a' gs _ _ hk => hk.2 j (ready_mono hj hji) oj hoj) H)
      refine ih (listed.setIfInBounds j true) a' fs' hfree' (hc.list hj) (ready_mono hr (Ne.symm hji)) hs' hl' ?_
      rw [Array.setIfInBounds_comm _ _ hji]
      exact h'
theorem anyL_lex {n : Nat} {Q : Act → World → Prop} (hD : StableD X D) (hsl : Region.noSelect ops = true) : ∀ (l : List Oper) (k : Nat) (listed : Array Bool) (a : Act) (fs : List LFact), (∀ j, l[j]? = ops[k + j]?) →
    Region.lexFrom md ops l.length k listed = true → ClosedL md ops listed → Stays X listed fs → (∃ w, C w ∧ factsAll fs w) → wpL P md ops n C X D Q l k a fs → anyL P md ops n C X D Q l.length listed a fs
  | [], _, _, _, _, _, hB, _, _, _, h => ⟨by simpa [Region.lexFrom] using hB, h⟩
  | o :: l, k, listed, a, fs, hl, hB, hc, hs, hlv, h => by
    have h0 : ops[k]? = some o := by simpa using (hl 0).symm
    simp only [List.length_cons, Region.lexFrom, Bool.and_eq_true] at hB
    obtain ⟨⟨hr, hf⟩, hB'⟩ := hB
    have hr' : k ∈ Region.ready md ops listed := by simpa using hr
    refine anyL_first hD h0 (Region.noSelect_spec hsl) l.length listed a fs (Region.free_spec h0 hf) hc hr' hs hlv ?_
    exact stepL_next hD hr' hs hlv (fun a' gs hs' hl' hk => anyL_lex hD hsl l (k + 1) _ a' gs (fun j => by have := hl (j + 1); simpa [Nat.add_assoc, Nat.add_comm 1 j] using this) hB' (hc.list hr') hs' hl' hk) h
/-- **One walk in the order of the text serves every order.** -/
theorem wp_region_loose {id n : Nat} {Q : Exit → Act → World → Prop} {a : Act} {w : World} {l : List Oper} (C : World → Prop) (X : Nat → World → World → Prop) (D : Nat → Option LTold) (hm : P.follows .mixedOrders = true) (hB : Region.lexB .any l.toArray = true) (hD : StableD X D)
    (hC : C { w with drawn := w.drawn + 1 }) (h : wpL P .any l.toArray n C X D (fun a w => Q .normal a w) l 0 a []) : (Code.region id l.toArray true).wp P Q a w := by
  simp only [Region.lexB, Bool.and_eq_true] at hB
  have hno : ∀ k, (Array.replicate l.toArray.size false).getD k false = false := fun k => by
    rw [Array.getD_eq_getD_getElem?, Array.getElem?_replicate]
    split <;> rfl
  have hcl : ClosedL .any l.toArray (Array.replicate l.toArray.size false) := fun f k i hk _ => by rw [hno] at hk; cases hk
  have hst : Stays X (Array.replicate l.toArray.size false) ([] : List LFact) := ⟨fun f hf => (by cases hf), fun f hf => (by cases hf)⟩
  refine wp_region_any hm (wpAny_of_anyL (C := C) (X := X) (D := D) (n := n) hD _ _ _ [] _ hst hC trivial ?_)
  have := anyL_lex (P := P) (C := C) (X := X) (D := D) (n := n) (Q := fun a w => Q .normal a w) (md := .any) hD hB.1 l 0 (Array.replicate l.toArray.size false) a [] (by simp) (by simpa using hB.2) hcl hst ⟨_, hC, trivial⟩ h
  simpa using this
end

section
variable {P : Program} {ops : Array Oper} {md : Region.Mode} {C : World → Prop} {X : Nat → World → World → Prop} {D : Nat → Option LTold} {Q : Act → World → Prop} {n i : Nat} {o : Oper} {l : List Oper} {a : Act} {fs : List LFact}
/-- An operation that yields one value in every world of the class. -/
theorem wpL_pure {v : Value} (hw : Region.wanted o (yielded ops a.tmps) = true) (hD : D i = none) (hv : ∀ w, C w → (execOp a.eval o).run P w = .ok (.value v) w) (h : wpL P md ops n C X D Q l (i + 1) (a.put o.dst v) fs) :
    wpL P md ops n C X D Q (o :: l) i a fs := by
  show stepL P md ops n C X D i o a fs _
  unfold stepL
  rw [if_pos hw, hD]
  exact ⟨v, hv, h⟩
/-- An operation that is not wanted. -/
theorem wpL_off (hw : Region.wanted o (yielded ops a.tmps) = false) (h : wpL P md ops n C X D Q l (i + 1) (a.put o.dst undef) fs) : wpL P md ops n C X D Q (o :: l) i a fs := by
  show stepL P md ops n C X D i o a fs _
  unfold stepL
  rw [hw]
  exact h
/-- An operation of which a fact is told. -/
theorem wpL_fact {R : LTold} (hw : Region.wanted o (yielded ops a.tmps) = true) (hD : D i = some R) (h1 : ∀ w, C w → factsFor md ops n i fs w → looseR P (fun v w' => C w' ∧ X i w w' ∧ R (opArgs o a) v w') ((execOp a.eval o).run P w))
    (h2 : ∀ v (F : World → Prop), (∀ w, F w → R (opArgs o a) v w) → (∃ w, C w ∧ factsAll fs w ∧ R (opArgs o a) v w) → wpL P md ops n C X D Q l (i + 1) (a.put o.dst v) ((i, F) :: fs)) : wpL P md ops n C X D Q (o :: l) i a fs := by
  show stepL P md ops n C X D i o a fs _
  unfold stepL
  rw [if_pos hw, hD]
  exact ⟨h1, fun v hv => h2 v _ (fun _ h => h) hv⟩
theorem wpL_nil (h : ∀ w, C w → factsAll fs w → Q a w) : wpL P md ops n C X D Q [] i a fs := h
end
/-- Facts by the operations' numbers. -/
def dOf (l : List (Nat × LTold)) (i : Nat) : Option LTold := (l.find? fun p => p.1 == i).map (·.2)
theorem dOf_stable {X : Nat → World → World → Prop} {l : List (Nat × LTold)} (h : ∀ p ∈ l, ∀ i, i ≠ p.1 → ∀ xs v w w', X i w w' → p.2 xs v w → p.2 xs v w') : StableD X (dOf l) := fun i j R hij hj xs v w w' hx hr => by
  unfold dOf at hj
  obtain ⟨p, hp, rfl⟩ := Option.map_eq_some_iff.1 hj
  have := List.find?_some hp
  simp only [beq_iff_eq] at this
  exact h p (List.mem_of_find?_eq_some hp) i (by rw [this]; exact hij) xs v w w' hx hr
end Go.Proofs.YtclhjgcapalniaaDoor
