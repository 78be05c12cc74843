/-
  Plain mathematics of outlines in lines: an outline's text, and that valid outlines with the same text are the same. Nothing of the program is run here. Conditions: none beyond the lemmas' own premises.
-/
import Derived.Test.YtklefdhjfadhpaaDoorJSlEq
namespace Go.Proofs.YtklefdhjfadhpaaDoor
open Go.RowKit

/-! ### bytes -/
theorem ba_app (a b : ByteArray) : (a ++ b).toList = a.toList ++ b.toList := by
  rw [ByteArray.toList_eq, ByteArray.toList_eq, ByteArray.toList_eq]; simp
/-- A text so many times. -/
def rep (s : ByteArray) : Nat → ByteArray
  | 0 => ⟨#[]⟩
  | k + 1 => rep s k ++ s
theorem ba_nil (a : ByteArray) : (⟨#[]⟩ : ByteArray) ++ a = a := txt_inj (by rw [ba_app, ByteArray.toList_eq]; simp)
theorem ba_nil' (a : ByteArray) : a ++ (⟨#[]⟩ : ByteArray) = a := txt_inj (by rw [ba_app]; simp [ByteArray.toList_eq])
theorem ba_assoc (a b c : ByteArray) : a ++ b ++ c = a ++ (b ++ c) := txt_inj (by simp only [ba_app, List.append_assoc])
theorem rep_add (s : ByteArray) (a : Nat) : ∀ b, rep s (a + b) = rep s a ++ rep s b
  | 0 => by show rep s a = rep s a ++ (⟨#[]⟩ : ByteArray); rw [ba_nil']
  | b + 1 => by show rep s (a + b) ++ s = rep s a ++ (rep s b ++ s); rw [rep_add s a b, ba_assoc]
theorem rep_one (s : ByteArray) : rep s 1 = s := by show (⟨#[]⟩ : ByteArray) ++ s = s; rw [ba_nil]
theorem rep_size (s : ByteArray) : ∀ k, (rep s k).size = k * s.size
  | 0 => by simp [rep]; rfl
  | k + 1 => by show (rep s k ++ s).size = _; rw [ByteArray.size_append, rep_size s k, Nat.succ_mul]
def dig (n : Nat) : ByteArray := ⟨#[UInt8.ofNat (48 + n % 10)]⟩
/-- A number of one figure or two. -/
def decB (n : Nat) : ByteArray := if n < 10 then dig n else dig (n / 10) ++ dig n
theorem dec_lo {n : Nat} (h : n < 10) : decB n = dig n := by simp [decB, h]
theorem dec_hi {n : Nat} (h : ¬ n < 10) : decB n = dig (n / 10) ++ dig n := by simp [decB, h]
theorem dig_list (n : Nat) : (dig n).toList = [UInt8.ofNat (48 + n % 10)] := by rw [ByteArray.toList_eq]; rfl
theorem dec_list (n : Nat) : (decB n).toList = if n < 10 then [UInt8.ofNat (48 + n % 10)] else [UInt8.ofNat (48 + n / 10 % 10), UInt8.ofNat (48 + n % 10)] := by
  unfold decB; split
  · exact dig_list n
  · rw [ba_app, dig_list, dig_list]; rfl
theorem dec_inj {n m : Nat} (hn : n < 100) (hm : m < 100) (h : (decB n).toList = (decB m).toList) : n = m := by
  have key : ∀ n : Fin 100, ∀ m : Fin 100, (if n.1 < 10 then [UInt8.ofNat (48 + n.1 % 10)] else [UInt8.ofNat (48 + n.1 / 10 % 10), UInt8.ofNat (48 + n.1 % 10)]) = (if m.1 < 10 then [UInt8.ofNat (48 + m.1 % 10)] else [UInt8.ofNat (48 + m.1 / 10 % 10), UInt8.ofNat (48 + m.1 % 10)]) → n.1 = m.1 := by decide +kernel
  rw [dec_list, dec_list] at h
  exact key ⟨n, hn⟩ ⟨m, hm⟩ h
def digitB (x : UInt8) : Bool := decide (48 ≤ x) && decide (x ≤ 57)
theorem dec_digits {n : Nat} (hn : n < 100) : ∀ x ∈ (decB n).toList, digitB x = true := by
  have key : ∀ n : Fin 100, (if n.1 < 10 then [UInt8.ofNat (48 + n.1 % 10)] else [UInt8.ofNat (48 + n.1 / 10 % 10), UInt8.ofNat (48 + n.1 % 10)]).all digitB = true := by decide +kernel
  rw [dec_list]
  have := key ⟨n, hn⟩
  rw [List.all_eq_true] at this
  exact this
theorem dec_ne {n : Nat} : (decB n).toList ≠ [] := by rw [dec_list]; split <;> simp
theorem dot_list (k : Nat) : (rep ⟨#[46]⟩ k).toList = List.replicate k 46 := by
  induction k with
  | zero => simp [rep, ByteArray.toList_eq]
  | succ k ih => show (rep ⟨#[46]⟩ k ++ ⟨#[46]⟩).toList = _; rw [ba_app, ih, List.replicate_succ', ByteArray.toList_eq]
/-! ### a run of bytes of one kind ends where it ends -/
def headNot (p : UInt8 → Bool) : List UInt8 → Prop
  | [] => True
  | x :: _ => p x = false
theorem span_eq {p : UInt8 → Bool} : ∀ {a b X Y : List UInt8}, (∀ x ∈ a, p x = true) → (∀ x ∈ b, p x = true) → headNot p X → headNot p Y → a ++ X = b ++ Y → a = b ∧ X = Y
  | [], [], _, _, _, _, _, _, h => ⟨rfl, h⟩
  | [], y :: b, X, Y, _, hb, hX, _, h => by
    simp only [List.nil_append, List.cons_append] at h
    subst h
    have := hb y (by simp)
    simp only [headNot] at hX
    rw [this] at hX; cases hX
  | x :: a, [], X, Y, ha, _, _, hY, h => by
    simp only [List.nil_append, List.cons_append] at h
    subst h
    have := ha x (by simp)
    simp only [headNot] at hY
    rw [this] at hY; cases hY
  | x :: a, y :: b, X, Y, ha, hb, hX, hY, h => by
    simp only [List.cons_append, List.cons.injEq] at h
    obtain ⟨rfl, h⟩ := h
    obtain ⟨rfl, h2⟩ := span_eq (fun z hz => ha z (by simp [hz])) (fun z hz => hb z (by simp [hz])) hX hY h
    exact ⟨rfl, h2⟩
/-! ### a row's line -/
def nilB (s : ByteArray) : Bool := s.toList.isEmpty
def tailT (s : ByteArray) : ByteArray := if nilB s then ⟨#[]⟩ else (⟨#[32]⟩ : ByteArray) ++ s
def rowT (r : RowD) : ByteArray := rep ⟨#[46]⟩ r.dep.toNat ++ decB r.id.toNat ++ tailT r.txt ++ ⟨#[10]⟩
/-- An outline's text, so many rows of it. -/
def textTo (rs : List RowD) : Nat → ByteArray
  | 0 => ⟨#[]⟩
  | k + 1 => textTo rs k ++ rowT (rat rs k)
def textT (rs : List RowD) : ByteArray := textTo rs rs.length
/-- What a row must be for its line to tell it. -/
structure LineOk (r : RowD) : Prop where
  d0 : 0 ≤ r.dep
  d1 : r.dep ≤ 18
  i0 : 0 ≤ r.id
  i1 : r.id < 100
  t0 : r.txt.size ≤ 4
  t1 : ∀ x ∈ r.txt.toList, x ≠ 10
theorem ch_list (c : UInt8) : (⟨#[c]⟩ : ByteArray).toList = [c] := by rw [ByteArray.toList_eq]
theorem tail_list (s : ByteArray) : (tailT s).toList = if s.toList = [] then [] else 32 :: s.toList := by
  unfold tailT nilB
  by_cases h : s.toList = []
  · simp [h, ByteArray.toList_eq]
  · rw [if_neg h, if_neg (by simpa using h), ba_app, ch_list]; rfl
theorem row_list (r : RowD) : (rowT r).toList = List.replicate r.dep.toNat 46 ++ ((decB r.id.toNat).toList ++ ((tailT r.txt).toList ++ [10])) := by
  unfold rowT
  rw [ba_app, ba_app, ba_app, dot_list, ch_list, List.append_assoc, List.append_assoc]
theorem tail_inj {s t : ByteArray} (h : (tailT s).toList = (tailT t).toList) : s = t := by
  rw [tail_list, tail_list] at h
  apply txt_inj
  by_cases h1 : s.toList = []
  · by_cases h2 : t.toList = []
    · rw [h1, h2]
    · rw [if_pos h1, if_neg h2] at h; cases h
  · by_cases h2 : t.toList = []
    · rw [if_neg h1, if_pos h2] at h; cases h
    · rw [if_neg h1, if_neg h2] at h; exact (List.cons.inj h).2
theorem row_inj {r s : RowD} (hr : LineOk r) (hs : LineOk s) {X Y : List UInt8} (h : (rowT r).toList ++ X = (rowT s).toList ++ Y) : r = s ∧ X = Y := by
  rw [row_list, row_list] at h
  simp only [List.append_assoc] at h
  have hd : ∀ {n : Nat}, n < 100 → ∀ Z : List UInt8, headNot (fun x => x == 46) ((decB n).toList ++ Z) := fun {n} hn Z => by
    have h1 := dec_digits hn
    cases hl : (decB n).toList with
    | nil => exact absurd hl dec_ne
    | cons x l =>
      rw [hl] at h1
      have := h1 x (by simp)
      show (x == 46) = false
      rw [beq_eq_false_iff_ne]; intro e; subst e; revert this; decide
  obtain ⟨e1, h⟩ := span_eq (p := fun x => x == 46) (fun x hx => by simpa using (List.mem_replicate.1 hx).2) (fun x hx => by simpa using (List.mem_replicate.1 hx).2) (hd (by have := hr.i1; have := hr.i0; omega) _) (hd (by have := hs.i1; have := hs.i0; omega) _) h
  have ht : ∀ (s : ByteArray) (Z : List UInt8), headNot digitB ((tailT s).toList ++ ([10] ++ Z)) := fun s Z => by
    rw [tail_list]; split
    · show digitB 10 = false; decide
    · show digitB 32 = false; decide
  obtain ⟨e2, h⟩ := span_eq (p := digitB) (dec_digits (by have := hr.i1; have := hr.i0; omega)) (dec_digits (by have := hs.i1; have := hs.i0; omega)) (ht _ _) (ht _ _) h
  have hn : ∀ {s : ByteArray}, (∀ x ∈ s.toList, x ≠ 10) → ∀ x ∈ (tailT s).toList, (fun x : UInt8 => !(x == 10)) x = true := fun {s} hx x hm => by
    rw [tail_list] at hm
    split at hm
    · cases hm
    · rcases List.mem_cons.1 hm with rfl | hm
      · decide
      · simpa using hx x hm
  have hh : ∀ Z : List UInt8, headNot (fun x : UInt8 => !(x == 10)) ([10] ++ Z) := fun Z => (by decide : (!((10 : UInt8) == 10)) = false)
  obtain ⟨e3, h⟩ := span_eq (p := fun x : UInt8 => !(x == 10)) (hn hr.t1) (hn hs.t1) (hh _) (hh _) h
  have e4 := (List.cons.inj h).2
  have q1 : r.dep.toNat = s.dep.toNat := by
    have := congrArg List.length e1; simpa using this
  have q2 := dec_inj (by have := hr.i1; have := hr.i0; omega) (by have := hs.i1; have := hs.i0; omega) e2
  have q3 := tail_inj e3
  refine ⟨?_, e4⟩
  have a1 := hr.d0; have a2 := hs.d0; have a3 := hr.i0; have a4 := hs.i0
  have b1 : r.dep = s.dep := by omega
  have b2 : r.id = s.id := by omega
  cases r; cases s
  simp only at b1 b2 q3
  subst b1 b2 q3; rfl
theorem row_ne (r : RowD) : (rowT r).toList ≠ [] := by rw [row_list]; simp
def linesL : List RowD → List UInt8
  | [] => []
  | r :: l => (rowT r).toList ++ linesL l
theorem lines_app : ∀ (l m : List RowD), linesL (l ++ m) = linesL l ++ linesL m
  | [], _ => rfl
  | r :: l, m => by show _ ++ linesL (l ++ m) = _; rw [lines_app l m]; simp [linesL]
theorem lines_inj : ∀ {l m : List RowD}, (∀ r ∈ l, LineOk r) → (∀ r ∈ m, LineOk r) → linesL l = linesL m → l = m
  | [], [], _, _, _ => rfl
  | [], s :: m, _, _, h => by
    exfalso; have := row_ne s; simp only [linesL] at h
    rcases List.append_eq_nil_iff.1 h.symm with ⟨q, _⟩; exact this q
  | r :: l, [], _, _, h => by
    exfalso; have := row_ne r; simp only [linesL] at h
    rcases List.append_eq_nil_iff.1 h with ⟨q, _⟩; exact this q
  | r :: l, s :: m, hl, hm, h => by
    simp only [linesL] at h
    obtain ⟨rfl, h2⟩ := row_inj (hl r (by simp)) (hm s (by simp)) h
    rw [lines_inj (fun x hx => hl x (by simp [hx])) (fun x hx => hm x (by simp [hx])) h2]
theorem textTo_list (rs : List RowD) : ∀ k, k ≤ rs.length → (textTo rs k).toList = linesL (rs.take k)
  | 0, _ => by simp [textTo, linesL, ByteArray.toList_eq]
  | k + 1, h => by
    show (textTo rs k ++ rowT (rat rs k)).toList = _
    rw [ba_app, textTo_list rs k (by omega), List.take_succ_eq_append_getElem (by omega), lines_app]
    simp [linesL, rat, show k < rs.length by omega]
theorem textT_list (rs : List RowD) : (textT rs).toList = linesL rs := by
  unfold textT; rw [textTo_list rs _ (Nat.le_refl _), List.take_length]
theorem lineOk_of {r : RowD} (h : rokB r = true) : LineOk r := by
  rcases rok_cases h with ⟨h1, h2, h3⟩ | ⟨_, h2, h3, h4, h5⟩
  · have hx : r.txt.toList = [] := by simpa using h3
    have h6 := (rootB_iff _).1 h1
    refine ⟨by omega, by omega, by omega, by omega, ?_, by simp [hx]⟩
    rw [ByteArray.toList_eq] at hx
    have : r.txt.data.size = 0 := by simpa using congrArg List.length hx
    show r.txt.data.size ≤ 4
    omega
  · have h6 := (madeB_iff _).1 h2
    simp only [textB, Bool.and_eq_true, List.all_eq_true, decide_eq_true_eq] at h5
    refine ⟨by omega, by omega, by omega, by omega, by omega, fun x hx => ?_⟩
    rw [ByteArray.toList_eq] at hx
    have := h5.1 x hx
    intro e; subst e
    revert this; decide
theorem textT_inj {l m : List RowD} (hl : treeB l = true) (hm : treeB m = true) (h : textT l = textT m) : l = m := by
  have key : ∀ {t : List RowD}, treeB t = true → ∀ r ∈ t, LineOk r := fun {t} ht r hr => by
    obtain ⟨i, hi, e⟩ := List.getElem_of_mem hr
    have := (treeP_of ht).rok i hi
    rw [show rat t i = r by simp [rat, hi, e]] at this
    exact lineOk_of this
  exact lines_inj (key hl) (key hm) (by rw [← textT_list, ← textT_list, h])
end Go.Proofs.YtklefdhjfadhpaaDoor
