/-
  Joined texts, each with its own head: what it holds, and its conditions.
-/
import Derived.Test.YtclhjgcapalniaaDoorGC
import Derived.Test.YtclhjgcapalniaaDoorGD
import Derived.Test.YtclhjgcapalniaaDoorGA
import Derived.Lib.SmallJoins
import Derived.Maps.OwnSet
import Derived.WalkKit

/-
  Plain mathematics of logs as lists of entries: what is a valid entry and a valid log, how many entries somebody has, what adding makes of a log. Nothing of the program is run here. Conditions: none beyond the lemmas' own premises.
-/
namespace Go.Proofs.YtclhjgcapalniaaDoor
open Go.RowKit

structure EntD where
  who : Int
  seq : Int
  op : OpD
def ez : EntD := ⟨0, 0, ⟨0, 0, 0, 0, ByteArray.empty⟩⟩
def eat (es : List EntD) (i : Nat) : EntD := es.getD i ez
def mineB (e : EntD) : Bool := !(e.op.kind == 1) || (whoI e.op.id == e.who)
def entB (e : EntD) : Bool := inB e.who 1 3 && inB e.seq 1 40 && opokB e.op && mineB e
/-- How many of the first k entries are of somebody. -/
def cntTo (es : List EntD) (who : Int) : Nat → Nat
  | 0 => 0
  | k + 1 => cntTo es who k + (if (eat es k).who = who then 1 else 0)
def estepB (es : List EntD) (i : Nat) : Bool := entB (eat es i) && ((eat es i).seq == (cntTo es (eat es i).who i : Int) + 1)
def logTo (es : List EntD) (k : Nat) : Bool := (List.range k).all (estepB es)
def logB (es : List EntD) : Bool := logTo es es.length && decide (es.length ≤ 40)
def lseqI (es : List EntD) (who : Int) : Int := if logB es then (cntTo es who es.length : Int) else -1
def sameB (a b : EntD) : Bool := (a.who == b.who) && (a.seq == b.seq) && (a.op.kind == b.op.kind) && (a.op.id == b.op.id) && (a.op.up == b.op.up) && (a.op.at_ == b.op.at_) && (a.op.txt.toList == b.op.txt.toList)
def hasTo (es : List EntD) (e : EntD) (k : Nat) : Bool := (List.range k).any fun i => sameB (eat es i) e
def hasE (es : List EntD) (e : EntD) : Bool := hasTo es e es.length
def nextB (es : List EntD) (e : EntD) : Bool := (e.seq == (cntTo es e.who es.length : Int) + 1) && decide (es.length < 40)
def okAdd (es : List EntD) (e : EntD) : Bool := logB es && entB e
def addN (es : List EntD) (e : EntD) : Int := if okAdd es e then (if hasE es e then 0 else if nextB es e then 1 else -1) else -1
def addL (es : List EntD) (e : EntD) : List EntD := if okAdd es e then (if hasE es e then es else if nextB es e then es ++ [e] else es) else []

theorem cntTo_le (es : List EntD) (who : Int) : ∀ k, cntTo es who k ≤ k
  | 0 => Nat.le_refl _
  | k + 1 => by have := cntTo_le es who k; unfold cntTo; split <;> omega
theorem cntTo_succ (es : List EntD) (who : Int) (k : Nat) : cntTo es who (k + 1) = cntTo es who k + (if (eat es k).who = who then 1 else 0) := rfl
theorem logTo_succ (es : List EntD) (k : Nat) : logTo es (k + 1) = (logTo es k && estepB es k) := by simp [logTo, List.range_succ]
theorem logTo_zero (es : List EntD) : logTo es 0 = true := rfl
theorem logTo_at {es : List EntD} {k i : Nat} (h : logTo es k = true) (hi : i < k) : estepB es i = true := by
  simp only [logTo, List.all_eq_true, List.mem_range] at h; exact h i hi
theorem logB_bad {es : List EntD} {k : Nat} (hk : k < es.length) (h : estepB es k = false) : logB es = false := by
  rw [Bool.eq_false_iff]; intro g
  simp only [logB, Bool.and_eq_true] at g
  rw [logTo_at g.1 hk] at h; cases h
theorem logB_long {es : List EntD} (h : ¬ es.length ≤ 40) : logB es = false := by simp [logB, h]
theorem logB_good {es : List EntD} (h : logTo es es.length = true) (hl : es.length ≤ 40) : logB es = true := by simp [logB, h, hl]
theorem logB_to {es : List EntD} (h : logB es = true) : logTo es es.length = true ∧ es.length ≤ 40 := by simpa [logB] using h
theorem hasTo_succ (es : List EntD) (e : EntD) (k : Nat) : hasTo es e (k + 1) = (hasTo es e k || sameB (eat es k) e) := by simp [hasTo, List.range_succ]
theorem hasTo_zero (es : List EntD) (e : EntD) : hasTo es e 0 = false := rfl
theorem hasE_at {es : List EntD} {e : EntD} {k : Nat} (hk : k < es.length) (h : sameB (eat es k) e = true) : hasE es e = true := by
  simp only [hasE, hasTo, List.any_eq_true, List.mem_range]; exact ⟨k, hk, h⟩
theorem bytes_inj {s t : ByteArray} (h : s.toList = t.toList) : s = t := by
  rw [ByteArray.toList_eq, ByteArray.toList_eq] at h
  cases s; cases t
  simp only at h
  rw [Array.toList_inj.1 h]
theorem sameB_iff {a b : EntD} : sameB a b = true ↔ a = b := by
  constructor
  · intro h
    simp only [sameB, Bool.and_eq_true, beq_iff_eq] at h
    obtain ⟨⟨⟨⟨⟨⟨h0, h1⟩, h2⟩, h3⟩, h4⟩, h5⟩, h6⟩ := h
    obtain ⟨a0, a1, ⟨a2, a3, a4, a5, a6⟩⟩ := a
    obtain ⟨b0, b1, ⟨b2, b3, b4, b5, b6⟩⟩ := b
    simp only at h0 h1 h2 h3 h4 h5 h6
    have := bytes_inj h6
    subst h0 h1 h2 h3 h4 h5 this
    rfl
  · rintro rfl; simp [sameB]
/-- The first field in which two entries part. -/
theorem ent_parts {a b : EntD} (h : sameB a b = false) : a.who ≠ b.who ∨ (a.who = b.who ∧ a.seq ≠ b.seq) ∨ (a.who = b.who ∧ a.seq = b.seq ∧ a.op.kind ≠ b.op.kind) ∨ (a.who = b.who ∧ a.seq = b.seq ∧ a.op.kind = b.op.kind ∧ a.op.id ≠ b.op.id) ∨
    (a.who = b.who ∧ a.seq = b.seq ∧ a.op.kind = b.op.kind ∧ a.op.id = b.op.id ∧ a.op.up ≠ b.op.up) ∨ (a.who = b.who ∧ a.seq = b.seq ∧ a.op.kind = b.op.kind ∧ a.op.id = b.op.id ∧ a.op.up = b.op.up ∧ a.op.at_ ≠ b.op.at_) ∨
    (a.who = b.who ∧ a.seq = b.seq ∧ a.op.kind = b.op.kind ∧ a.op.id = b.op.id ∧ a.op.up = b.op.up ∧ a.op.at_ = b.op.at_ ∧ ¬ a.op.txt.toList = b.op.txt.toList) := by
  by_cases h0 : a.who = b.who
  · by_cases h1 : a.seq = b.seq
    · by_cases h2 : a.op.kind = b.op.kind
      · by_cases h3 : a.op.id = b.op.id
        · by_cases h4 : a.op.up = b.op.up
          · by_cases h5 : a.op.at_ = b.op.at_
            · have h6 : ¬ a.op.txt.toList = b.op.txt.toList := fun g => by simp [sameB, h0, h1, h2, h3, h4, h5, g] at h
              simp [h0, h1, h2, h3, h4, h5, h6]
            · simp [h0, h1, h2, h3, h4, h5]
          · simp [h0, h1, h2, h3, h4]
        · simp [h0, h1, h2, h3]
      · simp [h0, h1, h2]
    · simp [h0, h1]
  · simp [h0]

/-! ### lists that begin alike, and one entry more -/
theorem eat_app_left {es fs : List EntD} {i : Nat} (h : i < es.length) : eat (es ++ fs) i = eat es i := by
  unfold eat; rw [List.getD_eq_getElem?_getD, List.getD_eq_getElem?_getD, List.getElem?_append_left h]
theorem eat_app_last (es : List EntD) (e : EntD) : eat (es ++ [e]) es.length = e := by
  unfold eat; rw [List.getD_eq_getElem?_getD, List.getElem?_append_right (Nat.le_refl _)]; simp
theorem eat_take {es : List EntD} {k i : Nat} (h : i < k) : eat (es.take k) i = eat es i := by
  unfold eat; rw [List.getD_eq_getElem?_getD, List.getD_eq_getElem?_getD, List.getElem?_take_of_lt h]
theorem cntTo_congr {es fs : List EntD} (who : Int) : ∀ {k}, (∀ i, i < k → eat es i = eat fs i) → cntTo es who k = cntTo fs who k
  | 0, _ => rfl
  | k + 1, h => by rw [cntTo_succ, cntTo_succ, cntTo_congr who (fun i hi => h i (by omega)), h k (by omega)]
theorem estepB_congr {es fs : List EntD} {k i : Nat} (h : ∀ i, i < k → eat es i = eat fs i) (hi : i < k) : estepB es i = estepB fs i := by
  unfold estepB; rw [h i hi, cntTo_congr _ (fun j hj => h j (by omega))]
theorem logTo_congr {es fs : List EntD} : ∀ {k}, (∀ i, i < k → eat es i = eat fs i) → logTo es k = logTo fs k
  | 0, _ => rfl
  | k + 1, h => by rw [logTo_succ, logTo_succ, logTo_congr (fun i hi => h i (by omega)), estepB_congr h (by omega)]
theorem logTo_mono {es : List EntD} {k i : Nat} (h : logTo es k = true) (hi : i ≤ k) : logTo es i = true := by
  simp only [logTo, List.all_eq_true, List.mem_range] at h ⊢; exact fun j hj => h j (by omega)
/-- The first entries of a log are one. -/
theorem logB_take {es : List EntD} (h : logB es = true) {k : Nat} (hk : k ≤ es.length) : logB (es.take k) = true := by
  obtain ⟨h1, h2⟩ := logB_to h
  have hl : (es.take k).length = k := by simp; omega
  refine logB_good ?_ (by omega)
  rw [hl, logTo_congr (fs := es) (fun i hi => eat_take hi)]
  exact logTo_mono h1 hk
/-- The next entry behind all makes a log. -/
theorem logB_snoc {es : List EntD} {e : EntD} (h : logB es = true) (he : entB e = true) (hn : nextB es e = true) : logB (es ++ [e]) = true := by
  obtain ⟨h1, h2⟩ := logB_to h
  simp only [nextB, Bool.and_eq_true, beq_iff_eq, decide_eq_true_eq] at hn
  refine logB_good ?_ (by simp; omega)
  have hc : ∀ i, i < es.length → eat (es ++ [e]) i = eat es i := fun i hi => eat_app_left hi
  rw [List.length_append, List.length_singleton, logTo_succ, logTo_congr hc, h1, Bool.true_and]
  unfold estepB
  rw [eat_app_last, cntTo_congr _ hc, he, hn.1]
  simp
theorem cnt_snoc (es : List EntD) (e : EntD) (who : Int) : cntTo (es ++ [e]) who (es ++ [e]).length = cntTo es who es.length + (if e.who = who then 1 else 0) := by
  rw [List.length_append, List.length_singleton, cntTo_succ, eat_app_last, cntTo_congr (fs := es) _ (fun i hi => eat_app_left hi)]
theorem has_snoc (es : List EntD) (e : EntD) : hasE (es ++ [e]) e = true := hasE_at (k := es.length) (by simp) (by rw [eat_app_last]; exact sameB_iff.2 rfl)
/-- An entry that is in a log has one of the numbers given out. -/
theorem cnt_mono (es : List EntD) (who : Int) {i k : Nat} (h : i ≤ k) : cntTo es who i ≤ cntTo es who k := by
  induction k with
  | zero => obtain rfl : i = 0 := by omega
            exact Nat.le_refl _
  | succ k ih =>
    by_cases e : i = k + 1
    · subst e; exact Nat.le_refl _
    · have := ih (by omega); rw [cntTo_succ]; omega
theorem seq_le {es : List EntD} {k i : Nat} (h : logTo es k = true) (hi : i < k) : (eat es i).seq ≤ (cntTo es (eat es i).who k : Int) := by
  have h1 := logTo_at h hi
  simp only [estepB, Bool.and_eq_true, beq_iff_eq] at h1
  have h2 := cnt_mono es (eat es i).who (i := i + 1) (k := k) (by omega)
  rw [cntTo_succ, if_pos rfl] at h2
  rw [h1.2]; omega
theorem has_seq {es : List EntD} {e : EntD} (h : logB es = true) (hh : hasE es e = true) : e.seq ≤ (cntTo es e.who es.length : Int) := by
  simp only [hasE, hasTo, List.any_eq_true, List.mem_range] at hh
  obtain ⟨i, hi, hs⟩ := hh
  rw [← sameB_iff.1 hs]
  exact seq_le (logB_to h).1 hi
theorem next_not_has {es : List EntD} {e : EntD} (h : logB es = true) (hn : nextB es e = true) : hasE es e = false := by
  rw [Bool.eq_false_iff]; intro g
  have := has_seq h g
  simp only [nextB, Bool.and_eq_true, beq_iff_eq, decide_eq_true_eq] at hn
  omega
theorem ent_who {e : EntD} (h : entB e = true) : 1 ≤ e.who ∧ e.who ≤ 3 := by
  simp only [entB, Bool.and_eq_true] at h; exact (inB_iff _ _ _).1 h.1.1.1
theorem ent_seq {e : EntD} (h : entB e = true) : 1 ≤ e.seq ∧ e.seq ≤ 40 := by
  simp only [entB, Bool.and_eq_true] at h; exact (inB_iff _ _ _).1 h.1.1.2
theorem ent_op {e : EntD} (h : entB e = true) : opokB e.op = true := by
  simp only [entB, Bool.and_eq_true] at h; exact h.1.2
theorem log_ent {es : List EntD} {k i : Nat} (h : logTo es k = true) (hi : i < k) : entB (eat es i) = true := by
  have h1 := logTo_at h hi
  simp only [estepB, Bool.and_eq_true] at h1; exact h1.1
/-- All entries are of the three. -/
theorem cnt_sum {es : List EntD} : ∀ {k : Nat}, logTo es k = true → cntTo es 1 k + cntTo es 2 k + cntTo es 3 k = k
  | 0, _ => rfl
  | k + 1, h => by
    have h1 := cnt_sum (logTo_mono h (Nat.le_succ k))
    have h2 := ent_who (log_ent h (Nat.lt_succ_self k))
    rw [cntTo_succ, cntTo_succ, cntTo_succ]
    rcases (by omega : (eat es k).who = 1 ∨ (eat es k).who = 2 ∨ (eat es k).who = 3) with e | e | e <;> simp [e] <;> omega
end Go.Proofs.YtclhjgcapalniaaDoor
/-
  Entries in memory: slices of entries, their cells, blocks of a call's own. Conditions: as each theorem says.
-/
namespace Go.Proofs.YtclhjgcapalniaaDoor
open Go.ChangeShapes Go.WideShapes Go.ChangeAt Go.RowKit Go.Joins

/-- Cell j of an entry. -/
def ecell (e : EntD) : Nat → Value
  | 0 => .int .i64 e.who
  | 1 => .int .i64 e.seq
  | 2 => .int .i64 e.op.kind
  | 3 => .int .i64 e.op.id
  | 4 => .int .i64 e.op.up
  | 5 => .int .i64 e.op.at_
  | _ => .string e.op.txt
def EntAt (w : World) (b o : Nat) (e : EntD) : Prop := ∀ j, j < 7 → w.cell? ⟨b, o + j, none⟩ = some (ecell e j)
/-- The entries es lie at address a, below block B. -/
def EntsAt (B : Nat) (w : World) (a : Option Addr) (es : List EntD) : Prop :=
  es.length = 0 ∨ ∃ b off, a = some ⟨b, off, none⟩ ∧ b < B ∧ ∀ i, i < es.length → EntAt w b (off + i * 7) (eat es i)
structure EFit (e : EntD) : Prop where
  who : I64 e.who
  seq : I64 e.seq
  op : OpFit e.op
def EntsFit (es : List EntD) : Prop := es.length ≤ 1048576 ∧ ∀ i, i < es.length → EFit (eat es i)
theorem EntAt.cells {w : World} {b o : Nat} {e : EntD} (h : EntAt w b o e) : w.cell? ⟨b, o, none⟩ = some (.int .i64 e.who) ∧ w.cell? ⟨b, o + 1, none⟩ = some (.int .i64 e.seq) ∧ w.cell? ⟨b, o + 2, none⟩ = some (.int .i64 e.op.kind) ∧ w.cell? ⟨b, o + 3, none⟩ = some (.int .i64 e.op.id) ∧ w.cell? ⟨b, o + 4, none⟩ = some (.int .i64 e.op.up) ∧ w.cell? ⟨b, o + 5, none⟩ = some (.int .i64 e.op.at_) ∧ w.cell? ⟨b, o + 6, none⟩ = some (.string e.op.txt) :=
  ⟨h 0 (by decide), h 1 (by decide), h 2 (by decide), h 3 (by decide), h 4 (by decide), h 5 (by decide), h 6 (by decide)⟩
theorem EntAt.of {w : World} {b o : Nat} {e : EntD} (h : w.cell? ⟨b, o, none⟩ = some (.int .i64 e.who) ∧ w.cell? ⟨b, o + 1, none⟩ = some (.int .i64 e.seq) ∧ w.cell? ⟨b, o + 2, none⟩ = some (.int .i64 e.op.kind) ∧ w.cell? ⟨b, o + 3, none⟩ = some (.int .i64 e.op.id) ∧ w.cell? ⟨b, o + 4, none⟩ = some (.int .i64 e.op.up) ∧ w.cell? ⟨b, o + 5, none⟩ = some (.int .i64 e.op.at_) ∧ w.cell? ⟨b, o + 6, none⟩ = some (.string e.op.txt)) : EntAt w b o e := fun j hj => by
  obtain ⟨h0, h1, h2, h3, h4, h5, h6⟩ := h
  match j, hj with
  | 0, _ => exact h0
  | 1, _ => exact h1
  | 2, _ => exact h2
  | 3, _ => exact h3
  | 4, _ => exact h4
  | 5, _ => exact h5
  | 6, _ => exact h6
theorem EntAt.below {B : Nat} {w w' : World} {b o : Nat} {e : EntD} (h : EntAt w b o e) (hb : Below B w w') (hB : b < B) : EntAt w' b o e := fun j hj => by
  rw [hb.cell (p := ⟨b, _, none⟩) hB]; exact h j hj
theorem EntsAt.below {B : Nat} {w w' : World} {a : Option Addr} {es : List EntD} (h : EntsAt B w a es) (hb : Below B w w') : EntsAt B w' a es := by
  rcases h with h | ⟨b, off, rfl, hB, hc⟩
  · exact .inl h
  · exact .inr ⟨b, off, rfl, hB, fun i hi => (hc i hi).below hb hB⟩
theorem EntsAt.mono {B B' : Nat} {w : World} {a : Option Addr} {es : List EntD} (h : EntsAt B w a es) (hb : B ≤ B') : EntsAt B' w a es := by
  rcases h with h | ⟨b, off, rfl, hB, hc⟩
  · exact .inl h
  · exact .inr ⟨b, off, rfl, by omega, hc⟩
theorem EntsAt.at_ {B : Nat} {w : World} {a : Option Addr} {es : List EntD} (h : EntsAt B w a es) {i : Nat} (hi : i < es.length) :
    ∃ b off, a = some ⟨b, off, none⟩ ∧ b < B ∧ w.cell? ⟨b, off + i * 7, none⟩ = some (.int .i64 (eat es i).who) ∧ w.cell? ⟨b, off + i * 7 + 1, none⟩ = some (.int .i64 (eat es i).seq) ∧ w.cell? ⟨b, off + i * 7 + 2, none⟩ = some (.int .i64 (eat es i).op.kind) ∧ w.cell? ⟨b, off + i * 7 + 3, none⟩ = some (.int .i64 (eat es i).op.id) ∧ w.cell? ⟨b, off + i * 7 + 4, none⟩ = some (.int .i64 (eat es i).op.up) ∧ w.cell? ⟨b, off + i * 7 + 5, none⟩ = some (.int .i64 (eat es i).op.at_) ∧ w.cell? ⟨b, off + i * 7 + 6, none⟩ = some (.string (eat es i).op.txt) := by
  rcases h with h | ⟨b, off, rfl, hB, hc⟩
  · omega
  · exact ⟨b, off, rfl, hB, (hc i hi).cells⟩
theorem EntsAt.take {B : Nat} {w : World} {a : Option Addr} {es : List EntD} (h : EntsAt B w a es) (k : Nat) : EntsAt B w a (es.take k) := by
  rcases h with h | ⟨b, off, rfl, hB, hc⟩
  · exact .inl (by simp at h ⊢; exact .inr h)
  · refine .inr ⟨b, off, rfl, hB, fun i hi => ?_⟩
    simp at hi
    rw [eat_take (by omega)]
    exact hc i (by omega)

/-! ### entries as cells -/
def cellsE (es : List EntD) : List Value := es.flatMap fun e => [.int .i64 e.who, .int .i64 e.seq, .int .i64 e.op.kind, .int .i64 e.op.id, .int .i64 e.op.up, .int .i64 e.op.at_, .string e.op.txt]
theorem cellsE_len (es : List EntD) : (cellsE es).length = es.length * 7 := by
  induction es with
  | nil => rfl
  | cons e es ih => simp [cellsE] at ih ⊢; omega
theorem cellsE_append (a b : List EntD) : cellsE (a ++ b) = cellsE a ++ cellsE b := by simp [cellsE]
theorem cellsE_one (e : EntD) : cellsE [e] = [.int .i64 e.who, .int .i64 e.seq, .int .i64 e.op.kind, .int .i64 e.op.id, .int .i64 e.op.up, .int .i64 e.op.at_, .string e.op.txt] := rfl
theorem cellsE_plain (es : List EntD) : ∀ u ∈ cellsE es, u.oneCell' = true := by
  intro u hu
  simp only [cellsE, List.mem_flatMap, List.mem_cons, List.not_mem_nil, or_false] at hu
  obtain ⟨e, _, rfl | rfl | rfl | rfl | rfl | rfl | rfl⟩ := hu <;> rfl
theorem eat_cons_succ (e : EntD) (es : List EntD) (i : Nat) : eat (e :: es) (i + 1) = eat es i := by simp [eat]
theorem cellsE_at : ∀ (es : List EntD) (i j : Nat), i < es.length → j < 7 → (cellsE es)[i * 7 + j]? = some (ecell (eat es i) j)
  | [], i, j, h, _ => by simp at h
  | e :: es, 0, j, _, hj => by
    have e' : cellsE (e :: es) = [.int .i64 e.who, .int .i64 e.seq, .int .i64 e.op.kind, .int .i64 e.op.id, .int .i64 e.op.up, .int .i64 e.op.at_, .string e.op.txt] ++ cellsE es := rfl
    rw [e', List.getElem?_append_left (by simp; omega)]
    match j, hj with
    | 0, _ => rfl
    | 1, _ => rfl
    | 2, _ => rfl
    | 3, _ => rfl
    | 4, _ => rfl
    | 5, _ => rfl
    | 6, _ => rfl
  | e :: es, i + 1, j, h, hj => by
    have := cellsE_at es i j (by simpa using h) hj
    rw [eat_cons_succ]
    have e' : cellsE (e :: es) = [.int .i64 e.who, .int .i64 e.seq, .int .i64 e.op.kind, .int .i64 e.op.id, .int .i64 e.op.up, .int .i64 e.op.at_, .string e.op.txt] ++ cellsE es := rfl
    rw [e', List.getElem?_append_right (by simp; omega)]
    simpa [show (i + 1) * 7 + j - 7 = i * 7 + j by omega] using this
/-- A slice of entries in a row of the call's own. -/
theorem entsAt_own {w : World} {base : Nat} {a : Option Addr} {cap : Nat} {es : List EntD} (h : w.ownsRow base 64 7 (.slice a es.length cap) es.length (cellsE es)) : EntsAt w.heap.size w a es := by
  rcases h.2 with ⟨_, h0⟩ | ⟨g, cap', cur, hv, hg, hh, h1, h2, h3, h4⟩
  · exact .inl h0
  · cases hv
    refine .inr ⟨g, 0, rfl, (Array.getElem?_eq_some_iff.1 hh).1, fun i hi j hj => ?_⟩
    have hc : ∀ j, j < es.length * 7 → w.cell? ⟨g, j, none⟩ = (cellsE es)[j]? := fun j hj => by
      unfold World.cell?
      simp only [hh]
      have : (cur.toList.take (es.length * 7))[j]? = (cellsE es)[j]? := by rw [h4]
      rw [List.getElem?_take_of_lt hj] at this
      simpa using this
    rw [Nat.zero_add, hc _ (by omega)]
    exact cellsE_at es i j hi hj
theorem eat_drop_take (es : List EntD) (s n i : Nat) (hi : i < n) : eat ((es.drop s).take n) i = eat es (s + i) := by
  unfold eat
  rw [List.getD_eq_getElem?_getD, List.getD_eq_getElem?_getD, List.getElem?_take_of_lt hi, List.getElem?_drop]
/-- The cells that an append copies: all entries of a slice that lies in memory. -/
theorem EntsAt.news {B : Nat} {w : World} {b off : Nat} {es : List EntD} (h : EntsAt B w (some ⟨b, off, none⟩) es) :
    ∀ j u, (cellsE es)[j]? = some u → w.cell? ((⟨b, off, none⟩ : Addr).add j) = some u := by
  intro j u hu
  have hj : j < es.length * 7 := by
    have := (List.getElem?_eq_some_iff.1 hu).1
    rw [cellsE_len] at this; exact this
  rcases h with h | ⟨b', off', e, _, hc⟩
  · omega
  · cases e
    have c := hc (j / 7) (by omega) (j % 7) (by omega)
    have q := cellsE_at es (j / 7) (j % 7) (by omega) (by omega)
    rw [show j / 7 * 7 + j % 7 = j by omega, hu] at q
    rw [show off + j / 7 * 7 + j % 7 = off + j by omega] at c
    rw [addr_add, c, ← q]
theorem own_emptyE (w : World) (t : TypeId) : (w.alloc (.cells #[] t)).ownsRow w.heap.size t 7 (.slice (some ⟨w.heap.size, 0, none⟩) 0 0) 0 [] :=
  ⟨rfl, .inr ⟨w.heap.size, 0, #[], rfl, Nat.le_refl _, heap_alloc_new _ _, Nat.le_refl _, Nat.zero_le _, rfl, rfl⟩⟩
/-- Entries of the call's own, and nothing old turned. -/
def RetOwnE (es : List EntD) (w : World) (e : Ending) (w' : World) : Prop :=
  ∃ a cap, e = .returned (.slice a es.length cap) ∧ w'.ownsRow w.heap.size 64 7 (.slice a es.length cap) es.length (cellsE es) ∧ es.length ≤ cap ∧ Below w.heap.size w w'
theorem infoEnt : (Tryd.prog.info? 64).map (fun i => (i.zero, i.size, i.bytes)) = some (some (.agg #[.int .i64 0, .int .i64 0, .int .i64 0, .int .i64 0, .int .i64 0, .int .i64 0, .string ⟨#[]⟩]), 7, 64) := by kernel_rfl

/-! ### entries in a block that nobody else has -/
def EntsF (f : Nat → Value) (es : List EntD) (k : Nat) : Prop := ∀ i, i < k → ∀ j, j < 7 → f (i * 7 + j) = ecell (eat es i) j
/-- Block g has C cells, of which the first are the entries es; none is frozen. -/
def OwnEC (w : World) (g C : Nat) (es : List EntD) : Prop := ∃ f, w.rowIs g 64 C f ∧ es.length * 7 ≤ C ∧ EntsF f es es.length
theorem OwnEC.below {w w' : World} {g C B : Nat} {es : List EntD} (h : OwnEC w g C es) (hb : Below B w w') (hg : g < B) : OwnEC w' g C es := by
  obtain ⟨f, h1, h2⟩ := h
  exact ⟨f, h1.of_block (hb.block g hg), h2⟩
theorem OwnEC.lt {w : World} {g C : Nat} {es : List EntD} (h : OwnEC w g C es) : g < w.heap.size := by obtain ⟨f, h1, _⟩ := h; exact h1.lt
theorem OwnEC.at_ {w : World} {g C B : Nat} {es : List EntD} (h : OwnEC w g C es) (hg : g < B) : EntsAt B w (some ⟨g, 0, none⟩) es := by
  obtain ⟨f, h1, hC, h2⟩ := h
  refine .inr ⟨g, 0, rfl, hg, fun i hi j hj => ?_⟩
  rw [Nat.zero_add, h1.cell (show i * 7 + j < _ by omega), h2 i hi j hj]
def GotE (base : Nat) (w : World) (a : Option Addr) (es : List EntD) : Prop := es.length = 0 ∨ ∃ g C, a = some ⟨g, 0, none⟩ ∧ base ≤ g ∧ OwnEC w g C es
theorem gotE_own {w : World} {base : Nat} {a : Option Addr} {cap : Nat} {es : List EntD} (h : w.ownsRow base 64 7 (.slice a es.length cap) es.length (cellsE es)) : GotE base w a es := by
  rcases h.2 with ⟨_, h0⟩ | ⟨g, cap', cur, hv, hg, hh, h1, h2, h3, h4⟩
  · exact .inl h0
  · cases hv
    refine .inr ⟨g, cap * 7, rfl, hg, fun i => cur.getD i undef, ⟨cur, hh, h3, fun i hi => by rw [Array.getElem?_eq_getElem (by omega)]; simp [Array.getD, show i < cur.size by omega]⟩, by omega, fun i hi j hj => ?_⟩
    have hc : ∀ j, j < es.length * 7 → cur.getD j undef = ((cellsE es)[j]?).getD undef := fun j hj => by
      have : (cur.toList.take (es.length * 7))[j]? = (cellsE es)[j]? := by rw [h4]
      rw [List.getElem?_take_of_lt hj] at this
      rw [← this]
      simp [Array.getD, show j < cur.size by omega]
    simp only
    rw [hc _ (by omega), cellsE_at es i j hi hj]
    rfl
theorem GotE.below {base B : Nat} {w w' : World} {a : Option Addr} {es : List EntD} (h : GotE base w a es) (hb : Below B w w') (hB : w.heap.size ≤ B) : GotE base w' a es := by
  rcases h with h | ⟨g, C, e, hg, ho⟩
  · exact .inl h
  · exact .inr ⟨g, C, e, hg, ho.below hb (Nat.lt_of_lt_of_le ho.lt hB)⟩
theorem GotE.ents {base : Nat} {w : World} {a : Option Addr} {es : List EntD} (h : GotE base w a es) : EntsAt w.heap.size w a es := by
  rcases h with h | ⟨g, C, rfl, hg, ho⟩
  · exact .inl h
  · exact ho.at_ ho.lt
theorem GotE.but {base b n : Nat} {w w' : World} {a : Option Addr} {es : List EntD} (h : GotE base w a es) (hb : But b n w w') (hn : w.heap.size ≤ n) (hbb : b < base) : GotE base w' a es := by
  rcases h with h | ⟨g, C, e, hg, f, h1, h2⟩
  · exact .inl h
  · exact .inr ⟨g, C, e, hg, f, h1.of_block (hb.block g (Nat.lt_of_lt_of_le h1.lt hn) (by omega)), h2⟩
theorem entsF_set {f : Nat → Value} {es : List EntD} {k : Nat} (e : EntD) (he : eat es k = e) (h : EntsF f es k) :
    EntsF (fun j => if j = k * 7 + 6 then .string e.op.txt else if j = k * 7 + 5 then .int .i64 e.op.at_ else if j = k * 7 + 4 then .int .i64 e.op.up else if j = k * 7 + 3 then .int .i64 e.op.id else if j = k * 7 + 2 then .int .i64 e.op.kind else if j = k * 7 + 1 then .int .i64 e.seq else if j = k * 7 then .int .i64 e.who else f j) es (k + 1) := by
  subst he
  intro i hi j hj
  by_cases q : i = k
  · subst q
    match j, hj with
    | 0, _ => simp [ecell]
    | 1, _ => simp [ecell]
    | 2, _ => simp [ecell]
    | 3, _ => simp [ecell]
    | 4, _ => simp [ecell]
    | 5, _ => simp [ecell]
    | 6, _ => simp [ecell]
  · have := h i (by omega) j hj
    show (if _ then _ else if _ then _ else if _ then _ else if _ then _ else if _ then _ else if _ then _ else if _ then _ else _) = _
    rw [if_neg (by omega), if_neg (by omega), if_neg (by omega), if_neg (by omega), if_neg (by omega), if_neg (by omega), if_neg (by omega)]
    exact this
end Go.Proofs.YtclhjgcapalniaaDoor
/-
  An argument that is a change (laws.Op), opened; the laws' own helpers szOp, toOp, and szRowS with its bound. Conditions: as each theorem says.
-/
namespace Go.Proofs.YtclhjgcapalniaaDoor
open Go.ChangeShapes Go.WideShapes Go.ChangeAt Go.RowKit Go.Joins Go.Deep

theorem array5 {α : Type} {cs : Array α} (h : cs.size = 5) : ∃ c0 c1 c2 c3 c4, cs = #[c0, c1, c2, c3, c4] := by
  obtain ⟨l⟩ := cs
  match l, h with
  | [c0, c1, c2, c3, c4], _ => exact ⟨c0, c1, c2, c3, c4, rfl⟩
theorem trod_struct5 {H : Type} {enc : TypeId × Value → H} {P : Program} {w : World} {base : Nat} {spare : Nat → Bool} {held : Bool} {t : TypeId} {f0 f1 f2 f3 f4 : Field} {fuel : Nat} {cs : List Value} {x : DataW H × List MemPlace} (ht : P.underlying t = some (.struct #[f0, f1, f2, f3, f4])) (h : DataW.trod enc P w base spare held fuel t cs = some x) :
    ∃ y0 y1 y2 y3 y4 n, DataW.trod enc P w base spare held n f0.type ((cs.drop f0.offset).take (P.cellsOf f0.type)) = some y0 ∧
      DataW.trod enc P w base spare held n f1.type ((cs.drop f1.offset).take (P.cellsOf f1.type)) = some y1 ∧ DataW.trod enc P w base spare held n f2.type ((cs.drop f2.offset).take (P.cellsOf f2.type)) = some y2 ∧
      DataW.trod enc P w base spare held n f3.type ((cs.drop f3.offset).take (P.cellsOf f3.type)) = some y3 ∧ DataW.trod enc P w base spare held n f4.type ((cs.drop f4.offset).take (P.cellsOf f4.type)) = some y4 := by
  obtain ⟨xs, n, _, rfl, hl, hlen, hf⟩ := DataW.trod_struct ht h
  match xs, hlen with
  | [y0, y1, y2, y3, y4], _ => exact ⟨y0, y1, y2, y3, y4, n, by simpa using hf 0 f0 rfl, by simpa using hf 1 f1 rfl, by simpa using hf 2 f2 rfl, by simpa using hf 3 f3 rfl, by simpa using hf 4 f4 rfl⟩
theorem open_agg5 {H : Type} {enc : TypeId × Value → H} {P : Program} {w : World} {base : Nat} {spare : Nat → Bool} {held : Bool} {r : Reach} {b0 : Nat} {t : TypeId} {f0 f1 f2 f3 f4 : Field} {v : Value} {d : DataW H} {p : List MemPlace} (hs : P.underlying t = some (.struct #[f0, f1, f2, f3, f4])) (hone : oneCellFields P #[f0, f1, f2, f3, f4] = true) (hC : P.cellsOf t = 5)
    (hv : Value.okWide P w r b0 t v) (h : DataW.Trod enc P w base spare held t v d p) :
    ∃ (v0 v1 v2 v3 v4 : Value) (y0 y1 y2 y3 y4 : DataW H × List MemPlace) (n : Nat), v = .agg #[v0, v1, v2, v3, v4] ∧
      DataW.trod enc P w base spare held n f0.type [v0] = some y0 ∧ DataW.trod enc P w base spare held n f1.type [v1] = some y1 ∧ DataW.trod enc P w base spare held n f2.type [v2] = some y2 ∧ DataW.trod enc P w base spare held n f3.type [v3] = some y3 ∧ DataW.trod enc P w base spare held n f4.type [v4] = some y4 := by
  obtain ⟨cs, rfl, hsz⟩ := okWide_struct hs hv
  obtain ⟨c0, c1, c2, c3, c4, rfl⟩ := array5 (hsz.trans hC)
  obtain ⟨fuel, hf⟩ := h
  obtain ⟨y0, y1, y2, y3, y4, n, h0, h1, h2, h3, h4⟩ := trod_struct5 hs hf
  obtain ⟨o0, k0⟩ := hone_of hone 0 f0 rfl
  obtain ⟨o1, k1⟩ := hone_of hone 1 f1 rfl
  obtain ⟨o2, k2⟩ := hone_of hone 2 f2 rfl
  obtain ⟨o3, k3⟩ := hone_of hone 3 f3 rfl
  obtain ⟨o4, k4⟩ := hone_of hone 4 f4 rfl
  exact ⟨c0, c1, c2, c3, c4, y0, y1, y2, y3, y4, n, rfl, by simpa [Value.cells, o0, k0] using h0, by simpa [Value.cells, o1, k1] using h1, by simpa [Value.cells, o2, k2] using h2, by simpa [Value.cells, o3, k3] using h3, by simpa [Value.cells, o4, k4] using h4⟩
/-! ### szOp, toOp, szRowS -/
def SizedB (rs : List RowD) (w : World) (e : Ending) (w' : World) : Prop := ∃ z : Int, e = .returned (.int .i64 z) ∧ (z < 0 ∨ (0 ≤ z ∧ z ≤ 1048576 ∧ rs.length ≤ 1048576)) ∧ Below w.heap.size w w'
end Go.Proofs.YtclhjgcapalniaaDoor
/-
  Contract of the program's OpOk: it answers as the model's. Conditions: the table 'creators' holds what its initialiser lays; the text is not too long.
-/
namespace Go.Proofs.YtclhjgcapalniaaDoor
open Go.ChangeShapes Go.WideShapes Go.ChangeAt Go.RowKit Go.Joins

theorem implOpOk_any (o : OpD) (w : World) (ht : Tab w) (hs : o.txt.size ≤ maxLen) :
    Calls Tryd.prog 16 #[.agg #[.int .i64 o.kind, .int .i64 o.id, .int .i64 o.up, .int .i64 o.at_, .string o.txt]] w (RetBelow (.bool (opokB o)) w) := by
  have hb : Below w.heap.size w (w.alloc (.cells #[.int .i64 o.kind, .int .i64 o.id, .int .i64 o.up, .int .i64 o.at_, .string o.txt] 27)) := (Below.refl _ _).alloc (Nat.le_refl _) _
  have HC := Lib.hid (changeOf_any o _ (ht.below hb ht.pos) hs)
  generalize chR o = v at *
  generalize opokB o = ok at *
  go_enter Tryd.func16, Tryd.ntmps16
  go_wp2_with fail
  refine HC.out.mono ?_
  rintro e w1 ⟨rfl, hb1⟩
  go_wp2
  go_ret
  exact ⟨rfl, hb.trans (hb1.mono hb.size)⟩
end Go.Proofs.YtclhjgcapalniaaDoor
/-
  Contracts of the model's EntryOk, l12Seq, LogOk, LogSeq. Conditions: as each theorem says.
-/
namespace Go.Proofs.YtclhjgcapalniaaDoor
open Go.ChangeShapes Go.WideShapes Go.ChangeAt Go.RowKit Go.Joins

theorem l12Seq_any (B : Nat) (a : Option Addr) (cap : Nat) (es : List EntD) (who : Int) (n : Nat) (w : World) (h : EntsAt B w a es) (hn : n ≤ es.length) (hl : es.length ≤ 1048576) :
    Calls Tryd.prog 62 #[.slice a n cap, .int .i64 who] w fun e w' => e = .returned (.int .i64 (cntTo es who n : Int)) ∧ w = w' := by
  go_enter Tryd.func62, Tryd.ntmps62
  go_wp2
  go_loop [5, 6] (fun m i => ∃ k : Nat, k ≤ n ∧ i = .int .i64 k ∧ m = .int .i64 (cntTo es who k : Int)) (fun _ i => n - (intOf i).toNat)
  case atStart => exact ⟨0, Nat.zero_le _, rfl, rfl⟩
  case round =>
    obtain ⟨k, hk, rfl, rfl⟩ := hrel
    have hc := cntTo_le es who k
    have HC := Lib.hid (cntTo_succ es who k)
    generalize hcv : cntTo es who k = c at *
    have HV := Lib.hid hcv
    clear hcv
    by_cases hlt : k < n
    · obtain ⟨b, off, rfl, hB, c0, c1, c2, c3, c4, c5, c6⟩ := h.at_ (show k < es.length by omega)
      have i1 : (k : Int) < (n : Int) := by omega
      by_cases he : (eat es k).who = who
      · have HC' : Hid (cntTo es who (k + 1) = c + 1) := by unfold Hid; rw [HC.out, if_pos he]
        rw [he] at c0
        clear HC he c1 c2 c3 c4 c5 c6
        go_wp2
        go_round
        case rel => exact ⟨k + 1, by omega, by go_num, by rw [HC'.out]; go_num⟩
        case measure => simp [intOf]; omega
      · have HC' : Hid (cntTo es who (k + 1) = c) := by unfold Hid; rw [HC.out, if_neg he]; rfl
        clear HC c1 c2 c3 c4 c5 c6
        go_wp2
        go_round
        case rel => exact ⟨k + 1, by omega, by go_num, by rw [HC'.out]⟩
        case measure => simp [intOf]; omega
    · obtain rfl : k = n := by omega
      go_wp2
      go_ret
      exact ⟨by rw [HV.out]; rfl, rfl⟩
theorem id_div {o : OpD} (h : opokB o = true) : o.id / 10 = whoI o.id ∧ 1 ≤ o.id ∧ o.id ≤ 36 := by
  have hm : madeB o.id = true := by
    unfold opokB at h
    split at h
    · simp only [Bool.and_eq_true] at h; exact h.1.1
    · split at h
      · simp only [Bool.and_eq_true] at h; exact h.1.2
      · split at h
        · simp only [Bool.and_eq_true] at h; exact h.1.2
        · cases h
  have hb := (madeB_iff _).1 hm
  exact ⟨by unfold whoI; rw [if_pos hm], by omega, by omega⟩
set_option maxRecDepth 100000 in
set_option maxHeartbeats 1000000 in
theorem specEntryOk_any (e : EntD) (w : World) (hf : EFit e) :
    Calls Tryd.prog 61 #[.agg #[.int .i64 e.who, .int .i64 e.seq, .int .i64 e.op.kind, .int .i64 e.op.id, .int .i64 e.op.up, .int .i64 e.op.at_, .string e.op.txt]] w (RetBelow (.bool (entB e)) w) := by
  have hb : Below w.heap.size w (w.alloc (.cells #[.int .i64 e.who, .int .i64 e.seq, .int .i64 e.op.kind, .int .i64 e.op.id, .int .i64 e.op.up, .int .i64 e.op.at_, .string e.op.txt] 64)) := (Below.refl _ _).alloc (Nat.le_refl _) _
  cases hw : inB e.who 1 3
  · have HE : Hid (entB e = false) := by unfold Hid entB; rw [hw]; rfl
    rw [HE.out]; clear HE
    go_enter Tryd.func61, Tryd.ntmps61
    go_wp2_with fail
    refine (l6In_any _ _ _ _).mono ?_
    rintro _ _ ⟨rfl, rfl⟩
    rw [hw]
    go_wp2
    go_ret
    exact ⟨rfl, hb⟩
  · cases hs : inB e.seq 1 40
    · have HE : Hid (entB e = false) := by unfold Hid entB; rw [hw, hs]; rfl
      rw [HE.out]; clear HE
      go_enter Tryd.func61, Tryd.ntmps61
      go_wp2_with fail
      refine (l6In_any _ _ _ _).mono ?_
      rintro _ _ ⟨rfl, rfl⟩
      rw [hw]
      go_wp2_with fail
      refine (l6In_any _ _ _ _).mono ?_
      rintro _ _ ⟨rfl, rfl⟩
      rw [hs]
      go_wp2
      go_ret
      exact ⟨rfl, hb⟩
    · cases ho : opokB e.op
      · have HE : Hid (entB e = false) := by unfold Hid entB; rw [hw, hs, ho]; rfl
        rw [HE.out]; clear HE
        go_enter Tryd.func61, Tryd.ntmps61
        go_wp2_with fail
        refine (l6In_any _ _ _ _).mono ?_
        rintro _ _ ⟨rfl, rfl⟩
        rw [hw]
        go_wp2_with fail
        refine (l6In_any _ _ _ _).mono ?_
        rintro _ _ ⟨rfl, rfl⟩
        rw [hs]
        go_wp2_with fail
        refine (specOpOk_any e.op _ hf.op).mono ?_
        rintro _ w1 ⟨rfl, hb1⟩
        rw [ho]
        go_wp2
        go_ret
        exact ⟨rfl, hb.trans (hb1.mono hb.size)⟩
      · obtain ⟨hd, hd1, hd2⟩ := id_div ho
        have HE : Hid (entB e = mineB e) := by unfold Hid entB; rw [hw, hs, ho]; rfl
        rw [HE.out]; clear HE
        have HD := Lib.hid hd
        have HM : Hid (mineB e = (!(e.op.kind == 1) || (e.op.id / 10 == e.who))) := by unfold Hid mineB; rw [hd]
        rw [HM.out]; clear HM hd
        by_cases hk : e.op.kind = 1
        · have HK : Hid ((!(e.op.kind == 1) || (e.op.id / 10 == e.who)) = (e.op.id / 10 == e.who)) := by unfold Hid; rw [hk]; rfl
          rw [HK.out]; clear HK
          have hkb : (e.op.kind != 1) = false := by rw [hk]; rfl
          clear hk
          go_enter Tryd.func61, Tryd.ntmps61
          go_wp2_with fail
          refine (l6In_any _ _ _ _).mono ?_
          rintro _ _ ⟨rfl, rfl⟩
          rw [hw]
          go_wp2_with fail
          refine (l6In_any _ _ _ _).mono ?_
          rintro _ _ ⟨rfl, rfl⟩
          rw [hs]
          go_wp2_with fail
          refine (specOpOk_any e.op _ hf.op).mono ?_
          rintro _ w1 ⟨rfl, hb1⟩
          rw [ho]
          have k0 := hb1.cell (p := ⟨w.heap.size, 0, none⟩) (by simp)
          have k2 := hb1.cell (p := ⟨w.heap.size, 2, none⟩) (by simp)
          have k3 := hb1.cell (p := ⟨w.heap.size, 3, none⟩) (by simp)
          simp [go_sem] at k0 k2 k3
          go_wp2
          go_ret
          exact ⟨rfl, hb.trans (hb1.mono hb.size)⟩
        · have HK : Hid ((!(e.op.kind == 1) || (e.op.id / 10 == e.who)) = true) := by unfold Hid; simp [hk]
          rw [HK.out]; clear HK
          have hkb : (e.op.kind != 1) = true := by simpa using hk
          clear hk
          go_enter Tryd.func61, Tryd.ntmps61
          go_wp2_with fail
          refine (l6In_any _ _ _ _).mono ?_
          rintro _ _ ⟨rfl, rfl⟩
          rw [hw]
          go_wp2_with fail
          refine (l6In_any _ _ _ _).mono ?_
          rintro _ _ ⟨rfl, rfl⟩
          rw [hs]
          go_wp2_with fail
          refine (specOpOk_any e.op _ hf.op).mono ?_
          rintro _ w1 ⟨rfl, hb1⟩
          rw [ho]
          have k2 := hb1.cell (p := ⟨w.heap.size, 2, none⟩) (by simp)
          simp [go_sem] at k2
          go_wp2
          go_ret
          exact ⟨rfl, hb.trans (hb1.mono hb.size)⟩
end Go.Proofs.YtclhjgcapalniaaDoor
/-
  Contracts of the program's EntryOk and of its counting map. Conditions: as each theorem says.
-/
namespace Go.Proofs.YtclhjgcapalniaaDoor
open Go.ChangeShapes Go.WideShapes Go.ChangeAt Go.RowKit Go.Joins

set_option maxHeartbeats 1000000 in
theorem implEntryOk_any (e : EntD) (w : World) (ht : Tab w) (hf : EFit e) :
    Calls Tryd.prog 100 #[.agg #[.int .i64 e.who, .int .i64 e.seq, .int .i64 e.op.kind, .int .i64 e.op.id, .int .i64 e.op.up, .int .i64 e.op.at_, .string e.op.txt]] w (RetBelow (.bool (entB e)) w) := by
  have hb : Below w.heap.size w (w.alloc (.cells #[.int .i64 e.who, .int .i64 e.seq, .int .i64 e.op.kind, .int .i64 e.op.id, .int .i64 e.op.up, .int .i64 e.op.at_, .string e.op.txt] 64)) := (Below.refl _ _).alloc (Nat.le_refl _) _
  cases hw : inB e.who 1 3
  · have HE : Hid (entB e = false) := by unfold Hid entB; rw [hw]; rfl
    rw [HE.out]; clear HE
    go_enter Tryd.func100, Tryd.ntmps100
    go_wp2_with fail
    refine (isClient_any _ _).mono ?_
    rintro _ _ ⟨rfl, rfl⟩
    rw [hw]
    go_wp2
    go_ret
    exact ⟨rfl, hb⟩
  · by_cases h1 : 1 ≤ e.seq
    · by_cases h2 : e.seq ≤ 40
      · have hs : inB e.seq 1 40 = true := (inB_iff _ _ _).2 ⟨h1, h2⟩
        cases ho : opokB e.op
        · have HE : Hid (entB e = false) := by unfold Hid entB; rw [hw, hs, ho]; rfl
          rw [HE.out]; clear HE
          go_enter Tryd.func100, Tryd.ntmps100
          go_wp2_with fail
          refine (isClient_any _ _).mono ?_
          rintro _ _ ⟨rfl, rfl⟩
          rw [hw]
          go_wp2_with fail
          refine (implOpOk_any e.op _ (ht.below hb ht.pos) hf.op.txt).mono ?_
          rintro _ w1 ⟨rfl, hb1⟩
          have hb2 := hb.trans (hb1.mono hb.size)
          rw [ho]
          go_wp2
          go_ret
          exact ⟨rfl, hb2⟩
        · obtain ⟨_, hd1, hd2⟩ := id_div ho
          have HE : Hid (entB e = mineB e) := by unfold Hid entB; rw [hw, hs, ho]; rfl
          rw [HE.out]; clear HE
          clear hs
          by_cases hk : e.op.kind = 1
          · have HK : Hid (mineB e = (whoI e.op.id == e.who)) := by unfold Hid mineB; rw [hk]; rfl
            rw [HK.out]; clear HK
            have hkb : (e.op.kind != 1) = false := by first | (rw [hk]; rfl) | simpa using hk
            clear hk
            go_enter Tryd.func100, Tryd.ntmps100
            go_wp2_with fail
            refine (isClient_any _ _).mono ?_
            rintro _ _ ⟨rfl, rfl⟩
            rw [hw]
            go_wp2_with fail
            refine (implOpOk_any e.op _ (ht.below hb ht.pos) hf.op.txt).mono ?_
            rintro _ w1 ⟨rfl, hb1⟩
            have hb2 := hb.trans (hb1.mono hb.size)
            rw [ho]
            have k0 := hb1.cell (p := ⟨w.heap.size, 0, none⟩) (by simp)
            have k2 := hb1.cell (p := ⟨w.heap.size, 2, none⟩) (by simp)
            have k3 := hb1.cell (p := ⟨w.heap.size, 3, none⟩) (by simp)
            simp [go_sem] at k0 k2 k3
            go_wp2_with fail
            refine (implRowWho_any _ _ (ht.below hb2 ht.pos)).mono ?_
            rintro _ _ ⟨rfl, rfl⟩
            go_wp2
            go_ret
            exact ⟨rfl, hb2⟩
          · have HK : Hid (mineB e = true) := by unfold Hid mineB; simp [hk]
            rw [HK.out]; clear HK
            have hkb : (e.op.kind != 1) = true := by first | (rw [hk]; rfl) | simpa using hk
            clear hk
            go_enter Tryd.func100, Tryd.ntmps100
            go_wp2_with fail
            refine (isClient_any _ _).mono ?_
            rintro _ _ ⟨rfl, rfl⟩
            rw [hw]
            go_wp2_with fail
            refine (implOpOk_any e.op _ (ht.below hb ht.pos) hf.op.txt).mono ?_
            rintro _ w1 ⟨rfl, hb1⟩
            have hb2 := hb.trans (hb1.mono hb.size)
            rw [ho]
            have k2 := hb1.cell (p := ⟨w.heap.size, 2, none⟩) (by simp)
            have k3 := hb1.cell (p := ⟨w.heap.size, 3, none⟩) (by simp)
            simp [go_sem] at k2 k3
            go_wp2_with fail
            refine (implRowWho_any _ _ (ht.below hb2 ht.pos)).mono ?_
            rintro _ _ ⟨rfl, rfl⟩
            go_wp2
            go_ret
            exact ⟨rfl, hb2⟩
      · have HE : Hid (entB e = false) := by unfold Hid entB; rw [show inB e.seq 1 40 = false by simp [inB, h2]]; simp
        rw [HE.out]; clear HE
        go_enter Tryd.func100, Tryd.ntmps100
        go_wp2_with fail
        refine (isClient_any _ _).mono ?_
        rintro _ _ ⟨rfl, rfl⟩
        rw [hw]
        go_wp2
        go_ret
        exact ⟨rfl, hb⟩
    · have HE : Hid (entB e = false) := by unfold Hid entB; rw [show inB e.seq 1 40 = false by simp [inB, h1]]; simp
      rw [HE.out]; clear HE
      go_enter Tryd.func100, Tryd.ntmps100
      go_wp2_with fail
      refine (isClient_any _ _).mono ?_
      rintro _ _ ⟨rfl, rfl⟩
      rw [hw]
      go_wp2
      go_ret
      exact ⟨rfl, hb⟩

/-! ### the map of counts -/
open Go.Maps
theorem lawInt : Keyed Tryd.prog 3 := int_keyed Tryd.underlying3
theorem zeroInt (w : World) : (zeroValue 3).run Tryd.prog w = .ok (.int .i64 0) w := by kernel_rfl
/-- Block b is a map of at most n entries; at every key it counts c. -/
def CMap (w : World) (b n : Nat) (c : Int → Int) : Prop := ∃ D : DataW Unit, w.ownsMap Tryd.prog 3 (plainElem Tryd.prog 3) b n D ∧ ∀ x, D.atKey (.int .i64 x) (.lit (.int .i64 0)) = .lit (.int .i64 (c x))
def bump (c : Int → Int) (key : Int) (x : Int) : Int := if x = key then c key + 1 else c x
theorem CMap.made (w : World) : CMap (w.alloc (.map #[] 0)) w.heap.size 0 (fun _ => 0) := ⟨.map [], World.ownsMap_made _ _ _ _, fun _ => rfl⟩
theorem CMap.lt {w : World} {b n : Nat} {c : Int → Int} (h : CMap w b n c) : b < w.heap.size := by obtain ⟨D, h1, _⟩ := h; exact h1.lt
theorem CMap.block {w w' : World} {b n : Nat} {c : Int → Int} (h : CMap w b n c) (hb : w'.heap[b]? = w.heap[b]?) : CMap w' b n c := by
  obtain ⟨D, ⟨es, clock, h1, h2⟩, h3⟩ := h
  exact ⟨D, ⟨es, clock, hb.trans h1, h2⟩, h3⟩
theorem CMap.below {w w' : World} {b n B : Nat} {c : Int → Int} (h : CMap w b n c) (hb : Below B w w') (hB : b < B) : CMap w' b n c := h.block (hb.block b hB)
theorem CMap.congr {w : World} {b n : Nat} {c c' : Int → Int} (h : CMap w b n c) (hc : ∀ x, c x = c' x) : CMap w b n c' := by
  obtain ⟨D, h1, h3⟩ := h
  exact ⟨D, h1, fun x => by rw [← hc x]; exact h3 x⟩
theorem lit_inj {x y : Int} (h : (DataW.lit (.int .i64 x) : DataW Unit) = .lit (.int .i64 y)) : x = y := by injection h with h; injection h
theorem isMap_own {w : World} {b n : Nat} {D : DataW Unit} (h : w.ownsMap Tryd.prog 3 (plainElem Tryd.prog 3) b n D) : IsMap D := by
  obtain ⟨es, clock, _, _, _, rfl⟩ := h
  exact ⟨_, rfl⟩
theorem wf_key {k : Int} (h : I64 k) : (Lit.int .i64 k).wf = true := WalkArith.wf_i64 h
set_option maxRecDepth 100000 in
theorem tallyAdd_any (b n : Nat) (c : Int → Int) (key : Int) (w : World) (h : CMap w b n c) (hk : I64 key) (hc0 : 0 ≤ c key) (hc1 : c key ≤ 1000) (hn : n ≤ 1000) :
    Calls Tryd.prog 103 #[.map (some b), .int .i64 key] w fun e w' => e = .returned (.int .i64 (c key + 1)) ∧ CMap w' b (n + 1) (bump c key) ∧ But b w.heap.size w w' := by
  obtain ⟨D, hown, hat⟩ := h
  have hkey : keyOf Tryd.prog 3 (.int .i64 key) = some (.int .i64 key) := keyOf_int_mk Tryd.underlying3 (wf_key hk)
  go_enter Tryd.func103, Tryd.ntmps103
  go_wp2_with (first
    | (at_lookup; refine wpList_lookup_own_int _ rfl _ _ 110 rfl 3 3 .i64 lawInt Tryd.underlying110 Tryd.underlying3 (zeroInt _) b (n + 1) _ rfl hown1 _ _ rfl hkey ?_; intro c2 hat2 hwc2)
    | (at_lookup; refine wpList_lookup_own_int _ rfl _ _ 110 rfl 3 3 .i64 lawInt Tryd.underlying110 Tryd.underlying3 (zeroInt _) b n _ rfl hown _ _ rfl hkey ?_; intro c1 hat1 hwc1; obtain rfl : c1 = c key := lit_inj (hat1.symm.trans (hat key)))
    | (at_mapUpdate; refine wpList_mapUpdate_own _ rfl _ _ _ 110 rfl 3 3 lawInt Tryd.underlying110 _ b n _ rfl hown (by unfold maxLen; omega) _ _ _ rfl rfl hkey _ [] (plainElem_int Tryd.underlying3 (show (Lit.int .i64 (c key + 1)).wf = true from WalkArith.wf_i64 (by omega))) ?_; intro w1 hown1 hgrow1)
    | go_in)
  go_ret
  have hm := isMap_own hown
  rw [atKey_put_same hm (k := .int .i64 key) trivial] at hat2
  have e2 := lit_inj hat2
  refine ⟨by rw [← e2]; rfl, ⟨_, hown1, fun x => ?_⟩, hgrow1.os, hgrow1.tape, hgrow1.output, hgrow1.size, fun i hi hne => hgrow1.block i hi (by simpa using hne)⟩
  unfold bump
  by_cases hx : x = key
  · subst hx; rw [if_pos rfl, atKey_put_same hm (k := .int .i64 x) trivial]
  · rw [if_neg hx, atKey_put_other (by intro q; injection q with q1 q2; exact hx q2)]; exact hat x
end Go.Proofs.YtclhjgcapalniaaDoor
/-
  Contracts of the model's LogOk and LogSeq. Conditions: as each theorem says.
-/
namespace Go.Proofs.YtclhjgcapalniaaDoor
open Go.ChangeShapes Go.WideShapes Go.ChangeAt Go.RowKit Go.Joins

theorem lstep_bad {es : List EntD} {k : Nat} (hk : k < es.length) (h : entB (eat es k) = false) : logB es = false := logB_bad hk (by unfold estepB; rw [h]; rfl)
theorem lstep_bad2 {es : List EntD} {k : Nat} (hk : k < es.length) (h : ¬ (eat es k).seq = (cntTo es (eat es k).who k : Int) + 1) : logB es = false := logB_bad hk (by unfold estepB; rw [beq_eq_false_iff_ne.2 h, Bool.and_false])
theorem lstep_good {es : List EntD} {k : Nat} (hp : logTo es k = true) (h : entB (eat es k) = true) (h2 : (eat es k).seq = (cntTo es (eat es k).who k : Int) + 1) : logTo es (k + 1) = true := by
  rw [logTo_succ, hp]; unfold estepB; rw [h, h2]; simp
set_option maxRecDepth 100000 in
set_option maxHeartbeats 4000000 in
theorem specLogOk_any (B : Nat) (a : Option Addr) (cap : Nat) (es : List EntD) (w : World) (hB : B ≤ w.heap.size) (h : EntsAt B w a es) (hf : EntsFit es) (hcap : es.length ≤ cap) (hcm : cap ≤ maxLen) :
    Calls Tryd.prog 26 #[.slice a es.length cap] w (RetBelow (.bool (logB es)) w) := by
  have hl := hf.1
  unfold maxLen at hcm
  go_enter Tryd.func26, Tryd.ntmps26
  go_wp2_with fail
  go_loopw [3] (fun t wr => ∃ k : Nat, k ≤ es.length ∧ t = .int .i64 k ∧ Hid (logTo es k = true) ∧ Below w.heap.size w wr) (fun t _ => es.length - (intOf t).toNat)
  case atStart => exact ⟨0, Nat.zero_le _, rfl, logTo_zero es, Below.refl _ _⟩
  case round =>
    obtain ⟨k, hk, rfl, hp, hb⟩ := hrel
    have hr := h.below (hb.mono hB)
    by_cases hlt : k < es.length
    · have HS : Hid (∀ x : Later wr, Calls Tryd.prog 62 #[.slice a k cap, .int .i64 (eat es k).who] x.x (fun e w' => e = .returned (.int .i64 (cntTo es (eat es k).who k : Int)) ∧ x.x = w')) := fun x => l12Seq_any B a cap es _ k x.x (hr.below (x.h.mono (Nat.le_trans hB hb.size))) hk hl
      have HE : Hid (∀ x : Later wr, Calls Tryd.prog 61 #[.agg #[.int .i64 (eat es k).who, .int .i64 (eat es k).seq, .int .i64 (eat es k).op.kind, .int .i64 (eat es k).op.id, .int .i64 (eat es k).op.up, .int .i64 (eat es k).op.at_, .string (eat es k).op.txt]] x.x (RetBelow (.bool (entB (eat es k))) x.x)) := fun x => specEntryOk_any (eat es k) x.x (hf.2 k hlt)
      have HB1 : Hid (entB (eat es k) = false → logB es = false) := fun q => lstep_bad hlt q
      have HB2 : Hid (¬ (eat es k).seq = (cntTo es (eat es k).who k : Int) + 1 → logB es = false) := fun q => lstep_bad2 hlt q
      have HB3 : Hid (entB (eat es k) = true → (eat es k).seq = (cntTo es (eat es k).who k : Int) + 1 → logTo es (k + 1) = true) := fun q q' => lstep_good hp.out q q'
      have hcn := cntTo_le es (eat es k).who k
      obtain ⟨b, off, rfl, hbB, c0, c1, c2, c3, c4, c5, c6⟩ := hr.at_ hlt
      have i1 : (k : Int) < (es.length : Int) := by omega
      have i2 : (k : Int) ≤ (cap : Int) := by omega
      have hbw : b < wr.heap.size := by have := hb.size; omega
      have L0 := later_cell c0 hbw
      have L1 := later_cell c1 hbw
      have L2 := later_cell c2 hbw
      have L3 := later_cell c3 hbw
      have L4 := later_cell c4 hbw
      have L5 := later_cell c5 hbw
      have L6 := later_cell c6 hbw
      generalize entB (eat es k) = eb at *
      generalize cntTo es (eat es k).who k = cn at *
      generalize eat es k = e at *
      clear hp hr c0 c1 c2 c3 c4 c5 c6
      cases eb
      · rw [HB1.out rfl]
        go_wp2_with fail
        refine wp_region_later (by kernel_rfl) (by kernel_rfl) ?_
        repeat (go_big_quiet_step (first | (go_at_call 61; exact later_of (HE.out _)) | (go_at_call 62; exact later_same (HS.out _))))
        refine wpQuiet_nil ?_
        rintro wn ⟨⟨_, hbn⟩, rfl⟩
        clear L0 L1 L2 L3 L4 L5 L6
        go_wp2
        go_ret
        exact ⟨rfl, hb.trans (hbn.mono hb.size)⟩
      · by_cases hq : e.seq = (cn : Int) + 1
        · have HP := Lib.hid (HB3.out rfl hq)
          have hqb : (e.seq != (cn : Int) + 1) = false := by rw [hq]; simp
          clear HB1 HB2 HB3 hq
          go_wp2_with fail
          refine wp_region_later (by kernel_rfl) (by kernel_rfl) ?_
          repeat (go_big_quiet_step (first | (go_at_call 61; exact later_of (HE.out _)) | (go_at_call 62; exact later_same (HS.out _))))
          refine wpQuiet_nil ?_
          rintro wn ⟨⟨_, hbn⟩, rfl⟩
          clear L0 L1 L2 L3 L4 L5 L6
          go_wp2
          go_roundw
          case rel => exact ⟨k + 1, by omega, by go_num, HP, hb.trans (hbn.mono hb.size)⟩
          case measure => simp [intOf]; omega
        · rw [HB2.out hq]
          clear HB1 HB2 HB3
          go_wp2_with fail
          refine wp_region_later (by kernel_rfl) (by kernel_rfl) ?_
          repeat (go_big_quiet_step (first | (go_at_call 61; exact later_of (HE.out _)) | (go_at_call 62; exact later_same (HS.out _))))
          refine wpQuiet_nil ?_
          rintro wn ⟨⟨_, hbn⟩, rfl⟩
          clear L0 L1 L2 L3 L4 L5 L6
          go_wp2
          go_ret
          exact ⟨rfl, hb.trans (hbn.mono hb.size)⟩
    · obtain rfl : k = es.length := by omega
      have HL : Hid (logB es = decide ((es.length : Int) ≤ 40)) := by
        unfold Hid logB; rw [hp.out, Bool.true_and]
        exact decide_eq_decide.2 (by omega)
      go_wp2
      go_ret
      exact ⟨by rw [HL.out]; rfl, hb⟩
end Go.Proofs.YtclhjgcapalniaaDoor
/-
  Contracts of the program's countLog, LogOk and LogSeq. Conditions: as each theorem says.
-/
namespace Go.Proofs.YtclhjgcapalniaaDoor
open Go.ChangeShapes Go.WideShapes Go.ChangeAt Go.RowKit Go.Joins

def cntI (es : List EntD) (k : Nat) (x : Int) : Int := (cntTo es x k : Int)
def RetCount (es : List EntD) (w : World) (e : Ending) (w' : World) : Prop :=
  Below w.heap.size w w' ∧ ((logB es = true ∧ ∃ b, e = .returned (.tuple #[.map (some b), .bool true]) ∧ w.heap.size ≤ b ∧ CMap w' b es.length (cntI es es.length)) ∨ (logB es = false ∧ e = .returned (.tuple #[.map none, .bool false])))
theorem bump_cnt (es : List EntD) (k : Nat) (x : Int) : bump (cntI es k) (eat es k).who x = cntI es (k + 1) x := by
  unfold bump cntI
  rw [cntTo_succ]
  by_cases h : x = (eat es k).who
  · subst h; simp
  · rw [if_neg h, if_neg (fun q => h q.symm)]; rfl
theorem ebox_later (w : World) (e : EntD) : let W := w.alloc (.cells #[.int .i64 e.who, .int .i64 e.seq, .int .i64 e.op.kind, .int .i64 e.op.id, .int .i64 e.op.up, .int .i64 e.op.at_, .string e.op.txt] 64);
    (∀ x : Later W, x.x.cell? ⟨w.heap.size, 0, none⟩ = some (.int .i64 e.who)) ∧ (∀ x : Later W, x.x.cell? ⟨w.heap.size, 1, none⟩ = some (.int .i64 e.seq)) ∧ (∀ x : Later W, x.x.cell? ⟨w.heap.size, 2, none⟩ = some (.int .i64 e.op.kind)) ∧ (∀ x : Later W, x.x.cell? ⟨w.heap.size, 3, none⟩ = some (.int .i64 e.op.id)) ∧ (∀ x : Later W, x.x.cell? ⟨w.heap.size, 4, none⟩ = some (.int .i64 e.op.up)) ∧ (∀ x : Later W, x.x.cell? ⟨w.heap.size, 5, none⟩ = some (.int .i64 e.op.at_)) ∧ (∀ x : Later W, x.x.cell? ⟨w.heap.size, 6, none⟩ = some (.string e.op.txt)) :=
  ⟨later_cell (by simp [go_sem]) (by simp), later_cell (by simp [go_sem]) (by simp), later_cell (by simp [go_sem]) (by simp), later_cell (by simp [go_sem]) (by simp), later_cell (by simp [go_sem]) (by simp), later_cell (by simp [go_sem]) (by simp), later_cell (by simp [go_sem]) (by simp)⟩
theorem ebox_new (w : World) (e : EntD) : let W := w.alloc (.cells #[.int .i64 e.who, .int .i64 e.seq, .int .i64 e.op.kind, .int .i64 e.op.id, .int .i64 e.op.up, .int .i64 e.op.at_, .string e.op.txt] 64);
    ∀ x : World, Below W.heap.size W x → x.cell? ⟨w.heap.size, 0, none⟩ = some (.int .i64 e.who) ∧ x.cell? ⟨w.heap.size, 1, none⟩ = some (.int .i64 e.seq) ∧ x.cell? ⟨w.heap.size, 2, none⟩ = some (.int .i64 e.op.kind) ∧ x.cell? ⟨w.heap.size, 3, none⟩ = some (.int .i64 e.op.id) ∧ x.cell? ⟨w.heap.size, 4, none⟩ = some (.int .i64 e.op.up) ∧ x.cell? ⟨w.heap.size, 5, none⟩ = some (.int .i64 e.op.at_) ∧ x.cell? ⟨w.heap.size, 6, none⟩ = some (.string e.op.txt) := by
  intro W x hx
  have hc : ∀ j, x.cell? ⟨w.heap.size, j, none⟩ = W.cell? ⟨w.heap.size, j, none⟩ := fun j => hx.cell (p := ⟨w.heap.size, j, none⟩) (by simp [W])
  refine ⟨?_, ?_, ?_, ?_, ?_, ?_, ?_⟩ <;> rw [hc] <;> simp [W, go_sem]
set_option maxRecDepth 100000 in
set_option maxHeartbeats 4000000 in
theorem countLog_any (B : Nat) (a : Option Addr) (cap : Nat) (es : List EntD) (w : World) (hB : B ≤ w.heap.size) (h : EntsAt B w a es) (hf : EntsFit es) (ht : Tab w) :
    Calls Tryd.prog 68 #[.slice a es.length cap] w (RetCount es w) := by
  have hz := ht.pos
  by_cases hlen : es.length ≤ 40
  · have i0 : (es.length : Int) ≤ 40 := by omega
    have hmm := @run_makeMap Tryd.prog
    go_enter Tryd.func68, Tryd.ntmps68
    go_wp2_with fail
    go_loopw [13] (fun t wr => ∃ k : Nat, k ≤ es.length ∧ t = .int .i64 k ∧ CMap wr w.heap.size k (cntI es k) ∧ Hid (logTo es k = true) ∧ Below w.heap.size w wr) (fun t _ => es.length - (intOf t).toNat)
    case atStart => exact ⟨0, Nat.zero_le _, rfl, CMap.made w, logTo_zero es, (Below.refl _ _).alloc (Nat.le_refl _) _⟩
    case round =>
      obtain ⟨k, hk, rfl, hM, hp, hb⟩ := hrel
      have hr := h.below (hb.mono hB)
      by_cases hlt : k < es.length
      · have hal : Below w.heap.size w (wr.alloc (.cells #[.int .i64 (eat es k).who, .int .i64 (eat es k).seq, .int .i64 (eat es k).op.kind, .int .i64 (eat es k).op.id, .int .i64 (eat es k).op.up, .int .i64 (eat es k).op.at_, .string (eat es k).op.txt] 64)) := hb.alloc hb.size _
        have HE : Hid (∀ x : World, Below w.heap.size w x → Calls Tryd.prog 100 #[.agg #[.int .i64 (eat es k).who, .int .i64 (eat es k).seq, .int .i64 (eat es k).op.kind, .int .i64 (eat es k).op.id, .int .i64 (eat es k).op.up, .int .i64 (eat es k).op.at_, .string (eat es k).op.txt]] x (RetBelow (.bool (entB (eat es k))) x)) := fun x hx => implEntryOk_any (eat es k) x (ht.below hx hz) (hf.2 k hlt)
        have HB1 : Hid (entB (eat es k) = false → logB es = false) := fun q => lstep_bad hlt q
        have HB2 : Hid (¬ (eat es k).seq = (cntTo es (eat es k).who k : Int) + 1 → logB es = false) := fun q => lstep_bad2 hlt q
        have HB3 : Hid (entB (eat es k) = true → (eat es k).seq = (cntTo es (eat es k).who k : Int) + 1 → logTo es (k + 1) = true) := fun q q' => lstep_good hp.out q q'
        have hcn := cntTo_le es (eat es k).who k
        have hwho := (hf.2 k hlt).who
        have HM : Hid (∀ x : World, CMap x w.heap.size k (cntI es k) → Calls Tryd.prog 103 #[.map (some w.heap.size), .int .i64 (eat es k).who] x (fun e w' => e = .returned (.int .i64 ((cntTo es (eat es k).who k : Int) + 1)) ∧ CMap w' w.heap.size (k + 1) (cntI es (k + 1)) ∧ But w.heap.size x.heap.size x w')) := fun x hx => by
          refine (tallyAdd_any _ _ _ _ x hx hwho (by unfold cntI; omega) (by unfold cntI; omega) (by omega)).mono ?_
          rintro e w' ⟨rfl, h1, h2⟩
          exact ⟨rfl, h1.congr (bump_cnt es k), h2⟩
        obtain ⟨b, off, rfl, hbB, c0, c1, c2, c3, c4, c5, c6⟩ := hr.at_ hlt
        have i1 : (k : Int) < (es.length : Int) := by omega
        have hMa := hM.below ((Below.refl wr.heap.size wr).alloc (Nat.le_refl _) (.cells #[.int .i64 (eat es k).who, .int .i64 (eat es k).seq, .int .i64 (eat es k).op.kind, .int .i64 (eat es k).op.id, .int .i64 (eat es k).op.up, .int .i64 (eat es k).op.at_, .string (eat es k).op.txt] 64)) hM.lt
        have hne : w.heap.size ≠ wr.heap.size := Nat.ne_of_lt hM.lt
        have HZ : Hid (∀ x : World, Below (wr.alloc (.cells #[.int .i64 (eat es k).who, .int .i64 (eat es k).seq, .int .i64 (eat es k).op.kind, .int .i64 (eat es k).op.id, .int .i64 (eat es k).op.up, .int .i64 (eat es k).op.at_, .string (eat es k).op.txt] 64)).drew.heap.size (wr.alloc (.cells #[.int .i64 (eat es k).who, .int .i64 (eat es k).seq, .int .i64 (eat es k).op.kind, .int .i64 (eat es k).op.id, .int .i64 (eat es k).op.up, .int .i64 (eat es k).op.at_, .string (eat es k).op.txt] 64)).drew x → wr.heap.size < x.heap.size) := fun x hx => Nat.lt_of_lt_of_le (by simp) hx.size
        have HMd : Hid (∀ x : World, Below (wr.alloc (.cells #[.int .i64 (eat es k).who, .int .i64 (eat es k).seq, .int .i64 (eat es k).op.kind, .int .i64 (eat es k).op.id, .int .i64 (eat es k).op.up, .int .i64 (eat es k).op.at_, .string (eat es k).op.txt] 64)).drew.heap.size (wr.alloc (.cells #[.int .i64 (eat es k).who, .int .i64 (eat es k).seq, .int .i64 (eat es k).op.kind, .int .i64 (eat es k).op.id, .int .i64 (eat es k).op.up, .int .i64 (eat es k).op.at_, .string (eat es k).op.txt] 64)).drew x → CMap x w.heap.size k (cntI es k)) := fun x hx => hMa.below (B := (wr.alloc (.cells #[.int .i64 (eat es k).who, .int .i64 (eat es k).seq, .int .i64 (eat es k).op.kind, .int .i64 (eat es k).op.id, .int .i64 (eat es k).op.up, .int .i64 (eat es k).op.at_, .string (eat es k).op.txt] 64)).heap.size) ((Below.refl _ _).drew.trans hx) (Nat.lt_of_lt_of_le hM.lt (by simp))
        have HX := Lib.hid (ebox_later wr (eat es k))
        have HN := Lib.hid (ebox_new wr (eat es k))
        generalize entB (eat es k) = eb at *
        generalize cntTo es (eat es k).who k = cn at *
        generalize eat es k = e at *
        clear hp hr hM hMa
        cases eb
        · obtain ⟨L0, L1, L2, L3, L4, L5, L6⟩ := HX.out
          have HL := Lib.hid (HB1.out rfl)
          clear HB1 HB2 HB3
          go_wp2_with fail
          refine wp_region_later (by kernel_rfl) (by kernel_rfl) ?_
          repeat (go_big_quiet_step ((go_at_call 100; exact later_of (HE.out _ (hal.trans ((Later.h _).mono hal.size))))))
          refine wpQuiet_nil ?_
          rintro wn ⟨⟨_, hbn⟩, rfl⟩
          clear L0 L1 L2 L3 L4 L5 L6
          go_wp2
          go_ret2
          exact ⟨hal.trans (hbn.mono hal.size), .inr ⟨HL.out, rfl⟩⟩
        · have hd : Below w.heap.size w ((wr.alloc (.cells #[.int .i64 e.who, .int .i64 e.seq, .int .i64 e.op.kind, .int .i64 e.op.id, .int .i64 e.op.up, .int .i64 e.op.at_, .string e.op.txt] 64)).drew) := hal.drew
          by_cases hq : e.seq = (cn : Int) + 1
          · have HP := Lib.hid (HB3.out rfl hq)
            have hqb : ((cn : Int) + 1 != e.seq) = false := by rw [hq]; simp
            clear HB1 HB2 HB3 hq
            obtain ⟨x0, x1, x2, x3, x4, x5, x6⟩ := HN.out _ ((Below.refl _ _).drew)
            go_wp2_with fail
            go_region_with (first
              | (go_at_call 100; refine (HE.out _ hd).mono ?_; rintro _ w1 ⟨rfl, hb1⟩; have hM1 := HMd.out w1 hb1; have hB1 := hd.trans (hb1.mono hd.size); obtain ⟨y0, y1, y2, y3, y4, y5, y6⟩ := HN.out w1 ((Below.refl _ _).drew.trans hb1))
              | (go_at_call 103; refine (HM.out _ hM1).mono ?_; rintro _ w2 ⟨rfl, hM2, hb2⟩; have hB2 := hB1.trans (hb2.below (Nat.le_refl _) hB1.size); have v1 := (hb2.cell (p := ⟨wr.heap.size, 1, none⟩) (HZ.out w1 hb1) (fun q => hne q.symm)).trans y1))
            all_goals
              go_wp2
              go_roundw
              case rel => exact ⟨k + 1, by omega, by go_num, hM2, HP, hB2⟩
              case measure => simp [intOf]; omega
          · have hqb : ((cn : Int) + 1 != e.seq) = true := by simp; omega
            have HL := Lib.hid (HB2.out hq)
            clear HB1 HB2 HB3 hq
            obtain ⟨x0, x1, x2, x3, x4, x5, x6⟩ := HN.out _ ((Below.refl _ _).drew)
            go_wp2_with fail
            go_region_with (first
              | (go_at_call 100; refine (HE.out _ hd).mono ?_; rintro _ w1 ⟨rfl, hb1⟩; have hM1 := HMd.out w1 hb1; have hB1 := hd.trans (hb1.mono hd.size); obtain ⟨y0, y1, y2, y3, y4, y5, y6⟩ := HN.out w1 ((Below.refl _ _).drew.trans hb1))
              | (go_at_call 103; refine (HM.out _ hM1).mono ?_; rintro _ w2 ⟨rfl, hM2, hb2⟩; have hB2 := hB1.trans (hb2.below (Nat.le_refl _) hB1.size); have v1 := (hb2.cell (p := ⟨wr.heap.size, 1, none⟩) (HZ.out w1 hb1) (fun q => hne q.symm)).trans y1))
            all_goals
              go_wp2
              go_ret2
              exact ⟨hB2, .inr ⟨HL.out, rfl⟩⟩
      · obtain rfl : k = es.length := by omega
        have HL := Lib.hid (logB_good hp.out hlen)
        go_wp2
        go_ret2
        exact ⟨hb, .inl ⟨HL.out, _, rfl, Nat.le_refl _, hM⟩⟩
  · have HL := Lib.hid (logB_long hlen)
    have i0 : ¬ (es.length : Int) ≤ 40 := by omega
    go_enter Tryd.func68, Tryd.ntmps68
    go_wp2
    go_ret2
    exact ⟨Below.refl _ _, .inr ⟨HL.out, rfl⟩⟩
end Go.Proofs.YtclhjgcapalniaaDoor
/-
  Contracts of the program's LogOk and LogSeq. Conditions: as each theorem says.
-/
namespace Go.Proofs.YtclhjgcapalniaaDoor
open Go.ChangeShapes Go.WideShapes Go.ChangeAt Go.RowKit Go.Joins
open Go.Maps

theorem implLogOk_any (B : Nat) (a : Option Addr) (cap : Nat) (es : List EntD) (w : World) (hB : B ≤ w.heap.size) (h : EntsAt B w a es) (hf : EntsFit es) (ht : Tab w) :
    Calls Tryd.prog 58 #[.slice a es.length cap] w (RetBelow (.bool (logB es)) w) := by
  go_enter Tryd.func58, Tryd.ntmps58
  go_wp2_with fail
  refine (countLog_any B a cap es w hB h hf ht).mono ?_
  rintro _ w1 ⟨hb1, ⟨hl, b, rfl, hbb, hM⟩ | ⟨hl, rfl⟩⟩
  · have HL := Lib.hid hl
    clear hM hl
    go_wp2
    go_ret
    exact ⟨by rw [HL.out]; rfl, hb1⟩
  · have HL := Lib.hid hl
    clear hl
    go_wp2
    go_ret
    exact ⟨by rw [HL.out]; rfl, hb1⟩
set_option maxRecDepth 100000 in
theorem implLogSeq_any (B : Nat) (a : Option Addr) (cap : Nat) (es : List EntD) (who : Int) (w : World) (hB : B ≤ w.heap.size) (h : EntsAt B w a es) (hf : EntsFit es) (ht : Tab w) (hwho : I64 who) :
    Calls Tryd.prog 29 #[.slice a es.length cap, .int .i64 who] w (RetBelow (.int .i64 (lseqI es who)) w) := by
  have hkey : keyOf Tryd.prog 3 (.int .i64 who) = some (.int .i64 who) := keyOf_int_mk Tryd.underlying3 (wf_key hwho)
  have HL1 : Hid (logB es = true → lseqI es who = cntI es es.length who) := fun q => by unfold lseqI cntI; rw [q]; rfl
  have HL2 : Hid (logB es = false → lseqI es who = -1) := fun q => by unfold lseqI; rw [q]; rfl
  generalize lseqI es who = r at *
  go_enter Tryd.func29, Tryd.ntmps29
  go_wp2_with fail
  refine (countLog_any B a cap es w hB h hf ht).mono ?_
  rintro _ w1 ⟨hb1, ⟨hl, b, rfl, hbb, D, hown, hat⟩ | ⟨hl, rfl⟩⟩
  · have HR := Lib.hid (HL1.out hl)
    clear HL1 HL2
    go_wp2_with (first
      | (at_lookup; refine wpList_lookup_own_int _ rfl _ _ 110 rfl 3 3 .i64 lawInt Tryd.underlying110 Tryd.underlying3 (zeroInt _) b es.length _ rfl hown _ _ rfl hkey ?_; intro c1 hat1 hwc1)
      | go_in)
    go_ret
    exact ⟨by rw [HR.out, lit_inj ((hat who).symm.trans hat1)]; rfl, hb1⟩
  · have HR := Lib.hid (HL2.out hl)
    clear HL1 HL2
    go_wp2
    go_ret
    exact ⟨by rw [HR.out]; rfl, hb1⟩
end Go.Proofs.YtclhjgcapalniaaDoor
