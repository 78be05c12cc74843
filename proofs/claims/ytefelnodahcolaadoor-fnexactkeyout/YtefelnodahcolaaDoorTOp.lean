/-
  Plain mathematics of changes of outlines (lists of rows), and rows as cells. Nothing of the program is run here. Conditions: none beyond the lemmas' own premises.
-/
import Derived.Test.YtefelnodahcolaaDoorTSpec
namespace Go.Proofs.YtefelnodahcolaaDoor
open Go.ChangeShapes Go.WideShapes Go.ChangeAt Go.RowKit Go.Joins

structure OpD where
  kind : Int
  id : Int
  up : Int
  at_ : Int
  txt : ByteArray
def thereB (rs : List RowD) (id : Int) : Bool := decide (atN rs id < rs.length)
def noWhereB (rs : List RowD) (o : OpD) : Bool := (o.kind == 2) || (thereB rs o.id != (o.kind == 3)) || (thereB rs o.id && undB rs o.up o.id)
def atOfL (ks : List Int) (o : OpD) : Int := if ks.any (fun x => (x == o.at_) && (o.at_ != o.id)) then o.at_ else 0
def whereU (rs : List RowD) (o : OpD) : Int := if noWhereB rs o then 0 else if thereB rs o.up then o.up else 3
def whereA (rs : List RowD) (o : OpD) : Int := if noWhereB rs o then 0 else if thereB rs o.up then atOfL (kidsL rs o.up) o else 0
def shiftR (d : Int) (r : RowD) : RowD := ⟨r.id, r.dep + d, r.txt⟩
def placeN (rs : List RowD) (up at' : Int) : Nat := if 0 < at' then enR rs (atN rs at') else atN rs up + 1
def deepI' (rs rows : List RowD) (up : Int) : Int := rdep rs (atN rs up) + 1 - rdep rows 0
def putR (rs rows : List RowD) (up at' : Int) : List RowD := rs.take (placeN rs up at') ++ rows.map (shiftR (deepI' rs rows up)) ++ rs.drop (placeN rs up at')
def setTxt (rs : List RowD) (k : Nat) (t : ByteArray) : List RowD := rs.modify k (fun r => ⟨r.id, r.dep, t⟩)
def doR (rs : List RowD) (o : OpD) : List RowD :=
  if o.kind = 2 then (if thereB rs o.id then setTxt rs (atN rs o.id) o.txt else rs)
  else if noWhereB rs o then rs
  else if o.kind = 1 then putR rs [⟨o.id, 0, o.txt⟩] (whereU rs o) (whereA rs o)
  else putR (rs.take (atN rs o.id) ++ rs.drop (enR rs (atN rs o.id))) ((rs.drop (atN rs o.id)).take (enR rs (atN rs o.id) - atN rs o.id)) (whereU rs o) (whereA rs o)

/-! ### rows as cells -/
def cellsL (rs : List RowD) : List Value := rs.flatMap fun r => [.int .i64 r.id, .int .i64 r.dep, .string r.txt]
theorem cellsL_len (rs : List RowD) : (cellsL rs).length = rs.length * 3 := by
  induction rs with
  | nil => rfl
  | cons r rs ih => simp [cellsL] at ih ⊢; omega
theorem cellsL_append (a b : List RowD) : cellsL (a ++ b) = cellsL a ++ cellsL b := by simp [cellsL]
theorem cellsL_one (r : RowD) : cellsL [r] = [.int .i64 r.id, .int .i64 r.dep, .string r.txt] := rfl
theorem cellsL_plain (rs : List RowD) : ∀ u ∈ cellsL rs, u.oneCell' = true := by
  intro u hu
  simp only [cellsL, List.mem_flatMap, List.mem_cons, List.not_mem_nil, or_false] at hu
  obtain ⟨r, _, rfl | rfl | rfl⟩ := hu <;> rfl
theorem rat_cons_zero (r : RowD) (rs : List RowD) : rat (r :: rs) 0 = r := rfl
theorem rat_cons_succ (r : RowD) (rs : List RowD) (i : Nat) : rat (r :: rs) (i + 1) = rat rs i := by simp [rat]
theorem cellsL_at : ∀ (rs : List RowD) (i : Nat), i < rs.length → (cellsL rs)[i * 3]? = some (.int .i64 (rat rs i).id) ∧ (cellsL rs)[i * 3 + 1]? = some (.int .i64 (rat rs i).dep) ∧ (cellsL rs)[i * 3 + 2]? = some (.string (rat rs i).txt)
  | [], i, h => by simp at h
  | r :: rs, 0, _ => ⟨rfl, rfl, rfl⟩
  | r :: rs, i + 1, h => by
    have := cellsL_at rs i (by simpa using h)
    rw [rat_cons_succ]
    have e : cellsL (r :: rs) = [.int .i64 r.id, .int .i64 r.dep, .string r.txt] ++ cellsL rs := rfl
    rw [e]
    refine ⟨?_, ?_, ?_⟩
    · rw [List.getElem?_append_right (by simp; omega)]
      simpa [show (i + 1) * 3 - 3 = i * 3 by omega] using this.1
    · rw [List.getElem?_append_right (by simp; omega)]
      simpa [show (i + 1) * 3 + 1 - 3 = i * 3 + 1 by omega] using this.2.1
    · rw [List.getElem?_append_right (by simp; omega)]
      simpa [show (i + 1) * 3 + 2 - 3 = i * 3 + 2 by omega] using this.2.2
/-- A slice of rows in a row of the call's own. -/
theorem rowsAt_own {w : World} {base : Nat} {a : Option Addr} {cap : Nat} {rs : List RowD} (h : w.ownsRow base 46 3 (.slice a rs.length cap) rs.length (cellsL rs)) : RowsAt w.heap.size w a rs := by
  rcases h.2 with ⟨_, h0⟩ | ⟨g, cap', cur, hv, hg, hh, h1, h2, h3, h4⟩
  · exact .inl h0
  · cases hv
    refine .inr ⟨g, 0, rfl, (Array.getElem?_eq_some_iff.1 hh).1, fun i hi => ?_⟩
    have hc : ∀ j, j < rs.length * 3 → w.cell? ⟨g, j, none⟩ = (cellsL rs)[j]? := fun j hj => by
      unfold World.cell?
      simp only [hh]
      have : (cur.toList.take (rs.length * 3))[j]? = (cellsL rs)[j]? := by rw [h4]
      rw [List.getElem?_take_of_lt hj] at this
      simpa using this
    obtain ⟨q0, q1, q2⟩ := cellsL_at rs i hi
    rw [Nat.zero_add, hc _ (by omega), hc _ (by omega), hc _ (by omega)]
    exact ⟨q0, q1, q2⟩
/-- The cells that an append copies: a stretch of rows that lie in memory. -/
theorem rat_drop_take (rs : List RowD) (s n i : Nat) (hi : i < n) : rat ((rs.drop s).take n) i = rat rs (s + i) := by
  unfold rat
  rw [List.getD_eq_getElem?_getD, List.getD_eq_getElem?_getD, List.getElem?_take_of_lt hi, List.getElem?_drop]
theorem RowsAt.news {B : Nat} {w : World} {b off : Nat} {rs : List RowD} (h : RowsAt B w (some ⟨b, off, none⟩) rs) {s n : Nat} (hs : s + n ≤ rs.length) :
    ∀ j u, (cellsL ((rs.drop s).take n))[j]? = some u → w.cell? ((⟨b, off + s * 3, none⟩ : Addr).add j) = some u := by
  intro j u hu
  have hlen : ((rs.drop s).take n).length = n := by simp; omega
  have hj : j < n * 3 := by
    have := (List.getElem?_eq_some_iff.1 hu).1
    rw [cellsL_len, hlen] at this; exact this
  have hi : j / 3 < n := by omega
  rcases h with h | ⟨b', off', e, _, hc⟩
  · omega
  · cases e
    obtain ⟨c0, c1, c2⟩ := hc (s + j / 3) (by omega)
    obtain ⟨q0, q1, q2⟩ := cellsL_at ((rs.drop s).take n) (j / 3) (by omega)
    rw [rat_drop_take rs s n (j / 3) hi] at q0 q1 q2
    have ha : ∀ x, (⟨b, off + s * 3, none⟩ : Addr).add x = ⟨b, off + s * 3 + x, none⟩ := fun x => by unfold Addr.add; split <;> simp_all
    rw [ha]
    rcases (by omega : j = j / 3 * 3 ∨ j = j / 3 * 3 + 1 ∨ j = j / 3 * 3 + 2) with e | e | e
    · rw [e] at hu ⊢
      rw [q0] at hu; cases hu
      rw [show off + s * 3 + j / 3 * 3 = off + (s + j / 3) * 3 by omega]; exact c0
    · rw [e] at hu ⊢
      rw [q1] at hu; cases hu
      rw [show off + s * 3 + (j / 3 * 3 + 1) = off + (s + j / 3) * 3 + 1 by omega]; exact c1
    · rw [e] at hu ⊢
      rw [q2] at hu; cases hu
      rw [show off + s * 3 + (j / 3 * 3 + 2) = off + (s + j / 3) * 3 + 2 by omega]; exact c2
theorem own_empty3 (w : World) (t : TypeId) : (w.alloc (.cells #[] t)).ownsRow w.heap.size t 3 (.slice (some ⟨w.heap.size, 0, none⟩) 0 0) 0 [] :=
  ⟨rfl, .inr ⟨w.heap.size, 0, #[], rfl, Nat.le_refl _, heap_alloc_new _ _, Nat.le_refl _, Nat.zero_le _, rfl, rfl⟩⟩
/-- Rows of the call's own, and nothing old turned. -/
def RetOwn (rs : List RowD) (w : World) (e : Ending) (w' : World) : Prop :=
  ∃ a cap, e = .returned (.slice a rs.length cap) ∧ w'.ownsRow w.heap.size 46 3 (.slice a rs.length cap) rs.length (cellsL rs) ∧ rs.length ≤ cap ∧ Below w.heap.size w w'
end Go.Proofs.YtefelnodahcolaaDoor
