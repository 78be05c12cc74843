/-
  The cells of a desk at its beginning; loads and stores of whole desks; slices.Clone of rows. Conditions: as each theorem says.
-/
import Derived.Test.YtogafpfgdonlmaaDoorJRing4
import Derived.Test.YtogafpfgdonlmaaDoorJCliI1
import Derived.Laws.Tables
import Derived.Laws.Rows
namespace Go.Proofs.YtogafpfgdonlmaaDoor
open Go.ChangeShapes Go.WideShapes Go.ChangeAt Go.RowKit Go.Joins

def RetDesk (c : CliD) (w : World) (r : Ending) (w' : World) : Prop :=
  Below w.heap.size w w' ∧ ((cliB c = false ∧ r = .returned (.tuple #[.agg Tryd.zeroCells60, .bool false])) ∨ (cliB c = true ∧ ∃ cs a cap, r = .returned (.tuple #[.agg cs, .bool true]) ∧ DeskV cs c (.slice a c.base.length cap) (c.done.toNat + 1) ∧ Got w.heap.size w' a c.base ∧ c.base.length ≤ cap ∧ cap ≤ maxLen))
theorem Bx.row {w : World} {B : Nat} {t : TypeId} {cs cs' : Array Value} (h : Bx w B t cs) : Bx (w.setRow B cs') B t cs' := by
  unfold Bx at h ⊢; exact setRow_heap w B cs cs' t _ h
theorem deskSize : (Tryd.prog.info? 60).map (·.size) = some 286 := by kernel_rfl
theorem zero_plain : Tryd.zeroCells60.all (·.oneCell') = true := by kernel_rfl
theorem run_storeDesk {B : Nat} {cs cs' : Array Value} {W : World} (h : Bx W B 60 cs) (hs : cs.size = 286) (hs' : cs'.size = 286) (hp : ∀ u ∈ cs', u.oneCell' = true) :
    (storeCells ⟨B, 0, none⟩ cs'.toList).run Tryd.prog W = .ok () (W.setRow B cs') := by
  have := run_storeVar_row (P := Tryd.prog) W B 60 60 cs cs' h (by rw [deskSize, hs']) (by rw [hs, hs']) (Array.all_eq_true_iff_forall_mem.2 hp)
  simpa [storeVar, Value.cells, hs'] using this
theorem run_loadDesk {B : Nat} {cs : Array Value} {W : World} (h : Bx W B 60 cs) (hs : cs.size = 286) :
    (loadVar 60 ⟨B, 0, none⟩).run Tryd.prog W = .ok (.agg cs) W :=
  run_loadVar_row (P := Tryd.prog) W B 60 60 cs (0, 0) _ h Tryd.underlying60 rfl (by rw [deskSize, hs])
theorem run_loadDeskC {B : Nat} {cs : Array Value} {W : World} (h : Bx W B 60 cs) (hs : cs.size = 286) :
    (loadCellsFrom ⟨B, 0, none⟩ 0 286 #[]).run Tryd.prog W = .ok cs W := by
  have := run_loadCells_list (P := Tryd.prog) W ⟨B, 0, none⟩ cs.toList (fun j v hv => by
    have hadd : (⟨B, 0, none⟩ : Addr).add j = ⟨B, j, none⟩ := by unfold Addr.add; split <;> simp_all
    rw [hadd, cell_of_row _ _ j cs 60 (0, 0) h]
    simpa using hv)
  simpa [loadCells, hs] using this
theorem Got.rowB {base B : Nat} {w : World} {a : Option Addr} {rs : List RowD} {t : TypeId} {cs : Array Value} (h : Got base w a rs) (hB : Bx w B t cs) (ht : t ≠ 82) (cs' : Array Value) : Got base (w.setRow B cs') a rs := by
  rcases h with h | ⟨g, C, e, hg, f, ⟨cur, h1, h1'⟩, h2⟩
  · exact .inl h
  · refine .inr ⟨g, C, e, hg, f, World.rowIs.of_block ⟨cur, h1, h1'⟩ ?_, h2⟩
    have hne : ¬ B = g := fun q => by
      subst q
      rw [show w.heap[B]? = _ from hB] at h1
      simp only [Option.some.injEq, Obj.cells.injEq] at h1
      exact ht h1.2.1
    simp [World.setRow, Array.getElem?_modify, hne]
theorem OwnR.rowB {base B g c : Nat} {w : World} {rs : List RowD} {t : TypeId} {cs : Array Value} (h : OwnR base w g c rs) (hB : Bx w B t cs) (ht : t ≠ 82) (cs' : Array Value) : OwnR base (w.setRow B cs') g c rs :=
  ⟨h.got.rowB hB ht cs', h.lo, by have := h.hi; simpa [World.setRow] using this, h.len, h.cap⟩
theorem Bx.cli4 {w : World} {B : Nat} {t : TypeId} {v0 v1 v2 v3 v4 v5 : Value} (h : Bx w B t #[v0, v1, v2, v3, v4, v5]) : w.cell? ⟨B, 0, none⟩ = some v0 ∧ w.cell? ⟨B, 1, none⟩ = some v1 ∧ w.cell? ⟨B, 2, none⟩ = some v2 ∧ w.cell? ⟨B, 5, none⟩ = some v5 := ⟨h.cell 0 rfl, h.cell 1 rfl, h.cell 2 rfl, h.cell 5 rfl⟩
theorem Got.butB {base B n : Nat} {w w' : World} {a : Option Addr} {rs : List RowD} {t : TypeId} {cs : Array Value} (h : Got base w a rs) (hB : Bx w B t cs) (ht : t ≠ 82) (hb : But B n w w') (hn : w.heap.size ≤ n) : Got base w' a rs := by
  rcases h with h | ⟨g, C, e, hg, f, ⟨cur, h1, h1'⟩, h2⟩
  · exact .inl h
  · refine .inr ⟨g, C, e, hg, f, World.rowIs.of_block ⟨cur, h1, h1'⟩ (hb.block g (Nat.lt_of_lt_of_le (Array.getElem?_eq_some_iff.1 h1).1 hn) (fun q => ?_)), h2⟩
    subst q
    rw [show w.heap[g]? = _ from hB] at h1
    simp only [Option.some.injEq, Obj.cells.injEq] at h1
    exact ht h1.2.1
theorem OwnR.butB {base B g c n : Nat} {w w' : World} {rs : List RowD} {t : TypeId} {cs : Array Value} (h : OwnR base w g c rs) (hB : Bx w B t cs) (ht : t ≠ 82) (hb : But B n w w') (hn : w.heap.size ≤ n) : OwnR base w' g c rs :=
  ⟨h.got.butB hB ht hb hn, h.lo, Nat.lt_of_lt_of_le h.hi hb.size, h.len, h.cap⟩
theorem zero_mem : ∀ u ∈ Tryd.zeroCells60, u.oneCell' = true := Array.all_eq_true_iff_forall_mem.1 zero_plain
theorem Bx.otherRow {w : World} {B B' : Nat} {t : TypeId} {cs cs' : Array Value} (h : Bx w B t cs) (hne : B ≠ B') : Bx (w.setRow B' cs') B t cs := by
  unfold Bx at h ⊢; rw [← h]; simp [World.setRow, Array.getElem?_modify, show ¬ B' = B from fun e => hne e.symm]
theorem below_setRow {N B : Nat} {w w' : World} (h : Below N w w') (hB : N ≤ B) (cs : Array Value) : Below N w (w'.setRow B cs) :=
  ⟨h.os, h.tape, h.output, by have := h.size; simpa [World.setRow] using this, fun k hk => by
    rw [← h.block k hk]; simp [World.setRow, Array.getElem?_modify, show ¬ B = k by omega]⟩
def RetCR (rs : List RowD) (w : World) (r : Ending) (w' : World) : Prop := ∃ g c, r = .returned (.slice (some ⟨g, 0, none⟩) rs.length c) ∧ OwnR w.heap.size w' g c rs ∧ Below w.heap.size w w'
theorem slCloneR_some (b off cap : Nat) (rs : List RowD) (w : World) (hb : b < w.heap.size) (h : RowsAt w.heap.size w (some ⟨b, off, none⟩) rs) (hl : rs.length ≤ 1048576) :
    Calls Tryd.prog 46 #[.slice (some ⟨b, off, none⟩) rs.length cap] w (RetCR rs w) := by
  obtain ⟨i0, hi, hz0, hz1, hz2⟩ := info_parts infoRow
  have hown0 := own_empty3 w 82
  have hnews0 := RowsAt.news (s := 0) (n := rs.length) h (by omega)
  rw [Nat.zero_mul, Nat.add_zero, List.drop_zero, List.take_length] at hnews0
  have HNW := Lib.hid hnews0
  clear hnews0
  have hnil : (binOp .eql 30 (.slice (some ⟨b, off, none⟩) rs.length cap) (.slice none 0 0)).run Tryd.prog w = .ok (.bool false) w := Lib.run_eql_slice_nil w 30 82 (some ⟨b, off, none⟩) rs.length cap 0 0 Tryd.underlying30
  go_enter Tryd.func46, Tryd.ntmps46
  go_wp2_with (at_builtin; refine wpList_append_own _ rfl _ _ 30 rfl w.heap.size 82 i0 (.agg #[.int .i64 0, .int .i64 0, .string ⟨#[]⟩]) 3 32 Tryd.underlying30 hi hz0 hz1 hz2 rfl (by decide) _ _ _ rfl hown0 ⟨b, off, none⟩ rs.length cap (cellsL rs) rfl ?c0 ?c1 ?c2 ?c3 ?c4 ?c5 ?_)
  case c0 => exact cellsL_len rs
  case c1 => intro j u hu; rw [World.cell?_alloc_lt _ _ _ (by rw [addr_add]; exact hb)]; exact HNW.out j u hu
  case c2 => exact cellsL_plain _
  case c3 => unfold maxLen; omega
  case c4 => omega
  case c5 => simp
  intro v3 w3 own3 grow3 hnn
  have hb3 : Below w.heap.size w w3 := ((Below.refl _ w).alloc (Nat.le_refl _) (.cells #[] 82)).grown grow3 (by simp) (own_block hown0)
  have own3' : w3.ownsRow w.heap.size 82 3 v3 rs.length (cellsL rs) := by simpa using own3
  obtain ⟨a', c', rfl, hc1, hc2⟩ := own_valE own3'
  have hne : a' ≠ none := fun e => by
    subst e
    rcases own3'.2 with ⟨q, _⟩ | ⟨g', cap', cur, hv, _⟩
    · exact hnn q
    · cases hv
  obtain ⟨g, rfl⟩ := own_some own3' hne
  clear own3 hi hz0 hz1 hz2 hnn
  go_wp2
  go_ret
  exact ⟨g, c', rfl, ownR_of own3', hb3⟩
/-- Values laid one behind the other from cell 3 on. -/
theorem lay_from : ∀ (l : List Value) (s : Nat) (cs : Array Value), ((l.zipIdx s).foldl (fun cs x => cs.setIfInBounds (3 + x.2) x.1) cs).size = cs.size ∧ ∀ k, ((l.zipIdx s).foldl (fun cs x => cs.setIfInBounds (3 + x.2) x.1) cs)[k]? = if 3 + s ≤ k ∧ k < 3 + s + l.length ∧ k < cs.size then l[k - 3 - s]? else cs[k]?
  | [], s, cs => ⟨rfl, fun k => by rw [if_neg (by simp; omega)]; rfl⟩
  | v :: l, s, cs => by
    obtain ⟨h1, h2⟩ := lay_from l (s + 1) (cs.setIfInBounds (3 + s) v)
    rw [List.zipIdx_cons, List.foldl_cons]
    refine ⟨by rw [h1]; simp, fun k => ?_⟩
    rw [h2 k]
    simp only [Array.size_setIfInBounds, List.length_cons]
    by_cases q : k = 3 + s
    · subst q
      rw [if_neg (by omega)]
      by_cases q2 : 3 + s < cs.size
      · rw [Array.getElem?_setIfInBounds_self_of_lt q2, if_pos (by omega)]; simp
      · rw [if_neg (by omega), Array.getElem?_eq_none (by simp; omega), Array.getElem?_eq_none (by omega)]
    · rw [Array.getElem?_setIfInBounds_ne (by omega)]
      by_cases q2 : 3 + (s + 1) ≤ k ∧ k < 3 + (s + 1) + l.length ∧ k < cs.size
      · rw [if_pos q2, if_pos (by omega), show k - 3 - s = (k - 3 - (s + 1)) + 1 by omega, List.getElem?_cons_succ]
      · rw [if_neg q2, if_neg (by omega)]
/-- The cells of a ring that begins at a number, and ends there. -/
noncomputable def ring0 (n : Int) : Array Value := (Tryd.zeroCells58.setIfInBounds 280 (.int .i64 n)).setIfInBounds 281 (.int .i64 n)
noncomputable def deskRing (cs : Array Value) (n : Int) : Array Value := Array.foldl (fun cs x => cs.setIfInBounds (3 + x.snd) x.fst) cs ((Tryd.zeroCells58.setIfInBounds 280 (.int .i64 n)).setIfInBounds 281 (.int .i64 n)).zipIdx 0 282
theorem deskRing_at (cs : Array Value) (n : Int) : (deskRing cs n).size = cs.size ∧ ∀ k, (deskRing cs n)[k]? = if 3 ≤ k ∧ k < 285 ∧ k < cs.size then (ring0 n)[k - 3]? else cs[k]? := by
  have hs : (ring0 n).size = 282 := by unfold ring0; simp [Tryd.zeroCells58_size]
  have e : deskRing cs n = ((ring0 n).toList.zipIdx 0).foldl (fun cs x => cs.setIfInBounds (3 + x.2) x.1) cs := by
    unfold deskRing
    show Array.foldl _ cs (ring0 n).zipIdx 0 282 = _
    rw [show (282 : Nat) = (ring0 n).zipIdx.size by rw [Array.size_zipIdx, hs], ← Array.foldl_toList, Array.toList_zipIdx]
  obtain ⟨h1, h2⟩ := lay_from (ring0 n).toList 0 cs
  rw [← e] at h1 h2
  refine ⟨h1, fun k => ?_⟩
  rw [h2 k]
  simp only [Array.length_toList, hs, Nat.add_zero, Nat.sub_zero, Array.getElem?_toList]
/-- The cells of a desk at its beginning. -/
noncomputable def desk0 (c : CliD) (v : Value) : Array Value := (deskRing (((Tryd.zeroCells60.setIfInBounds 0 (.int .i64 c.who)).setIfInBounds 1 (.int .i64 c.seen)).setIfInBounds 2 v) (c.done + 1)).setIfInBounds 285 (.int .i64 c.made)
theorem ringPlain : Tryd.zeroCells58.all (·.oneCell') = true := by kernel_rfl
theorem desk0_size (c : CliD) (v : Value) : (desk0 c v).size = 286 := by
  unfold desk0
  rw [Array.size_setIfInBounds, (deskRing_at _ _).1]
  simp [Tryd.zeroCells60_size]
theorem desk0_plain (c : CliD) (v : Value) (hv : v.oneCell' = true) : ∀ u ∈ desk0 c v, u.oneCell' = true := by
  refine plain_set (fun u hu => ?_) _ _ rfl
  obtain ⟨k, hk⟩ := Array.getElem?_of_mem hu
  rw [(deskRing_at _ _).2 k] at hk
  split at hk
  · exact plain_set (plain_set (Array.all_eq_true_iff_forall_mem.1 ringPlain) _ _ rfl) _ _ rfl u (Array.mem_of_getElem? hk)
  · exact plain_set (plain_set (plain_set zero_mem _ _ rfl) _ _ rfl) _ _ hv u (Array.mem_of_getElem? hk)
theorem desk0_v (c : CliD) (v : Value) (hv : v.oneCell' = true) (hd : 0 ≤ c.done) : DeskV (desk0 c v) ⟨c.who, c.seen, c.base, [], c.done, c.made⟩ v (c.done.toNat + 1) := by
  have hz := Tryd.zeroCells60_size
  have hzr := Tryd.zeroCells58_size
  have hs : ∀ u : Value, (((Tryd.zeroCells60.setIfInBounds 0 (.int .i64 c.who)).setIfInBounds 1 (.int .i64 c.seen)).setIfInBounds 2 u).size = 286 := fun u => by simp [hz]
  have at_ : ∀ k, k ≠ 285 → (desk0 c v)[k]? = if 3 ≤ k ∧ k < 285 ∧ k < 286 then (ring0 (c.done + 1))[k - 3]? else (((Tryd.zeroCells60.setIfInBounds 0 (.int .i64 c.who)).setIfInBounds 1 (.int .i64 c.seen)).setIfInBounds 2 v)[k]? := fun k hk => by
    unfold desk0
    rw [Array.getElem?_setIfInBounds_ne (by omega), (deskRing_at _ _).2 k, hs]
  have hn : ((c.done.toNat + 1 : Nat) : Int) = c.done + 1 := by omega
  refine ⟨desk0_size c v, desk0_plain c v hv, ?_, ?_, ?_, ?_, ?_, ?_, ?_⟩
  · rw [at_ 0 (by omega), if_neg (by omega)]; simp [hz]
  · rw [at_ 1 (by omega), if_neg (by omega)]; simp [hz]
  · rw [at_ 2 (by omega), if_neg (by omega)]; simp [hz]
  · rw [at_ 283 (by omega), if_pos (by omega), hn]; unfold ring0; simp [hzr]
  · rw [at_ 284 (by omega), if_pos (by omega)]
    simp only [List.length_nil, Nat.add_zero]
    rw [hn]; unfold ring0; simp [hzr]
  · unfold desk0; rw [Array.getElem?_setIfInBounds_self_of_lt (by rw [(deskRing_at _ _).1, hs]; omega)]
  · intro i hi; simp at hi
end Go.Proofs.YtogafpfgdonlmaaDoor
