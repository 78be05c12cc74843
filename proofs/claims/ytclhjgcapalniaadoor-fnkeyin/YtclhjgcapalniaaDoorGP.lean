/-
  Joined texts, each with its own head: what it holds, and its conditions.
-/
import Derived.Test.YtclhjgcapalniaaDoorGM
import Derived.Laws.StructEq
import Derived.Lib.Strings
import Derived.OwnWalk
import Derived.Lib.SliceRun
import Derived.Test.YtclhjgcapalniaaDoorGE

/-
  Contracts of the model's l12Has and of the library's slices.Index, Contains and Clone at entries. Conditions: as each theorem says.
-/
namespace Go.Proofs.YtclhjgcapalniaaDoor
open Go.ChangeShapes Go.WideShapes Go.ChangeAt Go.RowKit Go.Joins

theorem has_next {es : List EntD} {e : EntD} {k : Nat} (h : hasTo es e k = false) (hs : sameB (eat es k) e = false) : hasTo es e (k + 1) = false := by rw [hasTo_succ, h, hs]; rfl
set_option maxRecDepth 100000 in
set_option maxHeartbeats 4000000 in
theorem l12Has_any (B : Nat) (a : Option Addr) (cap : Nat) (es : List EntD) (e : EntD) (w : World) (hB : B ≤ w.heap.size) (h : EntsAt B w a es) (hl : es.length ≤ 1048576) :
    Calls Tryd.prog 141 #[.slice a es.length cap, .agg #[.int .i64 e.who, .int .i64 e.seq, .int .i64 e.op.kind, .int .i64 e.op.id, .int .i64 e.op.up, .int .i64 e.op.at_, .string e.op.txt]] w (RetBelow (.bool (hasE es e)) w) := by
  have hb0 : Below w.heap.size w (w.alloc (.cells #[.int .i64 e.who, .int .i64 e.seq, .int .i64 e.op.kind, .int .i64 e.op.id, .int .i64 e.op.up, .int .i64 e.op.at_, .string e.op.txt] 64)) := (Below.refl _ _).alloc (Nat.le_refl _) _
  have HN := Lib.hid (ebox_new w e)
  go_enter Tryd.func141, Tryd.ntmps141
  go_wp2_with fail
  go_loopw [5] (fun t wr => ∃ k : Nat, k ≤ es.length ∧ t = .int .i64 k ∧ Hid (hasTo es e k = false) ∧ Below (w.alloc (.cells #[.int .i64 e.who, .int .i64 e.seq, .int .i64 e.op.kind, .int .i64 e.op.id, .int .i64 e.op.up, .int .i64 e.op.at_, .string e.op.txt] 64)).heap.size (w.alloc (.cells #[.int .i64 e.who, .int .i64 e.seq, .int .i64 e.op.kind, .int .i64 e.op.id, .int .i64 e.op.up, .int .i64 e.op.at_, .string e.op.txt] 64)) wr) (fun t _ => es.length - (intOf t).toNat)
  case atStart => exact ⟨0, Nat.zero_le _, rfl, hasTo_zero es e, Below.refl _ _⟩
  case round =>
    obtain ⟨k, hk, rfl, hp, hb⟩ := hrel
    have hbw := hb0.trans (hb.mono hb0.size)
    have hr := h.below (hbw.mono hB)
    by_cases hlt : k < es.length
    · obtain ⟨b, off, rfl, hbB, c0, c1, c2, c3, c4, c5, c6⟩ := hr.at_ hlt
      obtain ⟨x0, x1, x2, x3, x4, x5, x6⟩ := HN.out wr hb
      have i1 : (k : Int) < (es.length : Int) := by omega
      clear hr HN
      cases hs : sameB (eat es k) e
      · 
          have HP := Lib.hid (has_next hp.out hs)
          have hp' := ent_parts hs
          clear hp hs
          generalize eat es k = d at *
          have hbd := hb.drew
          rcases hp' with h1 | ⟨h1, h2⟩ | ⟨h1, h2, h3⟩ | ⟨h1, h2, h3, h4⟩ | ⟨h1, h2, h3, h4, h5⟩ | ⟨h1, h2, h3, h4, h5, h6⟩ | ⟨h1, h2, h3, h4, h5, h6, h7⟩
          · go_wp2_with fail
            go_region
            all_goals
              go_wp2
              go_roundw
              case rel => exact ⟨k + 1, by omega, by go_num, HP, hbd⟩
              case measure => simp [intOf]; omega
          · go_wp2_with fail
            go_region
            all_goals
              go_wp2
              go_roundw
              case rel => exact ⟨k + 1, by omega, by go_num, HP, hbd⟩
              case measure => simp [intOf]; omega
          · go_wp2_with fail
            go_region
            all_goals
              go_wp2
              go_roundw
              case rel => exact ⟨k + 1, by omega, by go_num, HP, hbd⟩
              case measure => simp [intOf]; omega
          · go_wp2_with fail
            go_region
            all_goals
              go_wp2
              go_roundw
              case rel => exact ⟨k + 1, by omega, by go_num, HP, hbd⟩
              case measure => simp [intOf]; omega
          · go_wp2_with fail
            go_region
            all_goals
              go_wp2
              go_roundw
              case rel => exact ⟨k + 1, by omega, by go_num, HP, hbd⟩
              case measure => simp [intOf]; omega
          · go_wp2_with fail
            go_region
            all_goals
              go_wp2
              go_roundw
              case rel => exact ⟨k + 1, by omega, by go_num, HP, hbd⟩
              case measure => simp [intOf]; omega
          · have h7' : ¬ e.op.txt.toList = d.op.txt.toList := fun q => h7 q.symm
            go_wp2_with fail
            go_region
            all_goals
              go_wp2
              go_roundw
              case rel => exact ⟨k + 1, by omega, by go_num, HP, hbd⟩
              case measure => simp [intOf]; omega
      · have HH := Lib.hid (hasE_at hlt hs)
        have he := sameB_iff.1 hs
        rw [he] at c0 c1 c2 c3 c4 c5 c6
        have hbd := hbw.drew
        clear hp hs he
        go_wp2_with fail
        go_region
        all_goals
          go_wp2
          go_ret
          exact ⟨by rw [HH.out]; rfl, hbd⟩
    · have HH : Hid (hasE es e = false) := by unfold Hid hasE; rw [show es.length = k by omega]; exact hp.out
      go_wp2
      go_ret
      exact ⟨by rw [HH.out]; rfl, hbw⟩

theorem own_valE {w : World} {base : Nat} {t : TypeId} {size : Nat} {v : Value} {n : Nat} {xs : List Value} (h : w.ownsRow base t size v n xs) : ∃ a cap, v = .slice a n cap ∧ n ≤ cap ∧ cap ≤ maxLen := by
  rcases h.2 with ⟨h1, h0⟩ | ⟨g, cap', cur, hv, hg, hh, h1, h2, _⟩
  · exact ⟨none, 0, by rw [h1, h0], by omega, Nat.zero_le _⟩
  · exact ⟨_, cap', hv, h1, h2⟩
theorem own_blockE {w : World} {base : Nat} {t : TypeId} {size : Nat} {v : Value} {n : Nat} {xs : List Value} (h : w.ownsRow base t size v n xs) : ∀ k, v.ownBlock = some k → base ≤ k := by
  intro k hk
  rcases h.2 with ⟨h1, h0⟩ | ⟨g, cap', cur, hv, hg, hh, h1, h2, _⟩
  · rw [h1] at hk; cases hk
  · rw [hv] at hk; cases hk; exact hg
end Go.Proofs.YtclhjgcapalniaaDoor
/-
  Contracts of the model's l12Add and LogAdd. Conditions: as each theorem says.
-/
namespace Go.Proofs.YtclhjgcapalniaaDoor
open Go.ChangeShapes Go.WideShapes Go.ChangeAt Go.RowKit Go.Joins

theorem add_no {es : List EntD} {e : EntD} (h : okAdd es e = false) : addL es e = [] ∧ addN es e = -1 := by simp [addL, addN, h]
theorem add_has {es : List EntD} {e : EntD} (h : okAdd es e = true) (h1 : hasE es e = true) : addL es e = es ∧ addN es e = 0 := by simp [addL, addN, h, h1]
theorem add_gap {es : List EntD} {e : EntD} (h : okAdd es e = true) (h1 : hasE es e = false) (h2 : nextB es e = false) : addL es e = es ∧ addN es e = -1 := by simp [addL, addN, h, h1, h2]
theorem add_new {es : List EntD} {e : EntD} (h : okAdd es e = true) (h1 : hasE es e = false) (h2 : nextB es e = true) : addL es e = es ++ [e] ∧ addN es e = 1 := by simp [addL, addN, h, h1, h2]
theorem elem_cells (w : World) (e : EntD) : ∀ j u, (cellsE [e])[j]? = some u → (w.alloc (.cells #[.int .i64 e.who, .int .i64 e.seq, .int .i64 e.op.kind, .int .i64 e.op.id, .int .i64 e.op.up, .int .i64 e.op.at_, .string e.op.txt] 64)).cell? ((⟨w.heap.size, 0, none⟩ : Addr).add j) = some u := by
  intro j u hu
  rw [addr_add, Nat.zero_add]
  have hj : j < 7 := by
    have := (List.getElem?_eq_some_iff.1 hu).1
    simpa [cellsE] using this
  match j, hj with
  | 0, _ => simpa [cellsE, go_sem] using hu
  | 1, _ => simpa [cellsE, go_sem] using hu
  | 2, _ => simpa [cellsE, go_sem] using hu
  | 3, _ => simpa [cellsE, go_sem] using hu
  | 4, _ => simpa [cellsE, go_sem] using hu
  | 5, _ => simpa [cellsE, go_sem] using hu
  | 6, _ => simpa [cellsE, go_sem] using hu
/-- The region of l12Add that copies a log and puts an entry behind it, and the like: one entry behind a slice of one's own. -/
def AddE (b off cap : Nat) (es : List EntD) (e : EntD) (w : World) (r : Ending) (w' : World) : Prop :=
  Below w.heap.size w w' ∧ ((hasE es e = true ∧ r = .returned (.tuple #[.slice (some ⟨b, off, none⟩) es.length cap, .int .i64 0])) ∨ (hasE es e = false ∧ nextB es e = false ∧ r = .returned (.tuple #[.slice (some ⟨b, off, none⟩) es.length cap, .int .i64 (-1)])) ∨
    (hasE es e = false ∧ nextB es e = true ∧ ∃ a c, r = .returned (.tuple #[.slice a (es.length + 1) c, .int .i64 1]) ∧ w'.ownsRow w.heap.size 64 7 (.slice a (es.length + 1) c) (es.length + 1) (cellsE (es ++ [e]))))
set_option maxRecDepth 100000 in
set_option maxHeartbeats 4000000 in
theorem l12Add_any (b off cap : Nat) (es : List EntD) (e : EntD) (w : World) (hbb : b < w.heap.size) (h : EntsAt w.heap.size w (some ⟨b, off, none⟩) es) (hl : es.length ≤ 1048576) :
    Calls Tryd.prog 140 #[.slice (some ⟨b, off, none⟩) es.length cap, .agg #[.int .i64 e.who, .int .i64 e.seq, .int .i64 e.op.kind, .int .i64 e.op.id, .int .i64 e.op.up, .int .i64 e.op.at_, .string e.op.txt]] w (AddE b off cap es e w) := by
  obtain ⟨i0, hi, hz0, hz1, hz2⟩ := info_parts infoEnt
  have hb0 : Below w.heap.size w (w.alloc (.cells #[.int .i64 e.who, .int .i64 e.seq, .int .i64 e.op.kind, .int .i64 e.op.id, .int .i64 e.op.up, .int .i64 e.op.at_, .string e.op.txt] 64)) := (Below.refl _ _).alloc (Nat.le_refl _) _
  have h0 := h.below hb0
  have hb0s := hb0.size
  have HN := Lib.hid (ebox_new w e)
  have hcn := cntTo_le es e.who es.length
  have HNB : Hid (nextB es e = ((e.seq == (cntTo es e.who es.length : Int) + 1) && decide (es.length < 40))) := rfl
  have HSQ := Lib.hid (l12Seq_any w.heap.size (some ⟨b, off, none⟩) cap es e.who es.length (w.alloc (.cells #[.int .i64 e.who, .int .i64 e.seq, .int .i64 e.op.kind, .int .i64 e.op.id, .int .i64 e.op.up, .int .i64 e.op.at_, .string e.op.txt] 64)) h0 (Nat.le_refl _) hl)
  have HHS := Lib.hid (l12Has_any w.heap.size (some ⟨b, off, none⟩) cap es e (w.alloc (.cells #[.int .i64 e.who, .int .i64 e.seq, .int .i64 e.op.kind, .int .i64 e.op.id, .int .i64 e.op.up, .int .i64 e.op.at_, .string e.op.txt] 64)) hb0s h0 hl)
  generalize cntTo es e.who es.length = cn at *
  generalize hse : hasE es e = hs at *
  have HSE := Lib.hid hse
  clear hse
  go_enter Tryd.func140, Tryd.ntmps140
  go_wp2_with fail
  refine HSQ.out.mono ?_
  rintro _ _ ⟨rfl, rfl⟩
  go_wp2_with fail
  refine HHS.out.mono ?_
  rintro _ V ⟨rfl, hb1⟩
  obtain ⟨x0, x1, x2, x3, x4, x5, x6⟩ := HN.out V hb1
  have hV : Below w.heap.size w V := hb0.trans (hb1.mono hb0.size)
  have hbx : w.heap.size < V.heap.size := Nat.lt_of_lt_of_le (by simp) hb1.size
  cases hs
  · cases hq : (e.seq == (cn : Int) + 1)
    · have hq' : (e.seq != (cn : Int) + 1) = true := by rw [bne, hq]; rfl
      have HR : Hid (nextB es e = false) := by unfold Hid; rw [HNB.out, hq]; rfl
      clear HN HSQ HHS HNB hq
      go_wp2
      go_ret2
      exact ⟨hV, .inr (.inl ⟨HSE.out, HR.out, rfl⟩)⟩
    · have hq' : (e.seq != (cn : Int) + 1) = false := by rw [bne, hq]; rfl
      by_cases hlen : es.length < 40
      · have HR : Hid (nextB es e = true) := by unfold Hid; rw [HNB.out, hq]; simp [hlen]
        have i1 : ¬ (40 : Int) ≤ (es.length : Int) := by omega
        have hr := h.below hV
        have hbV : b < V.heap.size := by have := hV.size; omega
        have HV : Hid (∀ x : World, Below V.heap.size V x → x.cell? ⟨w.heap.size, 0, none⟩ = some (.int .i64 e.who) ∧ x.cell? ⟨w.heap.size, 1, none⟩ = some (.int .i64 e.seq) ∧ x.cell? ⟨w.heap.size, 2, none⟩ = some (.int .i64 e.op.kind) ∧ x.cell? ⟨w.heap.size, 3, none⟩ = some (.int .i64 e.op.id) ∧ x.cell? ⟨w.heap.size, 4, none⟩ = some (.int .i64 e.op.up) ∧ x.cell? ⟨w.heap.size, 5, none⟩ = some (.int .i64 e.op.at_) ∧ x.cell? ⟨w.heap.size, 6, none⟩ = some (.string e.op.txt)) := fun x hx => HN.out x (hb1.trans (hx.mono hb1.size))
        have o1 := own_emptyE V.drew 64
        have o2 := o1.alloc (.cells #[.int .i64 e.who, .int .i64 e.seq, .int .i64 e.op.kind, .int .i64 e.op.id, .int .i64 e.op.up, .int .i64 e.op.at_, .string e.op.txt] 64)
        have o3 := own_mono (own_emptyE (V.drew.alloc (.cells #[.int .i64 e.who, .int .i64 e.seq, .int .i64 e.op.kind, .int .i64 e.op.id, .int .i64 e.op.up, .int .i64 e.op.at_, .string e.op.txt] 64)) 64) (show V.heap.size ≤ (V.drew.alloc (.cells #[.int .i64 e.who, .int .i64 e.seq, .int .i64 e.op.kind, .int .i64 e.op.id, .int .i64 e.op.up, .int .i64 e.op.at_, .string e.op.txt] 64)).heap.size by simp)
        have d1 : Below V.heap.size V (V.drew.alloc (.cells #[] 64)) := ((Below.refl _ _).drew).alloc (Nat.le_refl _) _
        have d2 : Below V.heap.size V ((V.drew.alloc (.cells #[] 64)).alloc (.cells #[.int .i64 e.who, .int .i64 e.seq, .int .i64 e.op.kind, .int .i64 e.op.id, .int .i64 e.op.up, .int .i64 e.op.at_, .string e.op.txt] 64)) := d1.alloc d1.size _
        have d3 : Below V.heap.size V ((V.drew.alloc (.cells #[.int .i64 e.who, .int .i64 e.seq, .int .i64 e.op.kind, .int .i64 e.op.id, .int .i64 e.op.up, .int .i64 e.op.at_, .string e.op.txt] 64)).alloc (.cells #[] 64)) := (((Below.refl _ _).drew).alloc (Nat.le_refl _) _).alloc (by simp) _
        have n0 : Hid ((cellsE es).length = es.length * 7) := cellsE_len es
        have nn := hr.news
        have hre : ∀ X : World, Below V.heap.size V X → ∀ j u, (cellsE es)[j]? = some u → X.cell? ((⟨b, off, none⟩ : Addr).add j) = some u := fun X hX j u hu => by
          have := nn j u hu
          rw [addr_add] at this ⊢
          rw [hX.cell (p := ⟨b, off + j, none⟩) hbV]; exact this
        have n1 := Lib.hid (hre _ d1)
        have n2 := Lib.hid (hre _ d2)
        have n3 := Lib.hid (hre _ d3)
        have m0 : Hid ((cellsE [e]).length = 1 * 7) := rfl
        have l2 : Hid (∀ j u, (cellsE [e])[j]? = some u → ((V.drew.alloc (.cells #[] 64)).alloc (.cells #[.int .i64 e.who, .int .i64 e.seq, .int .i64 e.op.kind, .int .i64 e.op.id, .int .i64 e.op.up, .int .i64 e.op.at_, .string e.op.txt] 64)).cell? ((⟨V.heap.size + 1, 0, none⟩ : Addr).add j) = some u) := fun j u hu => by simpa using elem_cells (V.drew.alloc (.cells #[] 64)) e j u hu
        have l3 : Hid (∀ j u, (cellsE [e])[j]? = some u → ((V.drew.alloc (.cells #[.int .i64 e.who, .int .i64 e.seq, .int .i64 e.op.kind, .int .i64 e.op.id, .int .i64 e.op.up, .int .i64 e.op.at_, .string e.op.txt] 64)).alloc (.cells #[] 64)).cell? ((⟨V.heap.size, 0, none⟩ : Addr).add j) = some u) := fun j u hu => by
          rw [World.cell?_alloc_lt _ _ _ (by rw [addr_add]; simp)]; exact elem_cells V.drew e j u hu
        clear HN HSQ HHS HNB hq nn hre
        go_wp2_with fail
        go_region_law (first
          | (refine step_append_own rfl (.tmp 28) (.tmp 29) 45 rfl V.heap.size 64 i0 (.agg #[.int .i64 0, .int .i64 0, .int .i64 0, .int .i64 0, .int .i64 0, .int .i64 0, .string ⟨#[]⟩]) 7 64 Tryd.underlying45 hi hz0 hz1 hz2 rfl (by decide) _ _ _ (by simp [Act.eval]) o1 ⟨b, off, none⟩ es.length cap (cellsE es) (by simp [Act.eval]) n0.out n1.out (cellsE_plain _) (by unfold maxLen; omega) (by omega) d1.size ?_
             intro v4 w4 own4 grow4
             have hb4 : Below V.heap.size V w4 := d1.grown grow4 d1.size (own_block o1)
             have own4' : w4.ownsRow V.heap.size 64 7 v4 es.length (cellsE es) := by simpa using own4
             have L4 := True.intro
             obtain ⟨y0, y1, y2, y3, y4, y5, y6⟩ := HV.out w4 hb4
             obtain ⟨va, vc, rfl, _⟩ := own_slice own4')
          | (refine step_append_own rfl (.tmp 28) (.tmp 29) 45 rfl V.heap.size 64 i0 (.agg #[.int .i64 0, .int .i64 0, .int .i64 0, .int .i64 0, .int .i64 0, .int .i64 0, .string ⟨#[]⟩]) 7 64 Tryd.underlying45 hi hz0 hz1 hz2 rfl (by decide) _ _ _ (by simp [Act.eval]) o2 ⟨b, off, none⟩ es.length cap (cellsE es) (by simp [Act.eval]) n0.out n2.out (cellsE_plain _) (by unfold maxLen; omega) (by omega) d2.size ?_
             intro v4 w4 own4 grow4
             have hb4 : Below V.heap.size V w4 := d2.grown grow4 d2.size (own_block o2)
             have own4' : w4.ownsRow V.heap.size 64 7 v4 es.length (cellsE es) := by simpa using own4
             have L2 : Hid (∀ j u, (cellsE [e])[j]? = some u → w4.cell? ((⟨V.heap.size + 1, 0, none⟩ : Addr).add j) = some u) := fun j u hu => grow4.cell (l2.out j u hu) (by rw [addr_add]; simp [Value.ownBlock])
             obtain ⟨y0, y1, y2, y3, y4, y5, y6⟩ := HV.out w4 hb4
             obtain ⟨va, vc, rfl, _⟩ := own_slice own4')
          | (refine step_append_own rfl (.tmp 28) (.tmp 29) 45 rfl V.heap.size 64 i0 (.agg #[.int .i64 0, .int .i64 0, .int .i64 0, .int .i64 0, .int .i64 0, .int .i64 0, .string ⟨#[]⟩]) 7 64 Tryd.underlying45 hi hz0 hz1 hz2 rfl (by decide) _ _ _ (by simp [Act.eval]) o3 ⟨b, off, none⟩ es.length cap (cellsE es) (by simp [Act.eval]) n0.out n3.out (cellsE_plain _) (by unfold maxLen; omega) (by omega) d3.size ?_
             intro v4 w4 own4 grow4
             have hb4 : Below V.heap.size V w4 := d3.grown grow4 d3.size (own_block o3)
             have own4' : w4.ownsRow V.heap.size 64 7 v4 es.length (cellsE es) := by simpa using own4
             have L3 : Hid (∀ j u, (cellsE [e])[j]? = some u → w4.cell? ((⟨V.heap.size, 0, none⟩ : Addr).add j) = some u) := fun j u hu => grow4.cell (l3.out j u hu) (by rw [addr_add]; simp [Value.ownBlock])
             obtain ⟨y0, y1, y2, y3, y4, y5, y6⟩ := HV.out w4 hb4
             obtain ⟨va, vc, rfl, _⟩ := own_slice own4')
          | (refine step_append_own rfl (.tmp 30) (.tmp 32) 45 rfl V.heap.size 64 i0 (.agg #[.int .i64 0, .int .i64 0, .int .i64 0, .int .i64 0, .int .i64 0, .int .i64 0, .string ⟨#[]⟩]) 7 64 Tryd.underlying45 hi hz0 hz1 hz2 rfl (by decide) _ _ _ (by simp [Act.eval]) own4' ⟨V.heap.size + 1, 0, none⟩ 1 1 (cellsE [e]) (by simp [Act.eval]) m0.out L2.out (cellsE_plain _) (by unfold maxLen; omega) (by omega) hb4.size ?_
             intro v5 w5 own5 grow5
             have hb5 : Below V.heap.size V w5 := hb4.grown grow5 hb4.size (own_block own4')
             have own5' : w5.ownsRow V.heap.size 64 7 v5 (es.length + 1) (cellsE (es ++ [e])) := by rw [cellsE_append]; exact own5
             obtain ⟨va5, vc5, rfl, hvc5⟩ := own_slice own5')
          | (refine step_append_own rfl (.tmp 30) (.tmp 32) 45 rfl V.heap.size 64 i0 (.agg #[.int .i64 0, .int .i64 0, .int .i64 0, .int .i64 0, .int .i64 0, .int .i64 0, .string ⟨#[]⟩]) 7 64 Tryd.underlying45 hi hz0 hz1 hz2 rfl (by decide) _ _ _ (by simp [Act.eval]) own4' ⟨V.heap.size, 0, none⟩ 1 1 (cellsE [e]) (by simp [Act.eval]) m0.out L3.out (cellsE_plain _) (by unfold maxLen; omega) (by omega) hb4.size ?_
             intro v5 w5 own5 grow5
             have hb5 : Below V.heap.size V w5 := hb4.grown grow5 hb4.size (own_block own4')
             have own5' : w5.ownsRow V.heap.size 64 7 v5 (es.length + 1) (cellsE (es ++ [e])) := by rw [cellsE_append]; exact own5
             obtain ⟨va5, vc5, rfl, hvc5⟩ := own_slice own5')
          | (refine step_append_own rfl (.tmp 30) (.tmp 32) 45 rfl V.heap.size 64 i0 (.agg #[.int .i64 0, .int .i64 0, .int .i64 0, .int .i64 0, .int .i64 0, .int .i64 0, .string ⟨#[]⟩]) 7 64 Tryd.underlying45 hi hz0 hz1 hz2 rfl (by decide) _ _ _ (by simp [Act.eval]) (own4'.alloc (.cells #[.int .i64 e.who, .int .i64 e.seq, .int .i64 e.op.kind, .int .i64 e.op.id, .int .i64 e.op.up, .int .i64 e.op.at_, .string e.op.txt] 64)) ⟨w4.heap.size, 0, none⟩ 1 1 (cellsE [e]) (by simp [Act.eval]) m0.out (elem_cells w4 e) (cellsE_plain _) (by unfold maxLen; omega) (by omega) (hb4.alloc hb4.size (.cells #[.int .i64 e.who, .int .i64 e.seq, .int .i64 e.op.kind, .int .i64 e.op.id, .int .i64 e.op.up, .int .i64 e.op.at_, .string e.op.txt] 64)).size ?_
             intro v5 w5 own5 grow5
             have hb5 : Below V.heap.size V w5 := (hb4.alloc hb4.size (.cells #[.int .i64 e.who, .int .i64 e.seq, .int .i64 e.op.kind, .int .i64 e.op.id, .int .i64 e.op.up, .int .i64 e.op.at_, .string e.op.txt] 64)).grown grow5 (hb4.alloc hb4.size (.cells #[.int .i64 e.who, .int .i64 e.seq, .int .i64 e.op.kind, .int .i64 e.op.id, .int .i64 e.op.up, .int .i64 e.op.at_, .string e.op.txt] 64)).size (own_block own4')
             have own5' : w5.ownsRow V.heap.size 64 7 v5 (es.length + 1) (cellsE (es ++ [e])) := by rw [cellsE_append]; exact own5
             obtain ⟨va5, vc5, rfl, hvc5⟩ := own_slice own5'))
        all_goals
          have hW5 := hV.trans (hb5.mono hV.size)
          clear o1 o2 o3 own4 n1 n2 n3 l2 l3
          go_wp2
          go_ret2
          exact ⟨hW5, .inr (.inr ⟨HSE.out, HR.out, _, _, rfl, own_mono own5' hV.size⟩)⟩
      · have HR : Hid (nextB es e = false) := by unfold Hid; rw [HNB.out]; simp [hlen]
        have i1 : (40 : Int) ≤ (es.length : Int) := by omega
        clear HN HSQ HHS HNB hq
        go_wp2
        go_ret2
        exact ⟨hV, .inr (.inl ⟨HSE.out, HR.out, rfl⟩)⟩
  · clear HN HSQ HHS HNB
    go_wp2
    go_ret2
    exact ⟨hV, .inl ⟨HSE.out, rfl⟩⟩
end Go.Proofs.YtclhjgcapalniaaDoor
/-
  Contract of the model's LogAdd. Conditions: as each theorem says.
-/
namespace Go.Proofs.YtclhjgcapalniaaDoor
open Go.ChangeShapes Go.WideShapes Go.ChangeAt Go.RowKit Go.Joins

/-- What LogAdd gives: the log behind it, in memory of its own, and the number. -/
def RetAdd (es : List EntD) (e : EntD) (w : World) (r : Ending) (w' : World) : Prop :=
  ∃ a c, r = .returned (.tuple #[.slice a (addL es e).length c, .int .i64 (addN es e)]) ∧ w'.ownsRow w.heap.size 64 7 (.slice a (addL es e).length c) (addL es e).length (cellsE (addL es e)) ∧ Below w.heap.size w w'
theorem retAdd_mk {es l : List EntD} {e : EntD} {n : Int} (h : addL es e = l ∧ addN es e = n) {w w' : World} {a : Option Addr} {k c : Nat} (hk : k = l.length) (ho : w'.ownsRow w.heap.size 64 7 (.slice a k c) k (cellsE l)) (hb : Below w.heap.size w w') : RetAdd es e w (.returned (.tuple #[.slice a k c, .int .i64 n])) w' := by
  obtain ⟨rfl, rfl⟩ := h
  subst hk
  exact ⟨a, c, rfl, ho, hb⟩
end Go.Proofs.YtclhjgcapalniaaDoor
/-
  Contract of the program's LogAdd. Conditions: as each theorem says.
-/
namespace Go.Proofs.YtclhjgcapalniaaDoor
open Go.ChangeShapes Go.WideShapes Go.ChangeAt Go.RowKit Go.Joins
open Go.Maps

end Go.Proofs.YtclhjgcapalniaaDoor
