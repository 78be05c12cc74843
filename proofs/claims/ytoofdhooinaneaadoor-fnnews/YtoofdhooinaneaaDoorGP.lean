/-
  Joined texts, each with its own head: what it holds, and its conditions.
-/
import Derived.Test.YtoofdhooinaneaaDoorGM
import Derived.Laws.StructEq
import Derived.Lib.Strings
import Derived.OwnWalk
import Derived.Lib.SliceRun
import Derived.Test.YtoofdhooinaneaaDoorGE

/-
  Contracts of the model's l12Has and of the library's slices.Index, Contains and Clone at entries. Conditions: as each theorem says.
-/
namespace Go.Proofs.YtoofdhooinaneaaDoor
open Go.ChangeShapes Go.WideShapes Go.ChangeAt Go.RowKit Go.Joins

theorem has_next {es : List EntD} {e : EntD} {k : Nat} (h : hasTo es e k = false) (hs : sameB (eat es k) e = false) : hasTo es e (k + 1) = false := by rw [hasTo_succ, h, hs]; rfl
set_option maxRecDepth 100000 in
set_option maxHeartbeats 4000000 in
theorem l12Has_any (B : Nat) (a : Option Addr) (cap : Nat) (es : List EntD) (e : EntD) (w : World) (hB : B ≤ w.heap.size) (h : EntsAt B w a es) (hl : es.length ≤ 1048576) :
    Calls Tryd.prog 113 #[.slice a es.length cap, .agg #[.int .i64 e.who, .int .i64 e.seq, .int .i64 e.op.kind, .int .i64 e.op.id, .int .i64 e.op.up, .int .i64 e.op.at_, .string e.op.txt]] w (RetBelow (.bool (hasE es e)) w) := by
  have hb0 : Below w.heap.size w (w.alloc (.cells #[.int .i64 e.who, .int .i64 e.seq, .int .i64 e.op.kind, .int .i64 e.op.id, .int .i64 e.op.up, .int .i64 e.op.at_, .string e.op.txt] 52)) := (Below.refl _ _).alloc (Nat.le_refl _) _
  have HN := Lib.hid (ebox_new w e)
  go_enter Tryd.func113, Tryd.ntmps113
  go_wp2_with fail
  go_loopw [5] (fun t wr => ∃ k : Nat, k ≤ es.length ∧ t = .int .i64 k ∧ Hid (hasTo es e k = false) ∧ Below (w.alloc (.cells #[.int .i64 e.who, .int .i64 e.seq, .int .i64 e.op.kind, .int .i64 e.op.id, .int .i64 e.op.up, .int .i64 e.op.at_, .string e.op.txt] 52)).heap.size (w.alloc (.cells #[.int .i64 e.who, .int .i64 e.seq, .int .i64 e.op.kind, .int .i64 e.op.id, .int .i64 e.op.up, .int .i64 e.op.at_, .string e.op.txt] 52)) wr) (fun t _ => es.length - (intOf t).toNat)
  case atStart => exact ⟨0, Nat.zero_le _, rfl, hasTo_zero es e, Below.refl _ _⟩
  case round =>
    obtain ⟨k, hk, rfl, hp, hb⟩ := hrel
    have hbw := hb0.trans (hb.mono hb0.size)
    have hr := h.below (hbw.mono hB)
    by_cases hlt : k < es.length
    · obtain ⟨b, off, rfl, hbB, c0, c1, c2, c3, c4, c5, c6⟩ := hr.at_ hlt
      obtain ⟨x0, x1, x2, x3, x4, x5, x6⟩ := HN.out wr hb
      have i1 : (k : Int) < (es.length : Int) := by omega
      clear hr HN
      cases hs : sameB (eat es k) e
      · 
          have HP := Lib.hid (has_next hp.out hs)
          have hp' := ent_parts hs
          clear hp hs
          generalize eat es k = d at *
          have hbd := hb.drew
          rcases hp' with h1 | ⟨h1, h2⟩ | ⟨h1, h2, h3⟩ | ⟨h1, h2, h3, h4⟩ | ⟨h1, h2, h3, h4, h5⟩ | ⟨h1, h2, h3, h4, h5, h6⟩ | ⟨h1, h2, h3, h4, h5, h6, h7⟩
          · go_wp2_with fail
            go_region
            all_goals
              go_wp2
              go_roundw
              case rel => exact ⟨k + 1, by omega, by go_num, HP, hbd⟩
              case measure => simp [intOf]; omega
          · go_wp2_with fail
            go_region
            all_goals
              go_wp2
              go_roundw
              case rel => exact ⟨k + 1, by omega, by go_num, HP, hbd⟩
              case measure => simp [intOf]; omega
          · go_wp2_with fail
            go_region
            all_goals
              go_wp2
              go_roundw
              case rel => exact ⟨k + 1, by omega, by go_num, HP, hbd⟩
              case measure => simp [intOf]; omega
          · go_wp2_with fail
            go_region
            all_goals
              go_wp2
              go_roundw
              case rel => exact ⟨k + 1, by omega, by go_num, HP, hbd⟩
              case measure => simp [intOf]; omega
          · go_wp2_with fail
            go_region
            all_goals
              go_wp2
              go_roundw
              case rel => exact ⟨k + 1, by omega, by go_num, HP, hbd⟩
              case measure => simp [intOf]; omega
          · go_wp2_with fail
            go_region
            all_goals
              go_wp2
              go_roundw
              case rel => exact ⟨k + 1, by omega, by go_num, HP, hbd⟩
              case measure => simp [intOf]; omega
          · have h7' : ¬ e.op.txt.toList = d.op.txt.toList := fun q => h7 q.symm
            go_wp2_with fail
            go_region
            all_goals
              go_wp2
              go_roundw
              case rel => exact ⟨k + 1, by omega, by go_num, HP, hbd⟩
              case measure => simp [intOf]; omega
      · have HH := Lib.hid (hasE_at hlt hs)
        have he := sameB_iff.1 hs
        rw [he] at c0 c1 c2 c3 c4 c5 c6
        have hbd := hbw.drew
        clear hp hs he
        go_wp2_with fail
        go_region
        all_goals
          go_wp2
          go_ret
          exact ⟨by rw [HH.out]; rfl, hbd⟩
    · have HH : Hid (hasE es e = false) := by unfold Hid hasE; rw [show es.length = k by omega]; exact hp.out
      go_wp2
      go_ret
      exact ⟨by rw [HH.out]; rfl, hbw⟩

set_option maxRecDepth 100000 in
set_option maxHeartbeats 4000000 in
theorem slIndex_any (B : Nat) (a : Option Addr) (cap : Nat) (es : List EntD) (e : EntD) (w : World) (hB : B ≤ w.heap.size) (h : EntsAt B w a es) (hl : es.length ≤ 1048576) :
    Calls Tryd.prog 121 #[.slice a es.length cap, .agg #[.int .i64 e.who, .int .i64 e.seq, .int .i64 e.op.kind, .int .i64 e.op.id, .int .i64 e.op.up, .int .i64 e.op.at_, .string e.op.txt]] w (fun r w' => ∃ z : Int, r = .returned (.int .i64 z) ∧ (decide (0 ≤ z) = hasE es e) ∧ Below w.heap.size w w') := by
  have hb0 : Below w.heap.size w (w.alloc (.cells #[.int .i64 e.who, .int .i64 e.seq, .int .i64 e.op.kind, .int .i64 e.op.id, .int .i64 e.op.up, .int .i64 e.op.at_, .string e.op.txt] 52)) := (Below.refl _ _).alloc (Nat.le_refl _) _
  have HN := Lib.hid (ebox_new w e)
  go_enter Tryd.func121, Tryd.ntmps121
  go_wp2_with fail
  go_loopw [8] (fun t wr => ∃ k : Nat, k ≤ es.length ∧ t = .int .i64 k ∧ Hid (hasTo es e k = false) ∧ Below (w.alloc (.cells #[.int .i64 e.who, .int .i64 e.seq, .int .i64 e.op.kind, .int .i64 e.op.id, .int .i64 e.op.up, .int .i64 e.op.at_, .string e.op.txt] 52)).heap.size (w.alloc (.cells #[.int .i64 e.who, .int .i64 e.seq, .int .i64 e.op.kind, .int .i64 e.op.id, .int .i64 e.op.up, .int .i64 e.op.at_, .string e.op.txt] 52)) wr) (fun t _ => es.length - (intOf t).toNat)
  case atStart => exact ⟨0, Nat.zero_le _, rfl, hasTo_zero es e, Below.refl _ _⟩
  case round =>
    obtain ⟨k, hk, rfl, hp, hb⟩ := hrel
    have hbw := hb0.trans (hb.mono hb0.size)
    have hr := h.below (hbw.mono hB)
    by_cases hlt : k < es.length
    · obtain ⟨b, off, rfl, hbB, c0, c1, c2, c3, c4, c5, c6⟩ := hr.at_ hlt
      obtain ⟨x0, x1, x2, x3, x4, x5, x6⟩ := HN.out wr hb
      have i1 : (k : Int) < (es.length : Int) := by omega
      clear hr HN
      cases hs : sameB (eat es k) e
      · 
          have HP := Lib.hid (has_next hp.out hs)
          have hp' := ent_parts hs
          clear hp hs
          generalize eat es k = d at *
          have hbd := hb.drew
          rcases hp' with h1 | ⟨h1, h2⟩ | ⟨h1, h2, h3⟩ | ⟨h1, h2, h3, h4⟩ | ⟨h1, h2, h3, h4, h5⟩ | ⟨h1, h2, h3, h4, h5, h6⟩ | ⟨h1, h2, h3, h4, h5, h6, h7⟩
          · go_wp2_with fail
            go_region
            all_goals
              go_wp2
              go_roundw
              case rel => exact ⟨k + 1, by omega, by go_num, HP, hbd⟩
              case measure => simp [intOf]; omega
          · go_wp2_with fail
            go_region
            all_goals
              go_wp2
              go_roundw
              case rel => exact ⟨k + 1, by omega, by go_num, HP, hbd⟩
              case measure => simp [intOf]; omega
          · go_wp2_with fail
            go_region
            all_goals
              go_wp2
              go_roundw
              case rel => exact ⟨k + 1, by omega, by go_num, HP, hbd⟩
              case measure => simp [intOf]; omega
          · go_wp2_with fail
            go_region
            all_goals
              go_wp2
              go_roundw
              case rel => exact ⟨k + 1, by omega, by go_num, HP, hbd⟩
              case measure => simp [intOf]; omega
          · go_wp2_with fail
            go_region
            all_goals
              go_wp2
              go_roundw
              case rel => exact ⟨k + 1, by omega, by go_num, HP, hbd⟩
              case measure => simp [intOf]; omega
          · go_wp2_with fail
            go_region
            all_goals
              go_wp2
              go_roundw
              case rel => exact ⟨k + 1, by omega, by go_num, HP, hbd⟩
              case measure => simp [intOf]; omega
          · have h7' : ¬ e.op.txt.toList = d.op.txt.toList := fun q => h7 q.symm
            go_wp2_with fail
            go_region
            all_goals
              go_wp2
              go_roundw
              case rel => exact ⟨k + 1, by omega, by go_num, HP, hbd⟩
              case measure => simp [intOf]; omega
      · have HH := Lib.hid (hasE_at hlt hs)
        have he := sameB_iff.1 hs
        rw [he] at c0 c1 c2 c3 c4 c5 c6
        have hbd := hbw.drew
        clear hp hs he
        go_wp2_with fail
        go_region
        all_goals
          go_wp2
          go_ret
          exact ⟨(k : Int), rfl, by rw [HH.out]; simp, hbd⟩
    · have HH : Hid (hasE es e = false) := by unfold Hid hasE; rw [show es.length = k by omega]; exact hp.out
      go_wp2
      go_ret
      exact ⟨-1, rfl, by rw [HH.out]; rfl, hbw⟩

set_option maxRecDepth 100000 in
theorem slContains_any (B : Nat) (a : Option Addr) (cap : Nat) (es : List EntD) (e : EntD) (w : World) (hB : B ≤ w.heap.size) (h : EntsAt B w a es) (hl : es.length ≤ 1048576) :
    Calls Tryd.prog 120 #[.slice a es.length cap, .agg #[.int .i64 e.who, .int .i64 e.seq, .int .i64 e.op.kind, .int .i64 e.op.id, .int .i64 e.op.up, .int .i64 e.op.at_, .string e.op.txt]] w (RetBelow (.bool (hasE es e)) w) := by
  have hb0 : Below w.heap.size w (w.alloc (.cells #[.int .i64 e.who, .int .i64 e.seq, .int .i64 e.op.kind, .int .i64 e.op.id, .int .i64 e.op.up, .int .i64 e.op.at_, .string e.op.txt] 52)) := (Below.refl _ _).alloc (Nat.le_refl _) _
  have HC := Lib.hid (slIndex_any B a cap es e (w.alloc (.cells #[.int .i64 e.who, .int .i64 e.seq, .int .i64 e.op.kind, .int .i64 e.op.id, .int .i64 e.op.up, .int .i64 e.op.at_, .string e.op.txt] 52)) (Nat.le_trans hB hb0.size) (h.below (hb0.mono hB)) hl)
  go_enter Tryd.func120, Tryd.ntmps120
  go_wp2_with fail
  refine HC.out.mono ?_
  rintro _ w1 ⟨z, rfl, hz, hb1⟩
  go_wp2
  go_ret
  exact ⟨by rw [← hz]; rfl, hb0.trans (hb1.mono hb0.size)⟩
theorem own_valE {w : World} {base : Nat} {t : TypeId} {size : Nat} {v : Value} {n : Nat} {xs : List Value} (h : w.ownsRow base t size v n xs) : ∃ a cap, v = .slice a n cap ∧ n ≤ cap ∧ cap ≤ maxLen := by
  rcases h.2 with ⟨h1, h0⟩ | ⟨g, cap', cur, hv, hg, hh, h1, h2, _⟩
  · exact ⟨none, 0, by rw [h1, h0], by omega, Nat.zero_le _⟩
  · exact ⟨_, cap', hv, h1, h2⟩
theorem own_blockE {w : World} {base : Nat} {t : TypeId} {size : Nat} {v : Value} {n : Nat} {xs : List Value} (h : w.ownsRow base t size v n xs) : ∀ k, v.ownBlock = some k → base ≤ k := by
  intro k hk
  rcases h.2 with ⟨h1, h0⟩ | ⟨g, cap', cur, hv, hg, hh, h1, h2, _⟩
  · rw [h1] at hk; cases hk
  · rw [hv] at hk; cases hk; exact hg
set_option maxRecDepth 100000 in
theorem slClone_any (b off cap : Nat) (es : List EntD) (w : World) (hb : b < w.heap.size) (h : EntsAt w.heap.size w (some ⟨b, off, none⟩) es) (hl : es.length ≤ 1048576) :
    Calls Tryd.prog 85 #[.slice (some ⟨b, off, none⟩) es.length cap] w (RetOwnE es w) := by
  obtain ⟨i0, hi, hz0, hz1, hz2⟩ := info_parts infoEnt
  have hown0 := own_emptyE w 52
  have HNW := Lib.hid h.news
  have hnil : (binOp .eql 25 (.slice (some ⟨b, off, none⟩) es.length cap) (.slice none 0 0)).run Tryd.prog w = .ok (.bool false) w := Lib.run_eql_slice_nil w 25 52 (some ⟨b, off, none⟩) es.length cap 0 0 Tryd.underlying25
  go_enter Tryd.func85, Tryd.ntmps85
  go_wp2_with (at_builtin; refine wpList_append_own _ rfl _ _ 25 rfl w.heap.size 52 i0 (.agg #[.int .i64 0, .int .i64 0, .int .i64 0, .int .i64 0, .int .i64 0, .int .i64 0, .string ⟨#[]⟩]) 7 64 Tryd.underlying25 hi hz0 hz1 hz2 rfl (by decide) _ _ _ rfl hown0 ⟨b, off, none⟩ es.length cap (cellsE es) rfl ?c0 ?c1 ?c2 ?c3 ?c4 ?c5 ?_)
  case c0 => rw [cellsE_len]
  case c1 => intro j u hu; rw [World.cell?_alloc_lt _ _ _ (by rw [addr_add]; exact hb)]; exact HNW.out j u hu
  case c2 => exact cellsE_plain _
  case c3 => unfold maxLen; omega
  case c4 => omega
  case c5 => simp
  intro v3 w3 own3 grow3 _
  have hb3 : Below w.heap.size w w3 := ((Below.refl _ w).alloc (Nat.le_refl _) (.cells #[] 52)).grown grow3 (by simp) (own_blockE hown0)
  have own3' : w3.ownsRow w.heap.size 52 7 v3 es.length (cellsE es) := by simpa using own3
  obtain ⟨a', c', rfl, hc1, hc2⟩ := own_valE own3'
  clear own3 hi hz0 hz1 hz2
  go_wp2
  go_ret
  exact ⟨a', c', rfl, own3', hc1, hb3⟩
end Go.Proofs.YtoofdhooinaneaaDoor
/-
  Contracts of the model's l12Add and LogAdd. Conditions: as each theorem says.
-/
namespace Go.Proofs.YtoofdhooinaneaaDoor
open Go.ChangeShapes Go.WideShapes Go.ChangeAt Go.RowKit Go.Joins

theorem add_no {es : List EntD} {e : EntD} (h : okAdd es e = false) : addL es e = [] ∧ addN es e = -1 := by simp [addL, addN, h]
theorem add_has {es : List EntD} {e : EntD} (h : okAdd es e = true) (h1 : hasE es e = true) : addL es e = es ∧ addN es e = 0 := by simp [addL, addN, h, h1]
theorem add_gap {es : List EntD} {e : EntD} (h : okAdd es e = true) (h1 : hasE es e = false) (h2 : nextB es e = false) : addL es e = es ∧ addN es e = -1 := by simp [addL, addN, h, h1, h2]
theorem add_new {es : List EntD} {e : EntD} (h : okAdd es e = true) (h1 : hasE es e = false) (h2 : nextB es e = true) : addL es e = es ++ [e] ∧ addN es e = 1 := by simp [addL, addN, h, h1, h2]
theorem elem_cells (w : World) (e : EntD) : ∀ j u, (cellsE [e])[j]? = some u → (w.alloc (.cells #[.int .i64 e.who, .int .i64 e.seq, .int .i64 e.op.kind, .int .i64 e.op.id, .int .i64 e.op.up, .int .i64 e.op.at_, .string e.op.txt] 52)).cell? ((⟨w.heap.size, 0, none⟩ : Addr).add j) = some u := by
  intro j u hu
  rw [addr_add, Nat.zero_add]
  have hj : j < 7 := by
    have := (List.getElem?_eq_some_iff.1 hu).1
    simpa [cellsE] using this
  match j, hj with
  | 0, _ => simpa [cellsE, go_sem] using hu
  | 1, _ => simpa [cellsE, go_sem] using hu
  | 2, _ => simpa [cellsE, go_sem] using hu
  | 3, _ => simpa [cellsE, go_sem] using hu
  | 4, _ => simpa [cellsE, go_sem] using hu
  | 5, _ => simpa [cellsE, go_sem] using hu
  | 6, _ => simpa [cellsE, go_sem] using hu
/-- The region of l12Add that copies a log and puts an entry behind it, and the like: one entry behind a slice of one's own. -/
def AddE (b off cap : Nat) (es : List EntD) (e : EntD) (w : World) (r : Ending) (w' : World) : Prop :=
  Below w.heap.size w w' ∧ ((hasE es e = true ∧ r = .returned (.tuple #[.slice (some ⟨b, off, none⟩) es.length cap, .int .i64 0])) ∨ (hasE es e = false ∧ nextB es e = false ∧ r = .returned (.tuple #[.slice (some ⟨b, off, none⟩) es.length cap, .int .i64 (-1)])) ∨
    (hasE es e = false ∧ nextB es e = true ∧ ∃ a c, r = .returned (.tuple #[.slice a (es.length + 1) c, .int .i64 1]) ∧ w'.ownsRow w.heap.size 52 7 (.slice a (es.length + 1) c) (es.length + 1) (cellsE (es ++ [e]))))
set_option maxRecDepth 100000 in
set_option maxHeartbeats 4000000 in
theorem l12Add_any (b off cap : Nat) (es : List EntD) (e : EntD) (w : World) (hbb : b < w.heap.size) (h : EntsAt w.heap.size w (some ⟨b, off, none⟩) es) (hl : es.length ≤ 1048576) :
    Calls Tryd.prog 87 #[.slice (some ⟨b, off, none⟩) es.length cap, .agg #[.int .i64 e.who, .int .i64 e.seq, .int .i64 e.op.kind, .int .i64 e.op.id, .int .i64 e.op.up, .int .i64 e.op.at_, .string e.op.txt]] w (AddE b off cap es e w) := by
  obtain ⟨i0, hi, hz0, hz1, hz2⟩ := info_parts infoEnt
  have hb0 : Below w.heap.size w (w.alloc (.cells #[.int .i64 e.who, .int .i64 e.seq, .int .i64 e.op.kind, .int .i64 e.op.id, .int .i64 e.op.up, .int .i64 e.op.at_, .string e.op.txt] 52)) := (Below.refl _ _).alloc (Nat.le_refl _) _
  have h0 := h.below hb0
  have hb0s := hb0.size
  have HN := Lib.hid (ebox_new w e)
  have hcn := cntTo_le es e.who es.length
  have HNB : Hid (nextB es e = ((e.seq == (cntTo es e.who es.length : Int) + 1) && decide (es.length < 40))) := rfl
  have HSQ := Lib.hid (l12Seq_any w.heap.size (some ⟨b, off, none⟩) cap es e.who es.length (w.alloc (.cells #[.int .i64 e.who, .int .i64 e.seq, .int .i64 e.op.kind, .int .i64 e.op.id, .int .i64 e.op.up, .int .i64 e.op.at_, .string e.op.txt] 52)) h0 (Nat.le_refl _) hl)
  have HHS := Lib.hid (l12Has_any w.heap.size (some ⟨b, off, none⟩) cap es e (w.alloc (.cells #[.int .i64 e.who, .int .i64 e.seq, .int .i64 e.op.kind, .int .i64 e.op.id, .int .i64 e.op.up, .int .i64 e.op.at_, .string e.op.txt] 52)) hb0s h0 hl)
  generalize cntTo es e.who es.length = cn at *
  generalize hse : hasE es e = hs at *
  have HSE := Lib.hid hse
  clear hse
  go_enter Tryd.func87, Tryd.ntmps87
  go_wp2_with fail
  refine HSQ.out.mono ?_
  rintro _ _ ⟨rfl, rfl⟩
  go_wp2_with fail
  refine HHS.out.mono ?_
  rintro _ V ⟨rfl, hb1⟩
  obtain ⟨x0, x1, x2, x3, x4, x5, x6⟩ := HN.out V hb1
  have hV : Below w.heap.size w V := hb0.trans (hb1.mono hb0.size)
  have hbx : w.heap.size < V.heap.size := Nat.lt_of_lt_of_le (by simp) hb1.size
  cases hs
  · cases hq : (e.seq == (cn : Int) + 1)
    · have hq' : (e.seq != (cn : Int) + 1) = true := by rw [bne, hq]; rfl
      have HR : Hid (nextB es e = false) := by unfold Hid; rw [HNB.out, hq]; rfl
      clear HN HSQ HHS HNB hq
      go_wp2
      go_ret2
      exact ⟨hV, .inr (.inl ⟨HSE.out, HR.out, rfl⟩)⟩
    · have hq' : (e.seq != (cn : Int) + 1) = false := by rw [bne, hq]; rfl
      by_cases hlen : es.length < 40
      · have HR : Hid (nextB es e = true) := by unfold Hid; rw [HNB.out, hq]; simp [hlen]
        have i1 : ¬ (40 : Int) ≤ (es.length : Int) := by omega
        have hr := h.below hV
        have hbV : b < V.heap.size := by have := hV.size; omega
        have HV : Hid (∀ x : World, Below V.heap.size V x → x.cell? ⟨w.heap.size, 0, none⟩ = some (.int .i64 e.who) ∧ x.cell? ⟨w.heap.size, 1, none⟩ = some (.int .i64 e.seq) ∧ x.cell? ⟨w.heap.size, 2, none⟩ = some (.int .i64 e.op.kind) ∧ x.cell? ⟨w.heap.size, 3, none⟩ = some (.int .i64 e.op.id) ∧ x.cell? ⟨w.heap.size, 4, none⟩ = some (.int .i64 e.op.up) ∧ x.cell? ⟨w.heap.size, 5, none⟩ = some (.int .i64 e.op.at_) ∧ x.cell? ⟨w.heap.size, 6, none⟩ = some (.string e.op.txt)) := fun x hx => HN.out x (hb1.trans (hx.mono hb1.size))
        have o1 := own_emptyE V.drew 52
        have o2 := o1.alloc (.cells #[.int .i64 e.who, .int .i64 e.seq, .int .i64 e.op.kind, .int .i64 e.op.id, .int .i64 e.op.up, .int .i64 e.op.at_, .string e.op.txt] 52)
        have o3 := own_mono (own_emptyE (V.drew.alloc (.cells #[.int .i64 e.who, .int .i64 e.seq, .int .i64 e.op.kind, .int .i64 e.op.id, .int .i64 e.op.up, .int .i64 e.op.at_, .string e.op.txt] 52)) 52) (show V.heap.size ≤ (V.drew.alloc (.cells #[.int .i64 e.who, .int .i64 e.seq, .int .i64 e.op.kind, .int .i64 e.op.id, .int .i64 e.op.up, .int .i64 e.op.at_, .string e.op.txt] 52)).heap.size by simp)
        have d1 : Below V.heap.size V (V.drew.alloc (.cells #[] 52)) := ((Below.refl _ _).drew).alloc (Nat.le_refl _) _
        have d2 : Below V.heap.size V ((V.drew.alloc (.cells #[] 52)).alloc (.cells #[.int .i64 e.who, .int .i64 e.seq, .int .i64 e.op.kind, .int .i64 e.op.id, .int .i64 e.op.up, .int .i64 e.op.at_, .string e.op.txt] 52)) := d1.alloc d1.size _
        have d3 : Below V.heap.size V ((V.drew.alloc (.cells #[.int .i64 e.who, .int .i64 e.seq, .int .i64 e.op.kind, .int .i64 e.op.id, .int .i64 e.op.up, .int .i64 e.op.at_, .string e.op.txt] 52)).alloc (.cells #[] 52)) := (((Below.refl _ _).drew).alloc (Nat.le_refl _) _).alloc (by simp) _
        have n0 : Hid ((cellsE es).length = es.length * 7) := cellsE_len es
        have nn := hr.news
        have hre : ∀ X : World, Below V.heap.size V X → ∀ j u, (cellsE es)[j]? = some u → X.cell? ((⟨b, off, none⟩ : Addr).add j) = some u := fun X hX j u hu => by
          have := nn j u hu
          rw [addr_add] at this ⊢
          rw [hX.cell (p := ⟨b, off + j, none⟩) hbV]; exact this
        have n1 := Lib.hid (hre _ d1)
        have n2 := Lib.hid (hre _ d2)
        have n3 := Lib.hid (hre _ d3)
        have m0 : Hid ((cellsE [e]).length = 1 * 7) := rfl
        have l2 : Hid (∀ j u, (cellsE [e])[j]? = some u → ((V.drew.alloc (.cells #[] 52)).alloc (.cells #[.int .i64 e.who, .int .i64 e.seq, .int .i64 e.op.kind, .int .i64 e.op.id, .int .i64 e.op.up, .int .i64 e.op.at_, .string e.op.txt] 52)).cell? ((⟨V.heap.size + 1, 0, none⟩ : Addr).add j) = some u) := fun j u hu => by simpa using elem_cells (V.drew.alloc (.cells #[] 52)) e j u hu
        have l3 : Hid (∀ j u, (cellsE [e])[j]? = some u → ((V.drew.alloc (.cells #[.int .i64 e.who, .int .i64 e.seq, .int .i64 e.op.kind, .int .i64 e.op.id, .int .i64 e.op.up, .int .i64 e.op.at_, .string e.op.txt] 52)).alloc (.cells #[] 52)).cell? ((⟨V.heap.size, 0, none⟩ : Addr).add j) = some u) := fun j u hu => by
          rw [World.cell?_alloc_lt _ _ _ (by rw [addr_add]; simp)]; exact elem_cells V.drew e j u hu
        clear HN HSQ HHS HNB hq nn hre
        go_wp2_with fail
        go_region_law (first
          | (refine step_append_own rfl (.tmp 28) (.tmp 29) 25 rfl V.heap.size 52 i0 (.agg #[.int .i64 0, .int .i64 0, .int .i64 0, .int .i64 0, .int .i64 0, .int .i64 0, .string ⟨#[]⟩]) 7 64 Tryd.underlying25 hi hz0 hz1 hz2 rfl (by decide) _ _ _ (by simp [Act.eval]) o1 ⟨b, off, none⟩ es.length cap (cellsE es) (by simp [Act.eval]) n0.out n1.out (cellsE_plain _) (by unfold maxLen; omega) (by omega) d1.size ?_
             intro v4 w4 own4 grow4
             have hb4 : Below V.heap.size V w4 := d1.grown grow4 d1.size (own_block o1)
             have own4' : w4.ownsRow V.heap.size 52 7 v4 es.length (cellsE es) := by simpa using own4
             have L4 := True.intro
             obtain ⟨y0, y1, y2, y3, y4, y5, y6⟩ := HV.out w4 hb4
             obtain ⟨va, vc, rfl, _⟩ := own_slice own4')
          | (refine step_append_own rfl (.tmp 28) (.tmp 29) 25 rfl V.heap.size 52 i0 (.agg #[.int .i64 0, .int .i64 0, .int .i64 0, .int .i64 0, .int .i64 0, .int .i64 0, .string ⟨#[]⟩]) 7 64 Tryd.underlying25 hi hz0 hz1 hz2 rfl (by decide) _ _ _ (by simp [Act.eval]) o2 ⟨b, off, none⟩ es.length cap (cellsE es) (by simp [Act.eval]) n0.out n2.out (cellsE_plain _) (by unfold maxLen; omega) (by omega) d2.size ?_
             intro v4 w4 own4 grow4
             have hb4 : Below V.heap.size V w4 := d2.grown grow4 d2.size (own_block o2)
             have own4' : w4.ownsRow V.heap.size 52 7 v4 es.length (cellsE es) := by simpa using own4
             have L2 : Hid (∀ j u, (cellsE [e])[j]? = some u → w4.cell? ((⟨V.heap.size + 1, 0, none⟩ : Addr).add j) = some u) := fun j u hu => grow4.cell (l2.out j u hu) (by rw [addr_add]; simp [Value.ownBlock])
             obtain ⟨y0, y1, y2, y3, y4, y5, y6⟩ := HV.out w4 hb4
             obtain ⟨va, vc, rfl, _⟩ := own_slice own4')
          | (refine step_append_own rfl (.tmp 28) (.tmp 29) 25 rfl V.heap.size 52 i0 (.agg #[.int .i64 0, .int .i64 0, .int .i64 0, .int .i64 0, .int .i64 0, .int .i64 0, .string ⟨#[]⟩]) 7 64 Tryd.underlying25 hi hz0 hz1 hz2 rfl (by decide) _ _ _ (by simp [Act.eval]) o3 ⟨b, off, none⟩ es.length cap (cellsE es) (by simp [Act.eval]) n0.out n3.out (cellsE_plain _) (by unfold maxLen; omega) (by omega) d3.size ?_
             intro v4 w4 own4 grow4
             have hb4 : Below V.heap.size V w4 := d3.grown grow4 d3.size (own_block o3)
             have own4' : w4.ownsRow V.heap.size 52 7 v4 es.length (cellsE es) := by simpa using own4
             have L3 : Hid (∀ j u, (cellsE [e])[j]? = some u → w4.cell? ((⟨V.heap.size, 0, none⟩ : Addr).add j) = some u) := fun j u hu => grow4.cell (l3.out j u hu) (by rw [addr_add]; simp [Value.ownBlock])
             obtain ⟨y0, y1, y2, y3, y4, y5, y6⟩ := HV.out w4 hb4
             obtain ⟨va, vc, rfl, _⟩ := own_slice own4')
          | (refine step_append_own rfl (.tmp 30) (.tmp 32) 25 rfl V.heap.size 52 i0 (.agg #[.int .i64 0, .int .i64 0, .int .i64 0, .int .i64 0, .int .i64 0, .int .i64 0, .string ⟨#[]⟩]) 7 64 Tryd.underlying25 hi hz0 hz1 hz2 rfl (by decide) _ _ _ (by simp [Act.eval]) own4' ⟨V.heap.size + 1, 0, none⟩ 1 1 (cellsE [e]) (by simp [Act.eval]) m0.out L2.out (cellsE_plain _) (by unfold maxLen; omega) (by omega) hb4.size ?_
             intro v5 w5 own5 grow5
             have hb5 : Below V.heap.size V w5 := hb4.grown grow5 hb4.size (own_block own4')
             have own5' : w5.ownsRow V.heap.size 52 7 v5 (es.length + 1) (cellsE (es ++ [e])) := by rw [cellsE_append]; exact own5
             obtain ⟨va5, vc5, rfl, hvc5⟩ := own_slice own5')
          | (refine step_append_own rfl (.tmp 30) (.tmp 32) 25 rfl V.heap.size 52 i0 (.agg #[.int .i64 0, .int .i64 0, .int .i64 0, .int .i64 0, .int .i64 0, .int .i64 0, .string ⟨#[]⟩]) 7 64 Tryd.underlying25 hi hz0 hz1 hz2 rfl (by decide) _ _ _ (by simp [Act.eval]) own4' ⟨V.heap.size, 0, none⟩ 1 1 (cellsE [e]) (by simp [Act.eval]) m0.out L3.out (cellsE_plain _) (by unfold maxLen; omega) (by omega) hb4.size ?_
             intro v5 w5 own5 grow5
             have hb5 : Below V.heap.size V w5 := hb4.grown grow5 hb4.size (own_block own4')
             have own5' : w5.ownsRow V.heap.size 52 7 v5 (es.length + 1) (cellsE (es ++ [e])) := by rw [cellsE_append]; exact own5
             obtain ⟨va5, vc5, rfl, hvc5⟩ := own_slice own5')
          | (refine step_append_own rfl (.tmp 30) (.tmp 32) 25 rfl V.heap.size 52 i0 (.agg #[.int .i64 0, .int .i64 0, .int .i64 0, .int .i64 0, .int .i64 0, .int .i64 0, .string ⟨#[]⟩]) 7 64 Tryd.underlying25 hi hz0 hz1 hz2 rfl (by decide) _ _ _ (by simp [Act.eval]) (own4'.alloc (.cells #[.int .i64 e.who, .int .i64 e.seq, .int .i64 e.op.kind, .int .i64 e.op.id, .int .i64 e.op.up, .int .i64 e.op.at_, .string e.op.txt] 52)) ⟨w4.heap.size, 0, none⟩ 1 1 (cellsE [e]) (by simp [Act.eval]) m0.out (elem_cells w4 e) (cellsE_plain _) (by unfold maxLen; omega) (by omega) (hb4.alloc hb4.size (.cells #[.int .i64 e.who, .int .i64 e.seq, .int .i64 e.op.kind, .int .i64 e.op.id, .int .i64 e.op.up, .int .i64 e.op.at_, .string e.op.txt] 52)).size ?_
             intro v5 w5 own5 grow5
             have hb5 : Below V.heap.size V w5 := (hb4.alloc hb4.size (.cells #[.int .i64 e.who, .int .i64 e.seq, .int .i64 e.op.kind, .int .i64 e.op.id, .int .i64 e.op.up, .int .i64 e.op.at_, .string e.op.txt] 52)).grown grow5 (hb4.alloc hb4.size (.cells #[.int .i64 e.who, .int .i64 e.seq, .int .i64 e.op.kind, .int .i64 e.op.id, .int .i64 e.op.up, .int .i64 e.op.at_, .string e.op.txt] 52)).size (own_block own4')
             have own5' : w5.ownsRow V.heap.size 52 7 v5 (es.length + 1) (cellsE (es ++ [e])) := by rw [cellsE_append]; exact own5
             obtain ⟨va5, vc5, rfl, hvc5⟩ := own_slice own5'))
        all_goals
          have hW5 := hV.trans (hb5.mono hV.size)
          clear o1 o2 o3 own4 n1 n2 n3 l2 l3
          go_wp2
          go_ret2
          exact ⟨hW5, .inr (.inr ⟨HSE.out, HR.out, _, _, rfl, own_mono own5' hV.size⟩)⟩
      · have HR : Hid (nextB es e = false) := by unfold Hid; rw [HNB.out]; simp [hlen]
        have i1 : (40 : Int) ≤ (es.length : Int) := by omega
        clear HN HSQ HHS HNB hq
        go_wp2
        go_ret2
        exact ⟨hV, .inr (.inl ⟨HSE.out, HR.out, rfl⟩)⟩
  · clear HN HSQ HHS HNB
    go_wp2
    go_ret2
    exact ⟨hV, .inl ⟨HSE.out, rfl⟩⟩
end Go.Proofs.YtoofdhooinaneaaDoor
/-
  Contract of the model's LogAdd. Conditions: as each theorem says.
-/
namespace Go.Proofs.YtoofdhooinaneaaDoor
open Go.ChangeShapes Go.WideShapes Go.ChangeAt Go.RowKit Go.Joins

/-- What LogAdd gives: the log behind it, in memory of its own, and the number. -/
def RetAdd (es : List EntD) (e : EntD) (w : World) (r : Ending) (w' : World) : Prop :=
  ∃ a c, r = .returned (.tuple #[.slice a (addL es e).length c, .int .i64 (addN es e)]) ∧ w'.ownsRow w.heap.size 52 7 (.slice a (addL es e).length c) (addL es e).length (cellsE (addL es e)) ∧ Below w.heap.size w w'
theorem retAdd_mk {es l : List EntD} {e : EntD} {n : Int} (h : addL es e = l ∧ addN es e = n) {w w' : World} {a : Option Addr} {k c : Nat} (hk : k = l.length) (ho : w'.ownsRow w.heap.size 52 7 (.slice a k c) k (cellsE l)) (hb : Below w.heap.size w w') : RetAdd es e w (.returned (.tuple #[.slice a k c, .int .i64 n])) w' := by
  obtain ⟨rfl, rfl⟩ := h
  subst hk
  exact ⟨a, c, rfl, ho, hb⟩
end Go.Proofs.YtoofdhooinaneaaDoor
/-
  Contract of the program's LogAdd. Conditions: as each theorem says.
-/
namespace Go.Proofs.YtoofdhooinaneaaDoor
open Go.ChangeShapes Go.WideShapes Go.ChangeAt Go.RowKit Go.Joins
open Go.Maps

set_option maxRecDepth 100000 in
set_option maxHeartbeats 4000000 in
theorem implLogAdd_any (b off cap : Nat) (es : List EntD) (e : EntD) (w : World) (hbb : b < w.heap.size) (h : EntsAt w.heap.size w (some ⟨b, off, none⟩) es) (hf : EntsFit es) (he : EFit e) (ht : Tab w) :
    Calls Tryd.prog 114 #[.slice (some ⟨b, off, none⟩) es.length cap, .agg #[.int .i64 e.who, .int .i64 e.seq, .int .i64 e.op.kind, .int .i64 e.op.id, .int .i64 e.op.up, .int .i64 e.op.at_, .string e.op.txt]] w (RetAdd es e w) := by
  obtain ⟨i0, hi, hz0, hz1, hz2⟩ := info_parts infoEnt
  have hl := hf.1
  have hz := ht.pos
  have hb0 : Below w.heap.size w (w.alloc (.cells #[.int .i64 e.who, .int .i64 e.seq, .int .i64 e.op.kind, .int .i64 e.op.id, .int .i64 e.op.up, .int .i64 e.op.at_, .string e.op.txt] 52)) := (Below.refl _ _).alloc (Nat.le_refl _) _
  have h0 := h.below hb0
  have HN := Lib.hid (ebox_new w e)
  have HL := Lib.hid (countLog_any w.heap.size (some ⟨b, off, none⟩) cap es (w.alloc (.cells #[.int .i64 e.who, .int .i64 e.seq, .int .i64 e.op.kind, .int .i64 e.op.id, .int .i64 e.op.up, .int .i64 e.op.at_, .string e.op.txt] 52)) hb0.size h0 hf (ht.below hb0 hz))
  have HE : Hid (∀ x, Below w.heap.size w x → Calls Tryd.prog 58 #[.agg #[.int .i64 e.who, .int .i64 e.seq, .int .i64 e.op.kind, .int .i64 e.op.id, .int .i64 e.op.up, .int .i64 e.op.at_, .string e.op.txt]] x (RetBelow (.bool (entB e)) x)) := fun x hx => implEntryOk_any e x (ht.below hx hz) he
  have HOK : Hid (okAdd es e = (logB es && entB e)) := rfl
  have hkey : keyOf Tryd.prog 3 (.int .i64 e.who) = some (.int .i64 e.who) := keyOf_int_mk Tryd.underlying3 (wf_key he.who)
  have HBAD : Hid (∀ (V : World), Below w.heap.size w V → okAdd es e = false → RetAdd es e w (.returned (.tuple #[.slice none 0 0, .int .i64 (-1)])) V) := fun V hV hno => retAdd_mk (add_no hno) rfl ⟨rfl, .inl ⟨rfl, rfl⟩⟩ hV
  have HNB : Hid (nextB es e = ((e.seq == (cntTo es e.who es.length : Int) + 1) && decide (es.length < 40))) := rfl
  have hcn := cntTo_le es e.who es.length
  have HCI : Hid (cntI es es.length e.who = (cntTo es e.who es.length : Int)) := rfl
  generalize cntTo es e.who es.length = cn at *
  generalize entB e = eb at *
  go_enter Tryd.func114, Tryd.ntmps114
  go_wp2_with fail
  refine HL.out.mono ?_
  rintro _ V ⟨hb1, ⟨hlg, mb, rfl, hmb, hM⟩ | ⟨hlg, rfl⟩⟩
  · have hlen : es.length ≤ 40 := (logB_to hlg).2
    have HLG := Lib.hid hlg
    clear hlg
    obtain ⟨x0, x1, x2, x3, x4, x5, x6⟩ := HN.out V hb1
    have hV : Below w.heap.size w V := hb0.trans (hb1.mono hb0.size)
    go_wp2_with fail
    refine (HE.out V hV).mono ?_
    rintro _ V2 ⟨rfl, hb2⟩
    have hV2 : Below w.heap.size w V2 := hV.trans (hb2.mono hV.size)
    have n2 := hb1.trans (hb2.mono hb1.size)
    have hM2 := hM.below hb2 hM.lt
    clear x0 x1 x2 x3 x4 x5 x6 hM
    cases eb
    · have HR := Lib.hid (HBAD.out V2 hV2 (by rw [HOK.out]; simp))
      clear HN HL HE HOK HBAD
      go_wp2
      go_ret2
      exact HR.out
    · have hok : Hid (okAdd es e = true) := by unfold Hid; rw [HOK.out, HLG.out]; rfl
      have hr2 := (h.below hV2).mono hV2.size
      have HCL := Lib.hid (slClone_any b off cap es V2 (Nat.lt_of_lt_of_le hbb hV2.size) hr2 hl)
      clear HL HE HOK HBAD HLG hr2
      go_wp2_with fail
      refine HCL.out.mono ?_
      rintro _ V3 ⟨a1, c1, rfl, own3, hc3, hb3⟩
      have hV3 := hV2.trans (hb3.mono hV2.size)
      have n3 := n2.trans (hb3.mono n2.size)
      have hM3 := hM2.below hb3 hM2.lt
      have HCT := Lib.hid (slContains_any V3.heap.size a1 c1 es e V3 (Nat.le_refl _) (entsAt_own own3) hl)
      obtain ⟨x0, x1, x2, x3, x4, x5, x6⟩ := HN.out V3 n3
      clear hM2 HCL
      go_wp2_with fail
      refine HCT.out.mono ?_
      rintro _ V4 ⟨rfl, hb4⟩
      have hV4 := hV3.trans (hb4.mono hV3.size)
      have n4 := n3.trans (hb4.mono n3.size)
      have hM4 := hM3.below hb4 hM3.lt
      have own4 := own_below own3 hb4
      clear x0 x1 x2 x3 x4 x5 x6 hM3 own3 HCT
      obtain ⟨x0, x1, x2, x3, x4, x5, x6⟩ := HN.out V4 n4
      have hbx : w.heap.size < V4.heap.size := Nat.lt_of_lt_of_le (by simp) n4.size
      generalize hse : hasE es e = hs at *
      have HSE := Lib.hid hse
      clear hse
      cases hs
      · obtain ⟨D, hown, hat⟩ := hM4
        have hatw := hat e.who
        rw [HCI.out] at hatw
        clear hat HCI
        cases hq : (e.seq == (cn : Int) + 1)
        · have hq' : (e.seq != (cn : Int) + 1) = true := by rw [bne, hq]; rfl
          have HR : Hid (nextB es e = false) := by unfold Hid; rw [HNB.out, hq]; rfl
          have HF := Lib.hid (retAdd_mk (add_gap hok.out HSE.out HR.out) rfl (own_mono own4 hV2.size) hV4)
          clear HN HNB hq own4 hi hz0 hz1 hz2 hok
          go_wp2_with (first
            | (at_lookup; refine wpList_lookup_own_int _ rfl _ _ 84 rfl 3 3 .i64 lawInt Tryd.underlying84 Tryd.underlying3 (zeroInt _) mb es.length _ rfl hown _ _ rfl hkey ?_; intro cc hat1 hwc1; obtain rfl : cc = (cn : Int) := lit_inj (hat1.symm.trans hatw))
            | go_in)
          go_ret2
          exact HF.out
        · have hq' : (e.seq != (cn : Int) + 1) = false := by rw [bne, hq]; rfl
          by_cases hl40 : es.length < 40
          · have HR : Hid (nextB es e = true) := by unfold Hid; rw [HNB.out, hq]; simp [hl40]
            have HD := Lib.hid (add_new hok.out HSE.out HR.out)
            have i1 : ¬ ((es.length : Int) = 40) := by omega
            have i2 : ((es.length : Int) == 40) = false := by simpa using i1
            have hoa := own4.alloc (.cells #[.int .i64 e.who, .int .i64 e.seq, .int .i64 e.op.kind, .int .i64 e.op.id, .int .i64 e.op.up, .int .i64 e.op.at_, .string e.op.txt] 52)
            have hs24 : V2.heap.size ≤ (V4.alloc (.cells #[.int .i64 e.who, .int .i64 e.seq, .int .i64 e.op.kind, .int .i64 e.op.id, .int .i64 e.op.up, .int .i64 e.op.at_, .string e.op.txt] 52)).heap.size := by
              have q1 := hb3.size
              have q2 := hb4.size
              simp; omega
            have HS24 := Lib.hid hs24
            clear hs24
            clear HN HNB hq hok
            go_wp2_with (first
              | (at_lookup; refine wpList_lookup_own_int _ rfl _ _ 84 rfl 3 3 .i64 lawInt Tryd.underlying84 Tryd.underlying3 (zeroInt _) mb es.length _ rfl hown _ _ rfl hkey ?_; intro cc hat1 hwc1; obtain rfl : cc = (cn : Int) := lit_inj (hat1.symm.trans hatw))
              | (at_builtin; refine wpList_append_own _ rfl _ _ 25 rfl V2.heap.size 52 i0 (.agg #[.int .i64 0, .int .i64 0, .int .i64 0, .int .i64 0, .int .i64 0, .int .i64 0, .string ⟨#[]⟩]) 7 64 Tryd.underlying25 hi hz0 hz1 hz2 rfl (by decide) _ _ _ rfl hoa ⟨V4.heap.size, 0, none⟩ 1 1 (cellsE [e]) rfl rfl (elem_cells V4 e) (cellsE_plain _) (by unfold maxLen; omega) (by omega) HS24.out ?_; intro v5 w5 own5 grow5 hnn)
              | go_in)
            · have hda : Below w.heap.size w (V4.alloc (.cells #[.int .i64 e.who, .int .i64 e.seq, .int .i64 e.op.kind, .int .i64 e.op.id, .int .i64 e.op.up, .int .i64 e.op.at_, .string e.op.txt] 52)) := hV4.alloc hV4.size _
              have hb5 : Below w.heap.size w w5 := hda.grown grow5 hda.size (fun k hk => Nat.le_trans hV2.size (own_blockE own4 k hk))
              have own5' : w5.ownsRow V2.heap.size 52 7 v5 (es.length + 1) (cellsE (es ++ [e])) := by rw [cellsE_append]; exact own5
              obtain ⟨a', c', rfl, hc1, hc2⟩ := own_valE own5'
              have HF := Lib.hid (retAdd_mk HD.out (by simp) (own_mono own5' hV2.size) hb5)
              clear own5 own5' own4 hoa hi hz0 hz1 hz2 HD
              go_wp2
              go_ret2
              exact HF.out
          · have HR : Hid (nextB es e = false) := by unfold Hid; rw [HNB.out]; simp [hl40]
            have HF := Lib.hid (retAdd_mk (add_gap hok.out HSE.out HR.out) rfl (own_mono own4 hV2.size) hV4)
            have i1 : (es.length : Int) = 40 := by omega
            have i2 : ((es.length : Int) == 40) = true := by simpa using i1
            clear i1
            clear HN HNB hq own4 hi hz0 hz1 hz2 hok
            go_wp2_with (first
              | (at_lookup; refine wpList_lookup_own_int _ rfl _ _ 84 rfl 3 3 .i64 lawInt Tryd.underlying84 Tryd.underlying3 (zeroInt _) mb es.length _ rfl hown _ _ rfl hkey ?_; intro cc hat1 hwc1; obtain rfl : cc = (cn : Int) := lit_inj (hat1.symm.trans hatw))
              | go_in)
            go_ret2
            exact HF.out
      · have HF := Lib.hid (retAdd_mk (add_has hok.out HSE.out) rfl (own_mono own4 hV2.size) hV4)
        clear HN HNB own4 hi hz0 hz1 hz2 hM4 HCI hok
        go_wp2
        go_ret2
        exact HF.out
  · have hV : Below w.heap.size w V := hb0.trans (hb1.mono hb0.size)
    have HR := Lib.hid (HBAD.out V hV (by rw [HOK.out, hlg]; rfl))
    clear HN HL HE HOK HBAD hlg
    go_wp2
    go_ret2
    exact HR.out
end Go.Proofs.YtoofdhooinaneaaDoor
