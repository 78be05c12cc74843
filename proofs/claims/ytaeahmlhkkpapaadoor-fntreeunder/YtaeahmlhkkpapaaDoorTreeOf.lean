/-
  Contracts of the program's (*node).add and treeOf. Conditions: the rows lie in memory as a slice of rows; the table 'creators' holds what its initialiser lays.
-/
import Derived.Test.YtaeahmlhkkpapaaDoorNode
import Derived.Deep.LoopGhost
namespace Go.Proofs.YtaeahmlhkkpapaaDoor
open Go.ChangeShapes Go.WideShapes Go.ChangeAt Go.RowKit Go.Joins

/-- Node k + 1 has been added: it lies in a new block, and below the first node nothing has turned. -/
def Added (nb : Nat → Nat) (rs : List RowD) (k : Nat) (w : World) (e : Ending) (w' : World) : Prop :=
  ∃ g, e = .returned (.pointer (some ⟨g, 0, none⟩)) ∧ w.heap.size ≤ g ∧ Nodes w' (fun j => if j = k + 1 then g else nb j) rs (k + 2) ∧ Below (nb 0) w w' ∧ w.heap.size ≤ w'.heap.size
set_option maxRecDepth 100000 in
theorem add_any (nb : Nat → Nat) (rs : List RowD) (k : Nat) (w : World) (hD : Deps (dp rs) (rs.length + 1)) (hk : k < rs.length) (h : Nodes w nb rs (k + 1)) :
    Calls Tryd.prog 82 #[.pointer (some ⟨nb (par (dp rs) (k + 1)), 0, none⟩), .agg #[.int .i64 (rat rs k).id, .int .i64 (rat rs k).dep, .string (rat rs k).txt]] w (Added nb rs k w) := by
  have hp := (par_spec hD (show 1 ≤ k + 1 by omega) (by omega)).1
  have hpl := h.lt hp
  obtain ⟨l3, l4, l5, l6, l7⟩ := h.links hp
  have z6 := h.frozen hp 6
  have z7 := h.frozen hp 7
  cases hla : la (dp rs) (k + 1) (par (dp rs) (k + 1)) with
  | none =>
    rw [hla] at l7
    simp only [padr] at l7
    go_enter Tryd.func82, Tryd.ntmps82
    go_wp2
    go_region
    go_wp2
    go_ret
    refine ⟨w.heap.size + 1, rfl, by omega, ?_, ?_, ?_⟩
    · refine nodes_add0 hD hk h (by omega) hla (fun b hb => ?_) ?_
      · exact two_old _ _ _ _ (by rw [size_set, size_set]; exact hb)
      · have := two_new ((w.setCell ⟨nb (par (dp rs) (k + 1)), 6, none⟩ (.pointer (some ⟨w.heap.size + 1, 0, none⟩))).setCell ⟨nb (par (dp rs) (k + 1)), 7, none⟩ (.pointer (some ⟨w.heap.size + 1, 0, none⟩))) (.cells #[.int .i64 (rat rs k).id, .int .i64 (rat rs k).dep, .string (rat rs k).txt] 29) (.cells #[.int .i64 (rat rs k).id, .int .i64 (rat rs k).dep, .string (rat rs k).txt, .pointer (some ⟨nb (par (dp rs) (k + 1)), 0, none⟩), .pointer none, .pointer none, .pointer none, .pointer none] 64)
        rw [size_set, size_set] at this; exact this
    · exact (((((Below.refl (nb 0) w).setCell (p := ⟨nb (par (dp rs) (k + 1)), 6, none⟩) (h.ge hp) _).setCell (p := ⟨nb (par (dp rs) (k + 1)), 7, none⟩) (h.ge hp) _).alloc (by rw [size_set, size_set]; exact Nat.le_of_lt (h.lt (show 0 < k + 1 by omega))) _).alloc (by rw [World.size_alloc, size_set, size_set]; have := h.lt (show 0 < k + 1 by omega); omega) _).drew
    · show w.heap.size ≤ ((((w.setCell _ _).setCell _ _).alloc _).alloc _).heap.size
      rw [World.size_alloc, World.size_alloc, size_set, size_set]; omega
  | some l =>
    rw [hla] at l7
    simp only [padr] at l7
    have hll := (lstBelow_some _ _ _ hla).1
    have hl2 := h.lt hll
    obtain ⟨m3, m4, m5, m6, m7⟩ := h.links hll
    have y5 := h.frozen hll 5
    go_enter Tryd.func82, Tryd.ntmps82
    go_wp2
    go_region
    go_wp2
    go_ret
    refine ⟨w.heap.size + 1, rfl, by omega, ?_, ?_, ?_⟩
    · refine nodes_add1 hD hk h (by omega) hla (fun b hb => ?_) ?_
      · exact two_old _ _ _ _ (by rw [size_set, size_set]; exact hb)
      · have := two_new ((w.setCell ⟨nb l, 5, none⟩ (.pointer (some ⟨w.heap.size + 1, 0, none⟩))).setCell ⟨nb (par (dp rs) (k + 1)), 7, none⟩ (.pointer (some ⟨w.heap.size + 1, 0, none⟩))) (.cells #[.int .i64 (rat rs k).id, .int .i64 (rat rs k).dep, .string (rat rs k).txt] 29) (.cells #[.int .i64 (rat rs k).id, .int .i64 (rat rs k).dep, .string (rat rs k).txt, .pointer (some ⟨nb (par (dp rs) (k + 1)), 0, none⟩), .pointer (some ⟨nb l, 0, none⟩), .pointer none, .pointer none, .pointer none] 64)
        rw [size_set, size_set] at this; exact this
    · exact (((((Below.refl (nb 0) w).setCell (p := ⟨nb l, 5, none⟩) (h.ge hll) _).setCell (p := ⟨nb (par (dp rs) (k + 1)), 7, none⟩) (h.ge hp) _).alloc (by rw [size_set, size_set]; exact Nat.le_of_lt (h.lt (show 0 < k + 1 by omega))) _).alloc (by rw [World.size_alloc, size_set, size_set]; have := h.lt (show 0 < k + 1 by omega); omega) _).drew
    · show w.heap.size ≤ ((((w.setCell _ _).setCell _ _).alloc _).alloc _).heap.size
      rw [World.size_alloc, World.size_alloc, size_set, size_set]; omega
/-! ### treeOf -/
/-- The tree of rows: the top lies in block nb 0, node i + 1 holds row i; nothing old has turned. An outline that is none gives the top alone. -/
def Made (rs : List RowD) (w : World) (e : Ending) (w' : World) : Prop :=
  ∃ nb : Nat → Nat, e = .returned (.pointer (some ⟨nb 0, 0, none⟩)) ∧ w.heap.size ≤ nb 0 ∧ Nodes w' nb rs ((if treeB rs then rs.length else 0) + 1) ∧ Below w.heap.size w w'
theorem nodes_top (w : World) (rs : List RowD) : Nodes (w.alloc (.cells #[.int .i64 0, .int .i64 (-1), .string ⟨#[]⟩, .pointer none, .pointer none, .pointer none, .pointer none, .pointer none] 64)) (fun _ => w.heap.size) rs 1 := by
  refine ⟨fun i hi => ?_, fun i j h1 h2 => by omega⟩
  obtain rfl : i = 0 := by omega
  rw [heap_alloc_new]
  have z : ∀ i, i < 1 → isKid (dp rs) 0 i = false := fun i hi => by
    have e0 : i = 0 := by omega
    rw [e0]; rfl
  have e1 : fi (dp rs) 1 0 = none := fstBelow_mk_none _ _ z
  have e2 : la (dp rs) 1 0 = none := lstBelow_mk_none _ _ z
  simp [nodeArr, e1, e2, padr, upO, ahO, nxO, nd]
set_option maxRecDepth 100000 in
theorem treeOf_any (B : Nat) (a : Option Addr) (cap : Nat) (rs : List RowD) (w : World) (hB : B ≤ w.heap.size) (h : RowsAt B w a rs) (hf : Fit rs) (ht : Tab w) :
    Calls Tryd.prog 56 #[.slice a rs.length cap] w (Made rs w) := by
  have hl := hf.1
  have hz := ht.pos
  have hax : Below w.heap.size w (w.alloc (.cells #[.int .i64 0, .int .i64 (-1), .string ⟨#[]⟩, .pointer none, .pointer none, .pointer none, .pointer none, .pointer none] 64)) := (Below.refl _ _).alloc (Nat.le_refl _) _
  have hn0 := nodes_top w rs
  go_enter Tryd.func56, Tryd.ntmps56
  go_wp2_with fail
  refine (implTreeOk_any B _ _ _ _ (Nat.le_trans hB hax.size) (h.below (hax.mono hB)) hf (ht.below hax hz)).mono ?_
  rintro e w1 ⟨rfl, hb1⟩
  have hn1 := hn0.below hb1
  have b1 : Below w.heap.size w w1 := hax.trans (hb1.mono hax.size)
  clear hax hb1 hn0
  cases htb : treeB rs
  · go_wp2
    go_ret
    exact ⟨fun _ => w.heap.size, rfl, Nat.le_refl _, by rw [htb]; exact hn1, b1⟩
  · have hD := Lib.hid (treeP_of htb).deps
    have HT := Lib.hid htb
    clear htb
    go_wp2_with fail
    go_loopw [4, 18] (fun l t wr => ∃ (k : Nat) (nb : Nat → Nat), k ≤ rs.length ∧ t = .int .i64 k ∧ l = .pointer (some ⟨nb k, 0, none⟩) ∧ Hid (nb 0 = w.heap.size) ∧ Nodes wr nb rs (k + 1) ∧ Below w.heap.size w wr) (fun _ t _ => rs.length - (intOf t).toNat)
    case atStart => exact ⟨0, fun _ => w.heap.size, Nat.zero_le _, rfl, rfl, rfl, hn1, b1⟩
    case round =>
      obtain ⟨k, nb, hk, rfl, rfl, hn, hN, hb⟩ := hrel
      have hr := h.below (hb.mono hB)
      by_cases hlt : k < rs.length
      · obtain ⟨b, off, rfl, hbB, c0, c1, c2⟩ := hr.at_ hlt
        have i1 : (k : Int) < (rs.length : Int) := by omega
        have hx := RowAt.new wr (rat rs k).id (rat rs k).dep (rat rs k).txt
        have hax : Below wr.heap.size wr (wr.alloc (.cells #[.int .i64 (rat rs k).id, .int .i64 (rat rs k).dep, .string (rat rs k).txt] 29)) := (Below.refl _ _).alloc (Nat.le_refl _) _
        have hNa := hN.below hax
        have hba : Below w.heap.size w (wr.alloc (.cells #[.int .i64 (rat rs k).id, .int .i64 (rat rs k).dep, .string (rat rs k).txt] 29)) := hb.trans (hax.mono hb.size)
        have hdk : Hid (dp rs (k + 1) = (rat rs k).dep) := rfl
        go_wp2_with fail
        generalize wr.heap.size = xb at *
        go_loopg [7] k (fun j u wx => j ≤ k ∧ u = .pointer (some ⟨nb j, 0, none⟩) ∧ Hid (∀ l, j < l → l ≤ k → dp rs (k + 1) ≤ dp rs l) ∧ Nodes wx nb rs (k + 1) ∧ RowAt wx xb (rat rs k).id (rat rs k).dep (rat rs k).txt ∧ Below w.heap.size w wx)
        case atStart => exact ⟨Nat.le_refl _, rfl, fun l h1 h2 => by omega, hNa, hx, hba⟩
        case round =>
          obtain ⟨hj, rfl, hall, hNx, hxx, hbx⟩ := hrel
          have hD' := hD.out
          obtain ⟨⟨x0, x1, x2⟩, x3, x4, x5⟩ := hxx
          obtain ⟨n0, n1, n2⟩ := hNx.row (show gk < k + 1 by omega)
          by_cases hd : (rat rs k).dep ≤ (nd rs gk).dep
          · have hg0 : 1 ≤ gk := by
              rcases Nat.eq_zero_or_pos gk with e | e
              · subst e
                have h1 := hD'.low (k + 1) (by omega) (by omega)
                have h2 : dp rs (k + 1) ≤ dp rs 0 := hd
                have := hD'.top
                omega
              · exact e
            obtain ⟨p1, p2, p3⟩ := par_spec hD' hg0 (show gk < rs.length + 1 by omega)
            have l3 := (hNx.links (show gk < k + 1 by omega)).1
            have eup : padr nb (upO rs gk) = some ⟨nb (par (dp rs) gk), 0, none⟩ := by unfold upO; rw [if_neg (by omega)]; rfl
            rw [eup] at l3
            have HA : Hid (∀ l, par (dp rs) gk < l → l ≤ k → dp rs (k + 1) ≤ dp rs l) := fun l h1 h2 => by
              rcases Nat.lt_trichotomy l gk with e | e | e
              · have := p3 l h1 e
                have h3 : dp rs (k + 1) ≤ dp rs gk := hd
                omega
              · subst e; exact hd
              · exact hall.out l e h2
            clear eup p2 p3 hD'
            go_wp2
            go_quiet (fail)
            go_wp2
            go_roundg (par (dp rs) gk)
            case measure => exact p1
            case rel => exact ⟨by omega, rfl, HA, hNx.drewN _, ⟨⟨x0, x1, x2⟩, x3, x4, x5⟩, below_drewN _ hbx⟩
          · have hpar : par (dp rs) (k + 1) = gk := par_uniq (by omega) (show (nd rs gk).dep < (rat rs k).dep by omega) (fun l h1 h2 => hall.out l h1 (by omega))
            subst hpar
            clear hD' hall
            go_wp2
            go_quiet (fail)
            go_wp2_with fail
            refine (add_any nb rs k _ hD.out hlt (hNx.drewN nq)).mono ?_
            rintro e w2 ⟨g, rfl, hg, hN2, hb2, hs2⟩
            have hb3 : Below w.heap.size w w2 := (below_drewN nq hbx).trans (by rw [← hn.out]; exact hb2)
            go_wp2
            go_roundw
            case rel => exact ⟨k + 1, fun j => if j = k + 1 then g else nb j, by omega, by go_num, by simp, (if_neg (by omega)).trans hn.out, hN2, hb3⟩
            case measure => simp [intOf]; omega
      · obtain rfl : k = rs.length := by omega
        go_wp2
        go_ret
        exact ⟨nb, by rw [hn.out]; rfl, by rw [hn.out]; exact Nat.le_refl _, by rw [HT.out]; exact hN, hb⟩
end Go.Proofs.YtaeahmlhkkpapaaDoor
