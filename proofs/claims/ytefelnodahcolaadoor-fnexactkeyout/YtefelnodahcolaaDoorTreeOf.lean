/-
  Contracts of the program's (*node).add and treeOf. Conditions: the rows lie in memory as a slice of rows; the table 'creators' holds what its initialiser lays.
-/
import Derived.Test.YtefelnodahcolaaDoorLk
import Derived.Deep.LoopGhost
namespace Go.Proofs.YtefelnodahcolaaDoor
open Go.ChangeShapes Go.WideShapes Go.ChangeAt Go.RowKit Go.Joins

/-- Node k + 1 has been added: it lies in a new block, and below the first node nothing has turned. -/
def Added (nb : Nat → Nat) (rs : List RowD) (k : Nat) (w : World) (e : Ending) (w' : World) : Prop :=
  ∃ g, e = .returned (.pointer (some ⟨g, 0, none⟩)) ∧ w.heap.size ≤ g ∧ Nodes w' (fun j => if j = k + 1 then g else nb j) rs (k + 2) ∧ Below (nb 0) w w' ∧ w.heap.size ≤ w'.heap.size
/-- The links before node k + 1 is put: it has none. -/
def l50 (rs : List RowD) (k : Nat) : L5 := ⟨upd (upO rs) (k + 1) none, upd (ahO rs) (k + 1) none, upd (nxO rs (k + 1)) (k + 1) none, upd (fi (dp rs) (k + 1)) (k + 1) none, upd (la (dp rs) (k + 1)) (k + 1) none⟩
theorem la_nx {D : Nat → Int} {m p l : Nat} (h : la D m p = some l) : nx D m l = none := by
  obtain ⟨a, b, c⟩ := lstBelow_some _ _ _ h
  refine fstBelow_mk_none _ _ (fun i hi => ?_)
  rw [Bool.eq_false_iff]; intro g
  simp only [Bool.and_eq_true, decide_eq_true_eq] at g
  have := c i g.1 hi
  rw [(isKid_iff.1 b).2] at g
  rw [g.2] at this; cases this
theorem la_fi {D : Nat → Int} {m p : Nat} (h : la D m p = none) : fi D m p = none := fstBelow_mk_none _ _ (lstBelow_none _ _ h)
theorem l50_next {rs : List RowD} {k p : Nat} (hp : p < k + 1) : nextOf (l50 rs k) p (la (dp rs) (k + 1) p) = none := by
  cases h : la (dp rs) (k + 1) p with
  | none => simp only [nextOf, l50]; rw [upd_ne (by omega)]; exact la_fi h
  | some l =>
    have hl := (lstBelow_some _ _ _ h).1
    have h0 := (isKid_iff.1 (lstBelow_some _ _ _ h).2.1).1
    simp only [nextOf, l50]; rw [upd_ne (by omega)]
    unfold nxO; rw [if_neg (by omega)]; exact la_nx h
/-- Put behind the last one, the new node has the links of the longer row of nodes. -/
theorem add_links {rs : List RowD} {k : Nat} (hD : Deps (dp rs) (rs.length + 1)) (hk : k < rs.length) : ∀ i, i < k + 2 →
    (putL (l50 rs k) (par (dp rs) (k + 1)) (k + 1) (la (dp rs) (k + 1) (par (dp rs) (k + 1)))).up i = upO rs i ∧ (putL (l50 rs k) (par (dp rs) (k + 1)) (k + 1) (la (dp rs) (k + 1) (par (dp rs) (k + 1)))).ah i = ahO rs i ∧
    (putL (l50 rs k) (par (dp rs) (k + 1)) (k + 1) (la (dp rs) (k + 1) (par (dp rs) (k + 1)))).nx i = nxO rs (k + 2) i ∧ (putL (l50 rs k) (par (dp rs) (k + 1)) (k + 1) (la (dp rs) (k + 1) (par (dp rs) (k + 1)))).fi i = fi (dp rs) (k + 2) i ∧
    (putL (l50 rs k) (par (dp rs) (k + 1)) (k + 1) (la (dp rs) (k + 1) (par (dp rs) (k + 1)))).la i = la (dp rs) (k + 2) i := by
  intro i hi
  have hp := (par_spec hD (show 1 ≤ k + 1 by omega) (by omega)).1
  have lt : ∀ j, 1 ≤ j → j ≤ k + 1 → par (dp rs) j < j := fun j h1 h2 => (par_spec hD h1 (by omega)).1
  have hnx := l50_next (rs := rs) hp
  have eU : upO rs (k + 1) = some (par (dp rs) (k + 1)) := by unfold upO; rw [if_neg (by omega)]
  have eA : ahO rs (k + 1) = la (dp rs) (k + 1) (par (dp rs) (k + 1)) := by unfold ahO; rw [if_neg (by omega), ah_new]
  have eN : nxO rs (k + 2) (k + 1) = none := by unfold nxO; rw [if_neg (by omega)]; exact nx_new _ _
  have eF : fi (dp rs) (k + 2) (k + 1) = none := fi_new (k + 1) lt
  have eL : la (dp rs) (k + 2) (k + 1) = none := la_new (k + 1) lt
  unfold putL
  rw [hnx]
  unfold put1
  rw [hnx]
  cases h : la (dp rs) (k + 1) (par (dp rs) (k + 1)) with
  | none =>
    rw [h] at eA
    simp only [joinL, join1, join2, l50, upd_upd]
    by_cases e : i = k + 1
    · subst e
      simp [upd, eU, eA, eN, eF, eL, show k + 1 ≠ par (dp rs) (k + 1) by omega]
    · have n1 : nxO rs (k + 2) i = nxO rs (k + 1) i := by
        unfold nxO
        split
        · rfl
        · rw [nx_succ (dp rs) (k + 1) i (by omega) (by omega) (by omega), h]; simp
      rw [fi_succ (dp rs) (k + 1) i (by omega), la_succ (dp rs) (k + 1) i (by omega), n1]
      by_cases ep : i = par (dp rs) (k + 1)
      · simp [upd, ep, show par (dp rs) (k + 1) ≠ k + 1 by omega, h]
      · have ep' : par (dp rs) (k + 1) ≠ i := fun q => ep q.symm
        simp [upd, e, ep, ep']
  | some l =>
    have hl := (lstBelow_some _ _ _ h).1
    have hl0 := (isKid_iff.1 (lstBelow_some _ _ _ h).2.1).1
    rw [h] at eA
    simp only [joinL, join1, join2, l50, upd_upd]
    by_cases e : i = k + 1
    · subst e
      simp [upd, eU, eA, eN, eF, eL, show k + 1 ≠ par (dp rs) (k + 1) by omega]
    · have n1 : nxO rs (k + 2) i = if i = l then some (k + 1) else nxO rs (k + 1) i := by
        unfold nxO
        by_cases i0 : i = 0
        · simp [i0, show (0 : Nat) ≠ l by omega]
        · rw [if_neg i0, if_neg i0, nx_succ (dp rs) (k + 1) i (by omega) (by omega) (by omega), h]
          by_cases il : i = l
          · simp [il]
          · simp [il, show l ≠ i from fun q => il q.symm]
      rw [fi_succ (dp rs) (k + 1) i (by omega), la_succ (dp rs) (k + 1) i (by omega), n1]
      by_cases ep : i = par (dp rs) (k + 1)
      · have hne : par (dp rs) (k + 1) ≠ k + 1 := by omega
        subst ep
        simp [upd, e, h]
      · have ep' : par (dp rs) (k + 1) ≠ i := fun q => ep q.symm
        simp [upd, e, ep, ep']
/-- A new block for node k + 1, that leads nowhere yet. -/
theorem lk_new {w : World} {nb : Nat → Nat} {rs : List RowD} {k : Nat} {o1 : Obj} (hD : Deps (dp rs) (rs.length + 1)) (hk : k < rs.length) (h : Nodes w nb rs (k + 1)) :
    Lk ((w.alloc o1).alloc (.cells #[.int .i64 (rat rs k).id, .int .i64 (rat rs k).dep, .string (rat rs k).txt, .pointer none, .pointer none, .pointer none, .pointer none, .pointer none] 77)) (fun j => if j = k + 1 then w.heap.size + 1 else nb j) (nd rs) (l50 rs k) (k + 2) := by
  have old : ∀ o : Option Nat, (∀ j, o = some j → j < k + 1) → padr (fun j => if j = k + 1 then w.heap.size + 1 else nb j) o = padr nb o := fun o ho =>
    padr_congr fun j hj => if_neg (by have := ho j hj; omega)
  refine ⟨fun x hx => ?_, fun i j hi hj e => ?_⟩
  · by_cases e : x = k + 1
    · subst e
      rw [if_pos rfl]
      have := heap_alloc_new (w.alloc o1) (.cells #[.int .i64 (rat rs k).id, .int .i64 (rat rs k).dep, .string (rat rs k).txt, .pointer none, .pointer none, .pointer none, .pointer none, .pointer none] 77)
      rw [World.size_alloc] at this
      rw [this]
      simp [lkArr, l50, upd, padr, nd]
    · have hxk : x < k + 1 := by omega
      have hlt := h.lt hxk
      rw [if_neg e, Below.heap_alloc _ _ _ (by simp; omega), Below.heap_alloc _ _ _ hlt, h.blk x hxk]
      have e1 : padr (fun j => if j = k + 1 then w.heap.size + 1 else nb j) (upO rs x) = padr nb (upO rs x) := by
        refine old _ fun j hj => ?_
        unfold upO at hj; split at hj
        · cases hj
        · cases hj; have := (par_spec hD (show 1 ≤ x by omega) (by omega)).1; omega
      have e2 : padr (fun j => if j = k + 1 then w.heap.size + 1 else nb j) (ahO rs x) = padr nb (ahO rs x) := by
        refine old _ fun j hj => ?_
        unfold ahO at hj; split at hj
        · cases hj
        · have := (lstBelow_some _ _ _ hj).1; omega
      have e3 : padr (fun j => if j = k + 1 then w.heap.size + 1 else nb j) (nxO rs (k + 1) x) = padr nb (nxO rs (k + 1) x) := by
        refine old _ fun j hj => ?_
        unfold nxO at hj; split at hj
        · cases hj
        · exact (fstBelow_some _ _ _ hj).1
      have e4 : padr (fun j => if j = k + 1 then w.heap.size + 1 else nb j) (fi (dp rs) (k + 1) x) = padr nb (fi (dp rs) (k + 1) x) := old _ fun j hj => (fstBelow_some _ _ _ hj).1
      have e5 : padr (fun j => if j = k + 1 then w.heap.size + 1 else nb j) (la (dp rs) (k + 1) x) = padr nb (la (dp rs) (k + 1) x) := old _ fun j hj => (lstBelow_some _ _ _ hj).1
      simp only [lkArr, l50, upd_ne e, nodeArr, e1, e2, e3, e4, e5]
  · have hs : ∀ i, i < k + 1 → nb i < w.heap.size := fun i hi => h.lt hi
    by_cases ei : i = k + 1 <;> by_cases ej : j = k + 1
    · omega
    · simp only [ei, ej, if_true, if_false] at e; have := hs j (by omega); omega
    · simp only [ei, ej, if_true, if_false] at e; have := hs i (by omega); omega
    · simp only [ei, ej, if_false] at e
      rcases Nat.lt_trichotomy i j with g | g | g
      · have := h.inj i j g (by omega); omega
      · exact g
      · have := h.inj j i g (by omega); omega
set_option maxRecDepth 100000 in
theorem add_any (nb : Nat → Nat) (rs : List RowD) (k : Nat) (w : World) (hD : Deps (dp rs) (rs.length + 1)) (hk : k < rs.length) (h : Nodes w nb rs (k + 1)) :
    Calls Tryd.prog 65 #[.pointer (some ⟨nb (par (dp rs) (k + 1)), 0, none⟩), .agg #[.int .i64 (rat rs k).id, .int .i64 (rat rs k).dep, .string (rat rs k).txt]] w (Added nb rs k w) := by
  have hp := (par_spec hD (show 1 ≤ k + 1 by omega) (by omega)).1
  have hpl := h.lt hp
  have h0l := h.lt (show 0 < k + 1 by omega)
  have l7 := (h.links hp).2.2.2.2
  have hw1 : Below w.heap.size w (w.alloc (.cells #[.int .i64 (rat rs k).id, .int .i64 (rat rs k).dep, .string (rat rs k).txt] 46)) := (Below.refl _ _).alloc (Nat.le_refl _) _
  have hw2 : Below w.heap.size w ((w.alloc (.cells #[.int .i64 (rat rs k).id, .int .i64 (rat rs k).dep, .string (rat rs k).txt] 46)).alloc (.cells #[.int .i64 (rat rs k).id, .int .i64 (rat rs k).dep, .string (rat rs k).txt, .pointer none, .pointer none, .pointer none, .pointer none, .pointer none] 77)) := hw1.alloc (by simp) _
  have hlk := lk_new (o1 := .cells #[.int .i64 (rat rs k).id, .int .i64 (rat rs k).dep, .string (rat rs k).txt] 46) hD hk h
  have l7' := (hw2.cell (p := ⟨nb (par (dp rs) (k + 1)), 7, none⟩) hpl).trans l7
  have hge : ∀ y, y < k + 2 → nb 0 ≤ (if y = k + 1 then w.heap.size + 1 else nb y) := fun y hy => by
    split
    · omega
    · exact h.ge (by omega)
  have hLA : ∀ y, la (dp rs) (k + 1) (par (dp rs) (k + 1)) = some y → y < k + 1 := fun y e => (lstBelow_some _ _ _ e).1
  have hpa : padr nb (la (dp rs) (k + 1) (par (dp rs) (k + 1))) = padr (fun j => if j = k + 1 then w.heap.size + 1 else nb j) (la (dp rs) (k + 1) (par (dp rs) (k + 1))) := padr_congr fun j hj => (if_neg (by have := hLA j hj; omega)).symm
  have HPA := Lib.hid hpa
  have hput := put_lk (fun j => if j = k + 1 then w.heap.size + 1 else nb j) (nd rs) (l50 rs k) (k + 2) (nb 0) (par (dp rs) (k + 1)) (k + 1) (la (dp rs) (k + 1) (par (dp rs) (k + 1))) _ hlk hge (by omega) (by omega) (fun y e => by have := hLA y e; omega) (fun e => by have := hLA _ e; omega) (fun y e => by rw [l50_next hp] at e; cases e)
  simp only [if_neg (show par (dp rs) (k + 1) ≠ k + 1 by omega), if_true] at hput
  have HPUT := Lib.hid hput
  clear hput hlk hpa hw1 l7
  go_enter Tryd.func65, Tryd.ntmps65
  go_wp2_with fail
  rw [HPA.out]
  refine (HPUT.out).mono ?_
  rintro e w2 ⟨⟨v, rfl⟩, hl2, hb2, hs2⟩
  have HS := Lib.hid hs2
  clear hs2 HPUT
  go_wp2
  go_ret
  refine ⟨w.heap.size + 1, rfl, by omega, Nodes.of_lk hl2 (add_links hD hk) (fun i j hij hj => ?_), (hw2.mono (Nat.le_of_lt h0l)).trans hb2, ?_⟩
  · rw [if_neg (show i ≠ k + 1 by omega)]
    by_cases e : j = k + 1
    · rw [if_pos e]; have := h.lt (show i < k + 1 by omega); omega
    · rw [if_neg e]; exact h.inj i j hij (by omega)
  · rw [HS.out]; exact hw2.size
/-! ### treeOf -/
/-- The tree of rows: the top lies in block nb 0, node i + 1 holds row i; nothing old has turned. An outline that is none gives the top alone. -/
def Made (rs : List RowD) (w : World) (e : Ending) (w' : World) : Prop :=
  ∃ nb : Nat → Nat, e = .returned (.pointer (some ⟨nb 0, 0, none⟩)) ∧ w.heap.size ≤ nb 0 ∧ Nodes w' nb rs ((if treeB rs then rs.length else 0) + 1) ∧ Below w.heap.size w w'
theorem nodes_top (w : World) (rs : List RowD) : Nodes (w.alloc (.cells #[.int .i64 0, .int .i64 (-1), .string ⟨#[]⟩, .pointer none, .pointer none, .pointer none, .pointer none, .pointer none] 77)) (fun _ => w.heap.size) rs 1 := by
  refine ⟨fun i hi => ?_, fun i j h1 h2 => by omega⟩
  obtain rfl : i = 0 := by omega
  rw [heap_alloc_new]
  have z : ∀ i, i < 1 → isKid (dp rs) 0 i = false := fun i hi => by
    have e0 : i = 0 := by omega
    rw [e0]; rfl
  have e1 : fi (dp rs) 1 0 = none := fstBelow_mk_none _ _ z
  have e2 : la (dp rs) 1 0 = none := lstBelow_mk_none _ _ z
  simp [nodeArr, e1, e2, padr, upO, ahO, nxO, nd]
set_option maxRecDepth 100000 in
theorem treeOf_any (B : Nat) (a : Option Addr) (cap : Nat) (rs : List RowD) (w : World) (hB : B ≤ w.heap.size) (h : RowsAt B w a rs) (hf : Fit rs) (ht : Tab w) :
    Calls Tryd.prog 43 #[.slice a rs.length cap] w (Made rs w) := by
  have hl := hf.1
  have hz := ht.pos
  have hax : Below w.heap.size w (w.alloc (.cells #[.int .i64 0, .int .i64 (-1), .string ⟨#[]⟩, .pointer none, .pointer none, .pointer none, .pointer none, .pointer none] 77)) := (Below.refl _ _).alloc (Nat.le_refl _) _
  have hn0 := nodes_top w rs
  go_enter Tryd.func43, Tryd.ntmps43
  go_wp2_with fail
  refine (implTreeOk_any B _ _ _ _ (Nat.le_trans hB hax.size) (h.below (hax.mono hB)) hf (ht.below hax hz)).mono ?_
  rintro e w1 ⟨rfl, hb1⟩
  have hn1 := hn0.below hb1
  have b1 : Below w.heap.size w w1 := hax.trans (hb1.mono hax.size)
  clear hax hb1 hn0
  cases htb : treeB rs
  · go_wp2
    go_ret
    exact ⟨fun _ => w.heap.size, rfl, Nat.le_refl _, by rw [htb]; exact hn1, b1⟩
  · have hD := Lib.hid (treeP_of htb).deps
    have HT := Lib.hid htb
    clear htb
    go_wp2_with fail
    go_loopw [4, 18] (fun l t wr => ∃ (k : Nat) (nb : Nat → Nat), k ≤ rs.length ∧ t = .int .i64 k ∧ l = .pointer (some ⟨nb k, 0, none⟩) ∧ Hid (nb 0 = w.heap.size) ∧ Nodes wr nb rs (k + 1) ∧ Below w.heap.size w wr) (fun _ t _ => rs.length - (intOf t).toNat)
    case atStart => exact ⟨0, fun _ => w.heap.size, Nat.zero_le _, rfl, rfl, rfl, hn1, b1⟩
    case round =>
      obtain ⟨k, nb, hk, rfl, rfl, hn, hN, hb⟩ := hrel
      have hr := h.below (hb.mono hB)
      by_cases hlt : k < rs.length
      · obtain ⟨b, off, rfl, hbB, c0, c1, c2⟩ := hr.at_ hlt
        have i1 : (k : Int) < (rs.length : Int) := by omega
        have hx := RowAt.new wr (rat rs k).id (rat rs k).dep (rat rs k).txt
        have hax : Below wr.heap.size wr (wr.alloc (.cells #[.int .i64 (rat rs k).id, .int .i64 (rat rs k).dep, .string (rat rs k).txt] 46)) := (Below.refl _ _).alloc (Nat.le_refl _) _
        have hNa := hN.below hax
        have hba : Below w.heap.size w (wr.alloc (.cells #[.int .i64 (rat rs k).id, .int .i64 (rat rs k).dep, .string (rat rs k).txt] 46)) := hb.trans (hax.mono hb.size)
        have hdk : Hid (dp rs (k + 1) = (rat rs k).dep) := rfl
        go_wp2_with fail
        generalize wr.heap.size = xb at *
        go_loopg [7] k (fun j u wx => j ≤ k ∧ u = .pointer (some ⟨nb j, 0, none⟩) ∧ Hid (∀ l, j < l → l ≤ k → dp rs (k + 1) ≤ dp rs l) ∧ Nodes wx nb rs (k + 1) ∧ RowAt wx xb (rat rs k).id (rat rs k).dep (rat rs k).txt ∧ Below w.heap.size w wx)
        case atStart => exact ⟨Nat.le_refl _, rfl, fun l h1 h2 => by omega, hNa, hx, hba⟩
        case round =>
          obtain ⟨hj, rfl, hall, hNx, hxx, hbx⟩ := hrel
          have hD' := hD.out
          obtain ⟨⟨x0, x1, x2⟩, x3, x4, x5⟩ := hxx
          obtain ⟨n0, n1, n2⟩ := hNx.row (show gk < k + 1 by omega)
          by_cases hd : (rat rs k).dep ≤ (nd rs gk).dep
          · have hg0 : 1 ≤ gk := by
              rcases Nat.eq_zero_or_pos gk with e | e
              · subst e
                have h1 := hD'.low (k + 1) (by omega) (by omega)
                have h2 : dp rs (k + 1) ≤ dp rs 0 := hd
                have := hD'.top
                omega
              · exact e
            obtain ⟨p1, p2, p3⟩ := par_spec hD' hg0 (show gk < rs.length + 1 by omega)
            have l3 := (hNx.links (show gk < k + 1 by omega)).1
            have eup : padr nb (upO rs gk) = some ⟨nb (par (dp rs) gk), 0, none⟩ := by unfold upO; rw [if_neg (by omega)]; rfl
            rw [eup] at l3
            have HA : Hid (∀ l, par (dp rs) gk < l → l ≤ k → dp rs (k + 1) ≤ dp rs l) := fun l h1 h2 => by
              rcases Nat.lt_trichotomy l gk with e | e | e
              · have := p3 l h1 e
                have h3 : dp rs (k + 1) ≤ dp rs gk := hd
                omega
              · subst e; exact hd
              · exact hall.out l e h2
            clear eup p2 p3 hD'
            go_wp2
            go_quiet (fail)
            go_wp2
            go_roundg (par (dp rs) gk)
            case measure => exact p1
            case rel => exact ⟨by omega, rfl, HA, hNx.drewN _, ⟨⟨x0, x1, x2⟩, x3, x4, x5⟩, below_drewN _ hbx⟩
          · have hpar : par (dp rs) (k + 1) = gk := par_uniq (by omega) (show (nd rs gk).dep < (rat rs k).dep by omega) (fun l h1 h2 => hall.out l h1 (by omega))
            subst hpar
            clear hD' hall
            go_wp2
            go_quiet (fail)
            go_wp2_with fail
            refine (add_any nb rs k _ hD.out hlt (hNx.drewN nq)).mono ?_
            rintro e w2 ⟨g, rfl, hg, hN2, hb2, hs2⟩
            have hb3 : Below w.heap.size w w2 := (below_drewN nq hbx).trans (by rw [← hn.out]; exact hb2)
            go_wp2
            go_roundw
            case rel => exact ⟨k + 1, fun j => if j = k + 1 then g else nb j, by omega, by go_num, by simp, (if_neg (by omega)).trans hn.out, hN2, hb3⟩
            case measure => simp [intOf]; omega
      · obtain rfl : k = rs.length := by omega
        go_wp2
        go_ret
        exact ⟨nb, by rw [hn.out]; rfl, by rw [hn.out]; exact Nat.le_refl _, by rw [HT.out]; exact hN, hb⟩
end Go.Proofs.YtefelnodahcolaaDoor
