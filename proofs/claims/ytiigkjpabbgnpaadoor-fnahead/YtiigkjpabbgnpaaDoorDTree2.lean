/-
  The model's drawing of outlines: l71Tree. Conditions: as the theorem says.
-/
import Derived.Test.YtiigkjpabbgnpaaDoorDTree
import Derived.Test.YtiigkjpabbgnpaaDoorMarks2
import Derived.Laws.OwnMore
namespace Go.Proofs.YtiigkjpabbgnpaaDoor
open Go.ChangeShapes Go.WideShapes Go.ChangeAt Go.RowKit Go.Joins

/-- What holds of the outline that is being drawn: it lies in a row of the call's own. -/
def Draft (N b p base k : Nat) (w0 w : World) (a : Option Addr) (cap : Nat) (rs : List RowD) : Prop :=
  w.ownsRow base 29 3 (.slice a rs.length cap) rs.length (cellsL rs) ∧ Drawn k rs ∧ But b base w0 w ∧ Rd N w b p ∧ b < base ∧ base ≤ w.heap.size
theorem own_cap {w : World} {base : Nat} {e : TypeId} {size : Nat} {a : Option Addr} {n cap : Nat} {xs : List Value} (h : w.ownsRow base e size (.slice a n cap) n xs) : n ≤ cap ∧ cap ≤ maxLen := by
  rcases h.2 with ⟨h1, h2⟩ | ⟨g, cap', cur, hv, _, _, h1, h2, _⟩
  · cases h1; exact ⟨by omega, Nat.zero_le _⟩
  · cases hv; exact ⟨h1, h2⟩
theorem Draft.pick {N b p base k : Nat} {w0 w w' : World} {a : Option Addr} {cap : Nat} {rs : List RowD} (h : Draft N b p base k w0 w a cap rs) (hb : But b w.heap.size w w') (hr : Rd N w' b (p + 1)) : Draft N b (p + 1) base k w0 w' a cap rs := by
  obtain ⟨h1, h2, h3, h4, h5, h6⟩ := h
  exact ⟨own_but h1 hb h5, h2, h3.trans (hb.mono h6), hr, h5, Nat.le_trans h6 hb.size⟩
theorem Draft.more {N b p q base k : Nat} {w0 w w' : World} {a : Option Addr} {cap : Nat} {rs : List RowD} (h : Draft N b p base k w0 w a cap rs) (hb : But b w.heap.size w w') (hr : Rd N w' b q) : Draft N b q base k w0 w' a cap rs := by
  obtain ⟨h1, h2, h3, h4, h5, h6⟩ := h
  exact ⟨own_but h1 hb h5, h2, h3.trans (hb.mono h6), hr, h5, Nat.le_trans h6 hb.size⟩
theorem Draft.below {N b p base k : Nat} {w0 w w' : World} {a : Option Addr} {cap : Nat} {rs : List RowD} (h : Draft N b p base k w0 w a cap rs) (hb : Below w.heap.size w w') : Draft N b p base k w0 w' a cap rs := by
  obtain ⟨h1, h2, h3, h4, h5, h6⟩ := h
  exact ⟨own_below h1 hb, h2, h3.trans ((But.of_below hb).mono h6), h4.below hb h4.2.1, h5, Nat.le_trans h6 hb.size⟩
theorem Draft.rd {N b p q base k : Nat} {w0 w : World} {a : Option Addr} {cap : Nat} {rs : List RowD} (h : Draft N b p base k w0 w a cap rs) (hq : p ≤ q) : Draft N b q base k w0 w a cap rs := by
  obtain ⟨h1, h2, h3, h4, h5, h6⟩ := h
  exact ⟨h1, h2, h3, h4.mono hq, h5, h6⟩
theorem own_base {w : World} {base base' : Nat} {e : TypeId} {size : Nat} {v : Value} {n : Nat} {xs : List Value} (h : w.ownsRow base' e size v n xs) (hb : base ≤ base') : w.ownsRow base e size v n xs := by
  obtain ⟨h1, h2⟩ := h
  refine ⟨h1, ?_⟩
  rcases h2 with h2 | ⟨g, cap, cur, hv, hg, r⟩
  · exact .inl h2
  · exact .inr ⟨g, cap, cur, hv, Nat.le_trans hb hg, r⟩
/-- A slice of rows in bounds, in new memory that may be written. -/
def Loose (base : Nat) (w : World) (a : Option Addr) (cap : Nat) (rs : List RowD) : Prop :=
  ∃ g off, a = some ⟨g, off, none⟩ ∧ base ≤ g ∧ g < w.heap.size ∧ RowsAt w.heap.size w a rs ∧ (∀ o, w.frozen? ⟨g, o, none⟩ = false) ∧ 2 ≤ rs.length ∧ rs.length ≤ 15 ∧ (∀ r ∈ rs, Bd 20 r) ∧ rs.length ≤ cap ∧ cap ≤ maxLen
/-- An outline was drawn. -/
def DrewTree (N b p : Nat) (w : World) (e : Ending) (w' : World) : Prop :=
  ∃ (a : Option Addr) (cap : Nat) (rs : List RowD), e = .returned (.slice a rs.length cap) ∧ Loose w.heap.size w' a cap rs ∧ But b w.heap.size w w' ∧ Rd N w' b p
theorem own_loose {base : Nat} {w : World} {a : Option Addr} {cap : Nat} {rs : List RowD} (h : w.ownsRow base 29 3 (.slice a rs.length cap) rs.length (cellsL rs)) (h2 : 2 ≤ rs.length) (h3 : rs.length ≤ 15) (hb : ∀ r ∈ rs, Bd 20 r) : Loose base w a cap rs := by
  have hr := rowsAt_own h
  have hc := own_cap h
  rcases h.2 with ⟨_, h0⟩ | ⟨g, cap', cur, hv, hg, hh, _⟩
  · omega
  · cases hv
    exact ⟨g, 0, rfl, hg, (Array.getElem?_eq_some_iff.1 hh).1, hr, fun o => by simp [World.frozen?, hh], h2, h3, hb, hc.1, hc.2⟩
def setDep (rs : List RowD) (k : Nat) (d : Int) : List RowD := rs.modify k (fun r => ⟨r.id, d, r.txt⟩)
theorem mem_modify_all {P : RowD → Prop} {f : RowD → RowD} : ∀ (rs : List RowD) (k : Nat), (∀ r ∈ rs, P r) → (∀ r, P r → P (f r)) → ∀ r ∈ rs.modify k f, P r
  | [], k, _, _ => by simp
  | x :: rs, 0, h, hf => by
    intro r hr
    simp only [List.modify_zero_cons, List.mem_cons] at hr
    rcases hr with rfl | hr
    · exact hf _ (h _ (by simp))
    · exact h _ (by simp [hr])
  | x :: rs, k + 1, h, hf => by
    intro r hr
    simp only [List.modify_succ_cons, List.mem_cons] at hr
    rcases hr with rfl | hr
    · exact h _ (by simp)
    · exact mem_modify_all rs k (fun r hr => h r (by simp [hr])) hf r hr
theorem cellsL_cons (r : RowD) (rs : List RowD) : cellsL (r :: rs) = .int .i64 r.id :: .int .i64 r.dep :: .string r.txt :: cellsL rs := rfl
theorem cellsL_setTxt (t : ByteArray) : ∀ (rs : List RowD) (k : Nat), cellsL (setTxt rs k t) = (cellsL rs).set (k * 3 + 2) (.string t)
  | [], k => by simp [setTxt, cellsL]
  | r :: rs, 0 => by simp [setTxt, cellsL_cons]
  | r :: rs, k + 1 => by
    have ih := cellsL_setTxt t rs k
    unfold setTxt at ih ⊢
    rw [List.modify_succ_cons, cellsL_cons, cellsL_cons, ih, show (k + 1) * 3 + 2 = k * 3 + 2 + 1 + 1 + 1 by omega]
    simp [List.set]
theorem cellsL_setDep (d : Int) : ∀ (rs : List RowD) (k : Nat), cellsL (setDep rs k d) = (cellsL rs).set (k * 3 + 1) (.int .i64 d)
  | [], k => by simp [setDep, cellsL]
  | r :: rs, 0 => by simp [setDep, cellsL_cons]
  | r :: rs, k + 1 => by
    have ih := cellsL_setDep d rs k
    unfold setDep at ih ⊢
    rw [List.modify_succ_cons, cellsL_cons, cellsL_cons, ih, show (k + 1) * 3 + 1 = k * 3 + 1 + 1 + 1 + 1 by omega]
    simp [List.set]
theorem setTxt_len (rs : List RowD) (k : Nat) (t : ByteArray) : (setTxt rs k t).length = rs.length := by simp [setTxt]
theorem setDep_len (rs : List RowD) (k : Nat) (d : Int) : (setDep rs k d).length = rs.length := by simp [setDep]
/-- The outline behind the first loop. -/
def Draft2 (N b p base : Nat) (w0 w : World) (a : Option Addr) (cap : Nat) (rs : List RowD) : Prop :=
  w.ownsRow base 29 3 (.slice a rs.length cap) rs.length (cellsL rs) ∧ (3 ≤ rs.length ∧ rs.length ≤ 13 ∧ ∀ r ∈ rs, Bd 20 r) ∧ But b base w0 w ∧ Rd N w b p ∧ b < base ∧ base ≤ w.heap.size
theorem Draft.loose {N b p base : Nat} {w0 w : World} {a : Option Addr} {cap : Nat} {rs : List RowD} (h : Draft N b p base 10 w0 w a cap rs) : Draft2 N b p base w0 w a cap rs := by
  obtain ⟨h1, h2, h3⟩ := h
  exact ⟨h1, ⟨h2.lo, h2.hi, fun r hr => (h2.bd r hr).mono (by omega)⟩, h3⟩
theorem Draft2.more {N b p q base : Nat} {w0 w w' : World} {a : Option Addr} {cap : Nat} {rs : List RowD} (h : Draft2 N b p base w0 w a cap rs) (hb : But b w.heap.size w w') (hr : Rd N w' b q) : Draft2 N b q base w0 w' a cap rs := by
  obtain ⟨h1, h2, h3, h4, h5, h6⟩ := h
  exact ⟨own_but h1 hb h5, h2, h3.trans (hb.mono h6), hr, h5, Nat.le_trans h6 hb.size⟩
theorem Draft2.rd {N b p q base : Nat} {w0 w : World} {a : Option Addr} {cap : Nat} {rs : List RowD} (h : Draft2 N b p base w0 w a cap rs) (hq : p ≤ q) : Draft2 N b q base w0 w a cap rs := by
  obtain ⟨h1, h2, h3, h4, h5, h6⟩ := h
  exact ⟨h1, h2, h3, h4.mono hq, h5, h6⟩
theorem Draft2.addr {N b p base : Nat} {w0 w : World} {a : Option Addr} {cap : Nat} {rs : List RowD} (h : Draft2 N b p base w0 w a cap rs) : ∃ g, a = some ⟨g, 0, none⟩ ∧ base ≤ g ∧ g < w.heap.size := by
  obtain ⟨h1, ⟨h2, _⟩, _⟩ := h
  rcases h1.2 with ⟨_, h0⟩ | ⟨g, cap', cur, hv, hg, hh, _⟩
  · omega
  · cases hv; exact ⟨g, rfl, hg, (Array.getElem?_eq_some_iff.1 hh).1⟩
theorem Draft2.put {N b p base g cap o : Nat} {w0 w : World} {rs rs' : List RowD} {u : Value} (h : Draft2 N b p base w0 w (some ⟨g, 0, none⟩) cap rs) (hg : base ≤ g) (hl : rs'.length = rs.length) (hc : cellsL rs' = (cellsL rs).set o u) (hb : ∀ r ∈ rs', Bd 20 r) :
    Draft2 N b p base w0 (w.setCell ⟨g, o, none⟩ u) (some ⟨g, 0, none⟩) cap rs' := by
  obtain ⟨h1, ⟨h2, h2', _⟩, h3, h4, h5, h6⟩ := h
  have hB : Below base w (w.setCell ⟨g, o, none⟩ u) := (Below.refl _ _).setCell (p := ⟨g, o, none⟩) hg _
  refine ⟨?_, ⟨by omega, by omega, hb⟩, h3.trans (But.of_below hB), h4.below hB h5, h5, Nat.le_trans h6 hB.size⟩
  rw [hc, hl]; exact (h1.stored o u).1
theorem Draft2.putTxt {N b p base g cap : Nat} {w0 w : World} {rs : List RowD} (h : Draft2 N b p base w0 w (some ⟨g, 0, none⟩) cap rs) (hg : base ≤ g) (k : Nat) :
    Draft2 N b p base w0 (w.setCell ⟨g, k * 3 + 2, none⟩ (.string ⟨#[]⟩)) (some ⟨g, 0, none⟩) cap (setTxt rs k ⟨#[]⟩) :=
  h.put hg (setTxt_len _ _ _) (cellsL_setTxt _ _ _) (mem_modify_all rs k h.2.1.2.2 fun _ hr => ⟨hr.1, hr.2.1, hr.2.2.1, hr.2.2.2.1, by show (ByteArray.mk #[]).size ≤ 7; decide⟩)
theorem Draft2.putDep {N b p base g cap : Nat} {w0 w : World} {rs : List RowD} (h : Draft2 N b p base w0 w (some ⟨g, 0, none⟩) cap rs) (hg : base ≤ g) (k : Nat) (d : Int) (d0 : 0 ≤ d) (d1 : d ≤ 20) :
    Draft2 N b p base w0 (w.setCell ⟨g, k * 3 + 1, none⟩ (.int .i64 d)) (some ⟨g, 0, none⟩) cap (setDep rs k d) :=
  h.put hg (setDep_len _ _ _) (cellsL_setDep _ _ _) (mem_modify_all rs k h.2.1.2.2 fun _ hr => ⟨hr.1, hr.2.1, d0, d1, hr.2.2.2.2⟩)
theorem Draft2.drew {N b p q : Nat} {w w' : World} {a : Option Addr} {cap : Nat} {rs : List RowD} (h : Draft2 N b p w.heap.size w w' a cap rs) (hq : p ≤ q) : DrewTree N b q w (.returned (.slice a rs.length cap)) w' := by
  obtain ⟨h1, ⟨h2, h2', h2''⟩, h3, h4, h5, h6⟩ := h
  exact ⟨a, cap, rs, rfl, own_loose h1 (by omega) (by omega) h2'', h3, h4.mono hq⟩
theorem rowsAt_tail {B : Nat} {w : World} {g off : Nat} {rs : List RowD} (h : RowsAt B w (some ⟨g, off, none⟩) rs) (h1 : 1 ≤ rs.length) : RowsAt B w (some ⟨g, off + 3, none⟩) rs.tail := by
  rcases h with h | ⟨b', off', e, hB, hc⟩
  · omega
  · cases e
    refine .inr ⟨g, off + 3, rfl, hB, fun i hi => ?_⟩
    have hi' : i + 1 < rs.length := by simp at hi; omega
    have := hc (i + 1) hi'
    have e : rat rs.tail i = rat rs (i + 1) := by simp [rat, List.getD_eq_getElem?_getD]
    rw [e, show off + 3 + i * 3 = off + (i + 1) * 3 by omega]; exact this
theorem Draft2.tail {N b p q g cap : Nat} {w w' : World} {rs : List RowD} (h : Draft2 N b p w.heap.size w w' (some ⟨g, 0, none⟩) cap rs) (hq : p ≤ q) (n : Nat) (hn : n + 1 = rs.length) (c : Nat) (hc : c + 1 = cap) : DrewTree N b q w (.returned (.slice (some ⟨g, 3, none⟩) n c)) w' := by
  obtain ⟨h1, ⟨h2, h2', h2''⟩, h3, h4, h5, h6⟩ := h
  obtain ⟨g', off, e, l1, l2, l3, l4, l5, l6, l7, l8, l9⟩ := own_loose h1 (by omega) (by omega) h2''
  cases e
  have hl : rs.tail.length = n := by simp; omega
  refine ⟨_, c, rs.tail, by rw [hl], ⟨g, 3, rfl, l1, l2, rowsAt_tail l3 (by omega), l4, by omega, by omega, fun r hr => l7 r (List.mem_of_mem_tail hr), by omega, by omega⟩, h3, h4.mono hq⟩
theorem kidsL_small {rs : List RowD} {id : Int} {m : Nat} (h : rs.length ≤ m) : (kidsL rs id).length ≤ m := by
  unfold kidsL
  split
  · rename_i h'
    have h1 := kidsOf_len rs (atN rs id) (enR rs (atN rs id) - (atN rs id + 1)) (atN rs id + 1)
    have h2 := (en_spec (D := rdep rs) h').2.1
    unfold kidsAt
    have h3 : enR rs (atN rs id) ≤ rs.length := h2
    omega
  · simp
set_option maxRecDepth 100000 in
set_option maxHeartbeats 4000000 in
theorem l71Tree_any (N b p : Nat) (w : World) (hr : Rd N w b p) (hp : p < 100000) :
    Calls Tryd.prog 32 #[.pointer (some ⟨b, 0, none⟩)] w (DrewTree N b (p + 300) w) := by
  have hbw := hr.2.1
  go_enter Tryd.func32, Tryd.ntmps32
  go_wp2_with fail
  refine (specTreeNew_any w).mono ?_
  rintro e w' ⟨rfl, rfl⟩
  have ax : Below w.heap.size w (w.alloc (.cells #[.int .i64 1, .int .i64 0, .string ⟨#[]⟩, .int .i64 2, .int .i64 0, .string ⟨#[]⟩, .int .i64 3, .int .i64 0, .string ⟨#[]⟩] 29)) := (Below.refl _ _).alloc (Nat.le_refl _) _
  have hD0 : Draft N b p w.heap.size 0 w (w.alloc (.cells #[.int .i64 1, .int .i64 0, .string ⟨#[]⟩, .int .i64 2, .int .i64 0, .string ⟨#[]⟩, .int .i64 3, .int .i64 0, .string ⟨#[]⟩] 29)) (some ⟨w.heap.size, 0, none⟩) 3 t0 :=
    ⟨own_t0 w, drawn_t0, But.of_below ax, hr.below ax hbw, hbw, ax.size⟩
  clear ax
  generalize w.alloc (.cells #[.int .i64 1, .int .i64 0, .string ⟨#[]⟩, .int .i64 2, .int .i64 0, .string ⟨#[]⟩, .int .i64 3, .int .i64 0, .string ⟨#[]⟩] 29) = W at *
  go_wp2_with fail
  refine (pick_any _ _ _ _ _ hD0.2.2.2.1 (by omega) (by omega) (by omega)).mono ?_
  rintro e w1 ⟨k, k0, k1, rfl, b1, s1, r1⟩
  obtain ⟨m, rfl⟩ := Int.eq_ofNat_of_zero_le k0
  have hD1 := hD0.pick b1 r1
  clear hD0 b1 s1 r1
  go_wp2_with fail
  go_loopw [3, 4] (fun t n wr => ∃ (j : Nat) (a : Option Addr) (cap : Nat) (rs : List RowD), j ≤ 10 ∧ n = .int .i64 j ∧ t = .slice a rs.length cap ∧ Draft N b (p + 1 + 20 * (10 - j)) w.heap.size (10 - j) w wr a cap rs) (fun _ n _ => (intOf n).toNat)
  case atStart => exact ⟨m, _, 3, t0, by omega, rfl, rfl, ⟨hD1.1, hD1.2.1.mono (by omega), hD1.2.2.1, hD1.2.2.2.1.mono (by omega), hD1.2.2.2.2⟩⟩
  case round =>
    obtain ⟨j, a, cap, rs, hj, rfl, rfl, hDr⟩ := hrel
    by_cases hj0 : 0 < j
    · have j1 : (0 : Int) < (j : Int) := by omega
      have hlo := hDr.2.1.lo
      have hhi := hDr.2.1.hi
      go_upto_region 6 with fail
      go_cut [23] (fun s wx => ∃ c : Bool, s = .bool c ∧ Draft N b (p + 2 + 20 * (10 - j)) w.heap.size (10 - j) w wx a cap rs)
      case first =>
        by_cases h3 : 3 < rs.length
        · have h3' : (3 : Int) < (rs.length : Int) := by omega
          go_wp2_with fail
          refine (pick_any _ _ _ _ _ hDr.2.2.2.1 (by omega) (by omega) (by omega)).mono ?_
          rintro e w2 ⟨q, q0, q1, rfl, b2, s2, r2⟩
          have hD2 := hDr.pick b2 r2
          go_wp2_with fail
          go_meet
          exact ⟨_, rfl, hD2.rd (by omega)⟩
        · go_wp2_with fail
          go_meet
          exact ⟨false, by first | rfl | simp | (simp; omega), hDr.rd (by omega)⟩
      case rest =>
        obtain ⟨c, rfl, hD2⟩ := hcut
        clear hDr
        go_upto_if 23 with fail
        go_cut [5] (fun s wx => ∃ u : Int, s = .int .i64 u ∧ Draft N b (p + 3 + 20 * (10 - j)) w.heap.size (10 - j) w wx a cap rs)
        case first =>
          cases c
          · go_wp2_with fail
            go_meet
            exact ⟨1, rfl, hD2.rd (by omega)⟩
          · go_wp2_with fail
            refine (pick_any _ _ _ _ _ hD2.2.2.2.1 (by omega) (by omega) (by omega)).mono ?_
            rintro e w3 ⟨q, q0, q1, rfl, b3, s3, r3⟩
            obtain ⟨i, rfl⟩ := Int.eq_ofNat_of_zero_le q0
            have hD3 := hD2.pick b3 r3
            obtain ⟨g, off, rfl, hg, c0, c1, c2⟩ := (rowsAt_own hD3.1).at_ (show i < rs.length by omega)
            clear b3 s3 r3
            go_wp2_with fail
            go_meet
            exact ⟨_, rfl, hD3.rd (by omega)⟩
        case rest =>
          obtain ⟨u, rfl, hD3⟩ := hcut
          clear hD2
          have hfit := bd_fit (k := 10 - j) (by omega) (by omega) hD3.2.1.bd
          have hsm := bd_small (k := 10 - j) (by omega) hD3.2.1.bd
          have hFit := Lib.hid hfit
          have hSm := Lib.hid hsm
          clear hfit hsm
          go_wp2_with fail
          refine (l2Kids_any _ _ _ _ _ _ (Nat.le_refl _) (rowsAt_own hD3.1) hFit.out hSm.out).mono ?_
          rintro e w4 ⟨v4, rfl, ow4, hb4⟩
          obtain ⟨a4, c4, rfl, hc4⟩ := own_slice ow4
          have hD4 := hD3.below hb4
          have hi4 := (ints_of_own ow4)
          have hkl := kidsL_small (id := u) (show rs.length ≤ 13 by omega)
          have hsz4 := hb4.size
          have hb3 := hD3.2.2.2.1.2.1
          clear ow4 hb4 hD3
          generalize kidsL rs u = ks at *
          go_upto_region 10 with fail
          go_cut [42] (fun s wx => ∃ c : Bool, s = .bool c ∧ (c = true → 0 < ks.length) ∧ IntsAt wc.heap.size wx a4 ks ∧ Draft N b (p + 4 + 20 * (10 - j)) w.heap.size (10 - j) w wx a cap rs)
          case first =>
            by_cases hk0 : 0 < ks.length
            · have hk0' : (0 : Int) < (ks.length : Int) := by omega
              go_wp2_with fail
              refine (pick_any _ _ _ _ _ hD4.2.2.2.1 (by omega) (by omega) (by omega)).mono ?_
              rintro e w5 ⟨q, q0, q1, rfl, b5, s5, r5⟩
              have hD5 := hD4.pick b5 r5
              have hi5 := hi4.but b5 (by omega)
              go_wp2_with fail
              go_meet
              exact ⟨_, rfl, fun _ => hk0, hi5, hD5.rd (by omega)⟩
            · go_wp2_with fail
              go_meet
              exact ⟨false, by first | rfl | simp | (simp; omega), fun h => by simp at h, hi4, hD4.rd (by omega)⟩
          case rest =>
            obtain ⟨c, rfl, hc, hi5, hD5⟩ := hcut
            clear hD4 hi4
            go_upto_if 42 with fail
            go_cut [7] (fun s wx => ∃ v : Int, s = .int .i64 v ∧ Draft N b (p + 5 + 20 * (10 - j)) w.heap.size (10 - j) w wx a cap rs)
            case first =>
              cases c
              · go_wp2_with fail
                go_meet
                exact ⟨0, rfl, hD5.rd (by omega)⟩
              · have hk0 := hc rfl
                go_wp2_with fail
                refine (pick_any _ _ _ _ _ hD5.2.2.2.1 (by omega) (by omega) (by omega)).mono ?_
                rintro e w6 ⟨q, q0, q1, rfl, b6, s6, r6⟩
                obtain ⟨i, rfl⟩ := Int.eq_ofNat_of_zero_le q0
                have hD6 := hD5.pick b6 r6
                have hi6 := (hi5.but b6 (by omega)).low
                obtain ⟨g, rfl, hg, c0⟩ := hi6.at_ (show i < ks.length by omega)
                clear b6 s6 r6
                go_wp2_with fail
                go_meet
                exact ⟨_, rfl, hD6.rd (by omega)⟩
            case rest =>
              obtain ⟨v, rfl, hD6⟩ := hcut
              clear hD5 hi5 hc
              go_wp2_with fail
              refine (l71Id_any _ _ _ _ hD6.2.2.2.1 (by omega)).mono ?_
              rintro e w7 ⟨z, z0, z1, rfl, b7, r7⟩
              have hD7 := hD6.more b7 r7
              clear hD6 b7 r7
              go_wp2_with fail
              refine (l71Text_any _ _ _ _ hD7.2.2.2.1 (by omega)).mono ?_
              rintro e w8 ⟨str, hstr, rfl, b8, r8⟩
              have hD8 := hD7.more b8 r8
              clear hD7 b8 r8
              go_wp2_with fail
              refine (l3DoMake_any _ _ _ _ ⟨1, z, u, v, str⟩ _ rfl (Nat.le_refl _) (rowsAt_own hD8.1) hFit.out hSm.out (own_cap hD8.1).1 (own_cap hD8.1).2 (by omega) (three_there hD8.2.1.three) (by omega)).mono ?_
              rintro e w9 ⟨a9, c9, rfl, ow9, hc9, hb9⟩
              have hD9 : Draft N b (p + 1 + 20 * (10 - (j - 1))) w.heap.size (10 - (j - 1)) w w9 a9 c9 (doR rs ⟨1, z, u, v, str⟩) :=
                ⟨own_base ow9 hD8.2.2.2.2.2, (drawn_do hD8.2.1 rfl (by show 0 ≤ z; omega) (by show z ≤ 99; omega) hstr).mono (by omega), hD8.2.2.1.trans ((But.of_below hb9).mono hD8.2.2.2.2.2), (hD8.2.2.2.1.below hb9 hD8.2.2.2.1.2.1).mono (by omega), hD8.2.2.2.2.1, Nat.le_trans hD8.2.2.2.2.2 hb9.size⟩
              clear hD8 ow9 hb9
              generalize doR rs ⟨1, z, u, v, str⟩ = ds at *
              go_wp2
              go_roundw
              case rel => exact ⟨j - 1, _, _, ds, by omega, by go_num, rfl, hD9⟩
              case measure => simp [intOf]; omega
    · have j1 : ¬ (0 : Int) < (j : Int) := by omega
      have j2 : 10 - j = 10 := by omega
      rw [j2] at hDr
      have hE : Draft2 N b (p + 201) w.heap.size w wr a cap rs := (hDr.rd (by omega)).loose
      clear j2
      clear hDr hD1
      obtain ⟨g, rfl, hg, hgl⟩ := hE.addr
      have hlo := hE.2.1.1
      have hhi := hE.2.1.2.1
      go_wp2_with fail
      go_loopw [8] (fun t wx => ∃ (k : Nat) (xs : List RowD), k ≤ rs.length ∧ xs.length = rs.length ∧ t = .int .i64 k ∧ Draft2 N b (p + 201 + k) w.heap.size w wx (some ⟨g, 0, none⟩) cap xs) (fun t _ => rs.length - (intOf t).toNat)
      case atStart => exact ⟨0, rs, Nat.zero_le _, rfl, rfl, hE⟩
      case round =>
        obtain ⟨k, xs, hk, hxl, rfl, hX⟩ := hrel
        clear hE
        by_cases hlt : k < rs.length
        · have i1 : (k : Int) < (rs.length : Int) := by omega
          obtain ⟨g', off', e1, hg', c0, c1, c2⟩ := (rowsAt_own hX.1).at_ (show k < xs.length by omega)
          cases e1
          have z2 := hX.1.frozenAt (k * 3 + 2)
          have hsz : (rat xs k).txt.size ≤ maxLen := by have := (hX.2.1.2.2 _ (rat_mem (show k < xs.length by omega))).2.2.2.2; unfold maxLen; omega
          have hS := hX.putTxt hg k
          rw [Nat.zero_add] at c0 c1 c2
          generalize (rat xs k).txt = str at *
          cases htb : textB str
          · go_wp2_with fail
            refine (l1Text_any _ _ hsz).mono ?_
            rintro e w2 ⟨rfl, rfl⟩
            go_wp2_with fail
            refine (pick_any _ _ _ _ _ hX.2.2.2.1 (by omega) (by omega) (by omega)).mono ?_
            rintro e w3 ⟨q, q0, q1, rfl, b3, s3, r3⟩
            have hX3 := hX.more b3 r3
            have hS3 := hX3.putTxt hg k
            obtain ⟨_, _, e1, _, _, _, d2⟩ := (rowsAt_own hX3.1).at_ (show k < xs.length by omega)
            cases e1
            rw [Nat.zero_add] at d2
            have y2 := hX3.1.frozenAt (k * 3 + 2)
            clear b3 s3 r3 hS c0 c1 c2 z2
            by_cases hq : q = 0
            · subst hq
              go_wp2
              go_roundw
              case rel => exact ⟨k + 1, _, by omega, by rw [setTxt_len]; exact hxl, by go_num, hS3.rd (by omega)⟩
              case measure => simp [intOf]; omega
            · go_wp2
              go_roundw
              case rel => exact ⟨k + 1, xs, by omega, hxl, by go_num, hX3.rd (by omega)⟩
              case measure => simp [intOf]; omega
          · go_wp2_with fail
            refine (l1Text_any _ _ hsz).mono ?_
            rintro e w2 ⟨rfl, rfl⟩
            go_wp2
            go_roundw
            case rel => exact ⟨k + 1, xs, by omega, hxl, by go_num, hX.rd (by omega)⟩
            case measure => simp [intOf]; omega
        · obtain rfl : k = rs.length := by omega
          go_wp2_with fail
          refine (pick_any _ _ _ _ _ hX.2.2.2.1 (by omega) (by omega) (by omega)).mono ?_
          rintro e w3 ⟨q, q0, q1, rfl, b3, s3, r3⟩
          have hX3 := hX.more b3 r3
          clear hX b3 s3 r3
          have hcap := own_cap hX3.1
          rw [hxl] at hcap
          by_cases q00 : q = 0
          · subst q00
            go_wp2_with fail
            refine (pick_any _ _ _ _ _ hX3.2.2.2.1 (by omega) (by omega) (by omega)).mono ?_
            rintro e w4 ⟨q, q2, q3, rfl, b4, s4, r4⟩
            obtain ⟨i, rfl⟩ := Int.eq_ofNat_of_zero_le q2
            have hX4 := hX3.more b4 r4
            clear b4 s4 r4 hX3
            go_wp2_with fail
            refine (pick_any _ _ _ _ _ hX4.2.2.2.1 (by omega) (by omega) (by omega)).mono ?_
            rintro e w5 ⟨d, d0, d1, rfl, b5, s5, r5⟩
            have hX5 := hX4.more b5 r5
            clear b5 s5 r5 hX4
            obtain ⟨_, _, e1, _, _, c1, _⟩ := (rowsAt_own hX5.1).at_ (show i < xs.length by omega)
            cases e1
            rw [Nat.zero_add] at c1
            have z1 := hX5.1.frozenAt (i * 3 + 1)
            have hF := (hX5.putDep hg i d d0 (by omega)).drew (q := p + 300) (by omega)
            rw [setDep_len, hxl] at hF
            have HF := Lib.hid hF
            clear hF hX5
            go_wp2
            go_ret
            exact HF.out
          · by_cases q01 : q = 1
            · subst q01
              go_wp2_with fail
              refine (pick_any _ _ _ _ _ hX3.2.2.2.1 (by omega) (by omega) (by omega)).mono ?_
              rintro e w4 ⟨q, q2, q3, rfl, b4, s4, r4⟩
              obtain ⟨i, rfl⟩ := Int.eq_ofNat_of_zero_le q2
              have hX4 := hX3.more b4 r4
              clear b4 s4 r4 hX3
              obtain ⟨_, _, e1, _, c0, c1, c2⟩ := (rowsAt_own hX4.1).at_ (show i < xs.length by omega)
              cases e1
              rw [Nat.zero_add] at c0 c1 c2
              have hbi := hX4.2.1.2.2 _ (rat_mem (show i < xs.length by omega))
              have hlen : (xs ++ [rat xs i]).length = rs.length + 1 := by simp [hxl]
              have hbs : ∀ r ∈ xs ++ [rat xs i], Bd 20 r := fun r hr => by
                simp only [List.mem_append, List.mem_singleton] at hr
                rcases hr with hr | rfl
                · exact hX4.2.1.2.2 r hr
                · exact hbi
              have HBS := Lib.hid hbs
              have HLEN := Lib.hid hlen
              clear hbs hlen hbi
              obtain ⟨i0, hi, hz0, hz1, hz2⟩ := info_parts infoRow
              have own := hX4.1
              rw [hxl] at own
              have hsz4 := hX4.2.2.2.2.2
              go_wp2_with (at_builtin; refine wpList_append_own _ rfl _ _ 23 rfl w.heap.size 29 i0 (.agg #[.int .i64 0, .int .i64 0, .string ⟨#[]⟩]) 3 32 Tryd.underlying23 hi hz0 hz1 hz2 rfl (by decide) _ _ _ rfl (own.alloc _) ⟨w4.heap.size, 0, none⟩ 1 1 (cellsL [rat xs i]) rfl ?c0 ?c1 ?c2 ?c3 ?c4 ?c5 ?_)
              case c0 => rfl
              case c1 => exact cells_new3 w4 _ _ _ _ _ rfl
              case c2 => exact cellsL_plain _
              case c3 => unfold maxLen; omega
              case c4 => omega
              case c5 => simp; omega
              intro v2 w2 own2 grow2 _
              have hb2 : Below w.heap.size w4 w2 := ((Below.refl _ _).alloc hsz4 (.cells #[.int .i64 (rat xs i).id, .int .i64 (rat xs i).dep, .string (rat xs i).txt] 29)).grown grow2 (by simp; omega) (own_block own)
              obtain ⟨va2, vc2, rfl, _⟩ := own_slice own2
              rw [← cellsL_append, ← HLEN.out] at own2
              have hF : DrewTree N b (p + 300) w (.returned (.slice va2 (rs.length + 1) vc2)) w2 :=
                ⟨va2, vc2, xs ++ [rat xs i], by rw [HLEN.out], own_loose own2 (by rw [HLEN.out]; omega) (by rw [HLEN.out]; omega) HBS.out, hX4.2.2.1.trans (But.of_below hb2), (hX4.2.2.2.1.below hb2 hX4.2.2.2.2.1).mono (by omega)⟩
              have HF := Lib.hid hF
              clear hF own2 grow2 hb2 own hX4 HBS
              go_wp2
              go_ret
              exact HF.out
            · by_cases q02 : q = 2
              · subst q02
                have hF := hX3.tail (q := p + 300) (by omega) (rs.length - 1) (by omega) (cap - 1) (by omega)
                have HF := Lib.hid hF
                clear hF hX3
                have i1 : (1 : Int) ≤ (rs.length : Int) := by omega
                have i2 : (1 : Int) ≤ (cap : Int) := by omega
                have i3 : (rs.length : Int) ≤ (cap : Int) := by omega
                go_wp2
                go_ret
                exact HF.out
              · have hF := hX3.drew (q := p + 300) (by omega)
                rw [hxl] at hF
                have HF := Lib.hid hF
                clear hF hX3
                go_wp2
                go_ret
                exact HF.out
end Go.Proofs.YtiigkjpabbgnpaaDoor
