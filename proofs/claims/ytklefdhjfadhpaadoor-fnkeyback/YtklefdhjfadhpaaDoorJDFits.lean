/-
  The model's drawing of an outline and a change of it: l71Fits, DrawOpDo. Conditions: as each theorem says.
-/
import Derived.Test.YtklefdhjfadhpaaDoorGF
namespace Go.Proofs.YtklefdhjfadhpaaDoor
open Go.ChangeShapes Go.WideShapes Go.ChangeAt Go.RowKit Go.Joins

theorem Loose.set {base B k cap g off : Nat} {w : World} {v : Value} {rs : List RowD} (h : Loose base w (some ⟨g, off, none⟩) cap rs) (hne : g ≠ B) : Loose base (w.setCell ⟨B, k, none⟩ v) (some ⟨g, off, none⟩) cap rs := by
  have hb : But B w.heap.size w (w.setCell ⟨B, k, none⟩ v) := (But.refl _ _ _).setCell k v
  obtain ⟨g', off', e, h1, h2, h3, h4, h5⟩ := h
  cases e
  have hs := hb.size
  refine ⟨g, off, rfl, h1, by omega, ?_, fun o => by rw [hb.frozen (p := ⟨g, o, none⟩) h2 hne]; exact h4 o, h5⟩
  rcases h3 with h3 | ⟨b', off', e, hB, hc⟩
  · exact .inl h3
  · cases e
    refine .inr ⟨g, off, rfl, by omega, fun i hi => ?_⟩
    rw [hb.cell (p := ⟨g, _, none⟩) h2 hne, hb.cell (p := ⟨g, _, none⟩) h2 hne, hb.cell (p := ⟨g, _, none⟩) h2 hne]
    exact hc i hi
/-- What holds while an outline and a change are drawn: block B is the change's box, the first new block the result's. -/
structure FH (N b p B : Nat) (w0 w : World) (g off cap : Nat) (rs : List RowD) (o : OpD) : Prop where
  loose : Loose w0.heap.size w (some ⟨g, off, none⟩) cap rs
  but : But b w0.heap.size w0 w
  rd : Rd N w b p
  lt : b < w0.heap.size
  box : OBox w B o
  le : w0.heap.size ≤ B
  ne : g ≠ B
  res : OBox w w0.heap.size oz
  gne : g ≠ w0.heap.size
  bne : w0.heap.size ≠ B
  ok : OpS o
theorem FH.more {N b p q B g off cap : Nat} {w0 w w' : World} {rs : List RowD} {o : OpD} (h : FH N b p B w0 w g off cap rs o) (hb : But b w.heap.size w w') (hr : Rd N w' b q) : FH N b q B w0 w' g off cap rs o :=
  ⟨h.loose.but hb h.lt, h.but.trans (hb.mono h.but.size), hr, h.lt, h.box.but hb h.box.lt (by have := h.lt; have := h.le; omega), h.le, h.ne, h.res.but hb h.res.lt (by have := h.lt; omega), h.gne, h.bne, h.ok⟩
theorem FH.below {N b p B g off cap : Nat} {w0 w w' : World} {rs : List RowD} {o : OpD} (h : FH N b p B w0 w g off cap rs o) (hb : Below w.heap.size w w') : FH N b p B w0 w' g off cap rs o :=
  ⟨h.loose.below hb, h.but.trans ((But.of_below hb).mono h.but.size), h.rd.below hb h.rd.2.1, h.lt, h.box.below hb h.box.lt, h.le, h.ne, h.res.below hb h.res.lt, h.gne, h.bne, h.ok⟩
theorem FH.put {N b p B k g off cap : Nat} {w0 w : World} {rs : List RowD} {o o' : OpD} {v : Value} (h : FH N b p B w0 w g off cap rs o) (h' : OBox (w.setCell ⟨B, k, none⟩ v) B o') (ho : OpS o') : FH N b p B w0 (w.setCell ⟨B, k, none⟩ v) g off cap rs o' := by
  have hB : Below w0.heap.size w (w.setCell ⟨B, k, none⟩ v) := (Below.refl _ _).setCell (p := ⟨B, k, none⟩) h.le _
  exact ⟨h.loose.set h.ne, h.but.trans (But.of_below hB), h.rd.below hB h.lt, h.lt, h', h.le, h.ne, (Below.heap_setCell _ _ _ _ h.bne).trans h.res, h.gne, h.bne, ho⟩
theorem FH.put1 {N b p B g off cap : Nat} {w0 w : World} {rs : List RowD} {o : OpD} (h : FH N b p B w0 w g off cap rs o) (z : Int) (z0 : 0 ≤ z) (z1 : z ≤ 99) : FH N b p B w0 (w.setCell ⟨B, 1, none⟩ (.int .i64 z)) g off cap rs ⟨o.kind, z, o.up, o.at_, o.txt⟩ :=
  h.put (h.box.set1 z) ⟨h.ok.kind, ⟨z0, z1⟩, h.ok.up, h.ok.at_, h.ok.txt⟩
theorem FH.put2 {N b p B g off cap : Nat} {w0 w : World} {rs : List RowD} {o : OpD} (h : FH N b p B w0 w g off cap rs o) (z : Int) (z0 : 0 ≤ z) (z1 : z ≤ 99) : FH N b p B w0 (w.setCell ⟨B, 2, none⟩ (.int .i64 z)) g off cap rs ⟨o.kind, o.id, z, o.at_, o.txt⟩ :=
  h.put (h.box.set2 z) ⟨h.ok.kind, h.ok.id, ⟨z0, z1⟩, h.ok.at_, h.ok.txt⟩
theorem FH.put3 {N b p B g off cap : Nat} {w0 w : World} {rs : List RowD} {o : OpD} (h : FH N b p B w0 w g off cap rs o) (z : Int) (z0 : 0 ≤ z) (z1 : z ≤ 99) : FH N b p B w0 (w.setCell ⟨B, 3, none⟩ (.int .i64 z)) g off cap rs ⟨o.kind, o.id, o.up, z, o.txt⟩ :=
  h.put (h.box.set3 z) ⟨h.ok.kind, h.ok.id, h.ok.up, ⟨z0, z1⟩, h.ok.txt⟩
/-- An outline and a change were drawn. -/
def DrewFit (N b p : Nat) (w : World) (e : Ending) (w' : World) : Prop :=
  ∃ (a : Option Addr) (cap : Nat) (rs : List RowD) (o : OpD), OpS o ∧ e = .returned (.tuple #[.slice a rs.length cap, .agg #[.int .i64 o.kind, .int .i64 o.id, .int .i64 o.up, .int .i64 o.at_, .string o.txt]]) ∧ Loose w.heap.size w' a cap rs ∧ But b w.heap.size w w' ∧ Rd N w' b p
theorem FH.drew {N b p q B g off cap : Nat} {w w' : World} {rs : List RowD} {o : OpD} (h : FH N b p B w w' g off cap rs o) (hq : p ≤ q) : DrewFit N b q w (.returned (.tuple #[.slice (some ⟨g, off, none⟩) rs.length cap, .agg #[.int .i64 o.kind, .int .i64 o.id, .int .i64 o.up, .int .i64 o.at_, .string o.txt]])) (given w' w.heap.size o) := by
  have hB : Below w.heap.size w' (given w' w.heap.size o) := by
    unfold given
    exact (((((Below.refl _ _).setCell (p := ⟨w.heap.size, 0, none⟩) (Nat.le_refl _) _).setCell (p := ⟨w.heap.size, 1, none⟩) (Nat.le_refl _) _).setCell (p := ⟨w.heap.size, 2, none⟩) (Nat.le_refl _) _).setCell (p := ⟨w.heap.size, 3, none⟩) (Nat.le_refl _) _).setCell (p := ⟨w.heap.size, 4, none⟩) (Nat.le_refl _) _
  refine ⟨_, cap, rs, o, h.ok, rfl, ?_, h.but.trans (But.of_below hB), (h.rd.mono hq).below hB h.lt⟩
  unfold given
  exact ((((h.loose.set h.gne).set h.gne).set h.gne).set h.gne).set h.gne
theorem ints_get {base : Nat} {w : World} {a : Option Addr} {xs : List Int} (h : IntsAt base w a xs) {i : Nat} (hi : i < xs.length) : ∃ g, a = some ⟨g, 0, none⟩ ∧ base ≤ g ∧ g < w.heap.size ∧ w.cell? ⟨g, i, none⟩ = some (.int .i64 (xs.getD i 0)) := by
  rcases h with h | ⟨g, e, h1, h2, h3⟩
  · omega
  · exact ⟨g, e, h1, h2, (h3 i hi).1⟩
theorem kids_bd {rs : List RowD} {id : Int} (hb : ∀ r ∈ rs, Bd 20 r) {i : Nat} (hi : i < (kidsL rs id).length) : 0 ≤ (kidsL rs id).getD i 0 ∧ (kidsL rs id).getD i 0 ≤ 99 := by
  have hm : (kidsL rs id).getD i 0 ∈ kidsL rs id := by rw [List.getD_eq_getElem?_getD, List.getElem?_eq_getElem hi]; exact List.getElem_mem hi
  generalize (kidsL rs id).getD i 0 = q at hm
  have ht := kidsL_there hm
  have e := atN_id ht
  have := hb _ (rat_mem ht)
  exact ⟨by rw [← e]; exact this.1, by rw [← e]; exact this.2.1⟩
set_option maxRecDepth 100000 in
set_option maxHeartbeats 20000000 in
theorem l71Fits_any (N b p : Nat) (w : World) (hr : Rd N w b p) (hp : p < 80000) :
    Calls Tryd.prog 64 #[.pointer (some ⟨b, 0, none⟩)] w (DrewFit N b (p + 4000) w) := by
  have hbw := hr.2.1
  have hal : Below w.heap.size w (w.alloc (.cells #[.int .i64 0, .int .i64 0, .int .i64 0, .int .i64 0, .string ⟨#[]⟩] 27)) := (Below.refl _ _).alloc (Nat.le_refl _) _
  have hR0 := OBox.new w oz
  have hr0 := hr.below hal hbw
  go_enter Tryd.func64, Tryd.ntmps64
  go_wp2_with fail
  refine (l71Row_any _ _ _ _ hr0 (by omega)).mono ?_
  rintro e w1 ⟨a1, cap, rs, z, rfl, z0, z1, l1, b1, r1⟩
  obtain ⟨g, off, rfl, hg1, hg2, _⟩ := id l1
  have hR1 : OBox w1 w.heap.size oz := OBox.but hR0 b1 hR0.lt (by omega)
  have hgw : w.heap.size < g := Nat.lt_of_lt_of_le hR0.lt hg1
  have b1' : But b w.heap.size w w1 := (But.of_below hal).trans (b1.mono hal.size)
  go_wp2_with fail
  refine (l71Op_any _ _ _ _ r1 (by omega)).mono ?_
  rintro e w2 ⟨o, ho, rfl, b2, r2⟩
  have hs12 := b2.size
  have hal2 : Below w2.heap.size w2 (w2.alloc (.cells #[.int .i64 o.kind, .int .i64 o.id, .int .i64 o.up, .int .i64 o.at_, .string o.txt] 27)) := (Below.refl _ _).alloc (Nat.le_refl _) _
  have hR2 : OBox w2 w.heap.size oz := OBox.but hR1 b2 hR1.lt (by omega)
  have b2' := b1'.trans (b2.mono b1'.size)
  have hF3 : FH N b (p + 3000 + 20) w2.heap.size w (w2.alloc (.cells #[.int .i64 o.kind, .int .i64 o.id, .int .i64 o.up, .int .i64 o.at_, .string o.txt] 27)) g off cap rs o :=
    ⟨((l1.but b2 (by have := hal.size; omega)).base hal.size).below hal2, b2'.trans ((But.of_below hal2).mono b2'.size), r2.below hal2 r2.2.1, hbw, OBox.new w2 o, b2'.size, by omega, hR2.below hal2 hR2.lt, by omega, by have := hR2.lt; omega, ho⟩
  clear hR0 hR1 hR2 hal hal2 b1 b1' b2 b2' l1 r1 r2 hr0 hg1 hg2 hs12 ho
  obtain ⟨kd, oi, ou, oa, ot⟩ := o
  have hz0 := z0
  have hz1 := z1
  clear z0 z1 hgw
  go_upto_region 3 with fail
  go_cut [26] (fun s wx => ∃ c : Bool, s = .bool c ∧ FH N b (p + 3000 + 20 + 1) w2.heap.size w wx g off cap rs ⟨kd, oi, ou, oa, ot⟩)
  case first =>
    obtain ⟨c0, c1, c2, c3, c4⟩ := hF3.box.cells
    go_wp2_with fail
    refine (pick_any _ _ _ _ _ hF3.rd (by omega) (by omega) (by omega)).mono ?_
    rintro e w4 ⟨q5, q50, q51, rfl, b4, s4, r4⟩
    have hF4 := hF3.more b4 r4
    clear hF3 b4 s4 r4 c0 c1 c2 c3 c4
    obtain ⟨c0, c1, c2, c3, c4⟩ := hF4.box.cells
    by_cases k5 : 0 < q5
    · by_cases n1 : kd = 1
      · subst n1
        go_wp2_with fail
        go_meet
        exact ⟨false, by first | rfl | simp | (simp; omega), hF4⟩
      · have n1' := beq_eq_false_iff_ne.2 n1
        have n2' : (kd != 1) = true := by simp [n1]
        go_wp2_with fail
        refine (l1Made_any _ _ ⟨by omega, by omega⟩).mono ?_
        rintro e w' ⟨rfl, rfl⟩
        go_wp2_with fail
        go_meet
        exact ⟨madeB z, by first | rfl | simp | (simp; omega), hF4⟩
    · have k5' : q5 ≤ 0 := by omega
      go_wp2_with fail
      go_meet
      exact ⟨false, by first | rfl | simp | (simp; omega), hF4⟩
  case rest =>
    obtain ⟨c, rfl, hF4⟩ := hcut
    clear hF3
    cases c
    · go_upto_region 5 with fail
      go_cut [41] (fun s wx => ∃ c : Bool, s = .bool c ∧ FH N b (p + 3000 + 20 + 1 + 1) w2.heap.size w wx g off cap rs ⟨kd, oi, ou, oa, ot⟩)
      case first =>
        obtain ⟨c0, c1, c2, c3, c4⟩ := hF4.box.cells
        go_wp2_with fail
        refine (pick_any _ _ _ _ _ hF4.rd (by omega) (by omega) (by omega)).mono ?_
        rintro e w5 ⟨q3, q30, q31, rfl, b5, s5, r5⟩
        have hF5 := hF4.more b5 r5
        clear hF4 b5 s5 r5 c0 c1 c2 c3 c4
        obtain ⟨c0, c1, c2, c3, c4⟩ := hF5.box.cells
        by_cases k0 : q3 = 0
        · subst k0
          by_cases m3 : kd = 3
          · subst m3
            go_wp2_with fail
            go_meet
            exact ⟨true, by first | rfl | simp | (simp; omega), hF5⟩
          · have m3' := beq_eq_false_iff_ne.2 m3
            by_cases m1 : kd = 1
            · subst m1
              go_wp2_with fail
              go_meet
              exact ⟨true, by first | rfl | simp | (simp; omega), hF5⟩
            · have m1' := beq_eq_false_iff_ne.2 m1
              go_wp2_with fail
              go_meet
              exact ⟨false, by first | rfl | simp | (simp; omega), hF5⟩
        · have k0' := beq_eq_false_iff_ne.2 k0
          go_wp2_with fail
          go_meet
          exact ⟨false, by first | rfl | simp | (simp; omega), hF5⟩
      case rest =>
        obtain ⟨c, rfl, hF5⟩ := hcut
        clear hF4
        cases c
        · obtain ⟨c0, c1, c2, c3, c4⟩ := hF5.box.cells
          have z0 := hF5.box.frozen 0
          have z1 := hF5.box.frozen 1
          have z2 := hF5.box.frozen 2
          have z3 := hF5.box.frozen 3
          have z4 := hF5.box.frozen 4
          obtain ⟨d0, d1, d2, d3, d4⟩ := hF5.res.cells
          have y0 := hF5.res.frozen 0
          have y1 := hF5.res.frozen 1
          have y2 := hF5.res.frozen 2
          have y3 := hF5.res.frozen 3
          have y4 := hF5.res.frozen 4
          have hne := hF5.bne
          have HF := Lib.hid ((hF5.below ((Below.refl _ _).drew)).drew (q := p + 4000) (by omega))
          clear hF5
          go_wp2_with fail
          go_region
          all_goals
            go_wp2
            exact bodyPost_ret (by simp [results, Tryd.results64, go_sem, d0, d1, d2, d3, d4]) rfl HF.out
        · obtain ⟨c0, c1, c2, c3, c4⟩ := hF5.box.cells
          have z0 := hF5.box.frozen 0
          have z1 := hF5.box.frozen 1
          have z2 := hF5.box.frozen 2
          have z3 := hF5.box.frozen 3
          have z4 := hF5.box.frozen 4
          have hlen := hF5.loose.len
          go_wp2_with fail
          refine (pick_any _ _ _ _ _ hF5.rd (by omega) (by omega) (by omega)).mono ?_
          rintro e w6 ⟨q6, q60, q61, rfl, b6, s6, r6⟩
          obtain ⟨i, rfl⟩ := Int.eq_ofNat_of_zero_le q60
          have hF6 := hF5.more b6 r6
          clear hF5 b6 s6 r6
          clear c0 c1 c2 c3 c4 z0 z1 z2 z3 z4
          obtain ⟨c0, c1, c2, c3, c4⟩ := hF6.box.cells
          have z0 := hF6.box.frozen 0
          have z1 := hF6.box.frozen 1
          have z2 := hF6.box.frozen 2
          have z3 := hF6.box.frozen 3
          have z4 := hF6.box.frozen 4
          have hil : i < rs.length := by omega
          have i1 : (i : Int) < (rs.length : Int) := by omega
          have hbd := hF6.loose.bd _ (rat_mem hil)
          obtain ⟨g', off', e', hg', e0, e1, e2⟩ := hF6.loose.rows.at_ hil
          cases e'
          have v0 := hbd.1
          have v1 := hbd.2.1
          clear hbd
          generalize (rat rs i).id = u at *
          have hF7 := hF6.put2 u v0 v1
          clear hF6
          have HK := Lib.hid (l2Kids_any _ _ cap rs u _ (Nat.le_refl _) hF7.loose.rows hF7.loose.fit hF7.loose.small)
          go_wp2_with fail
          refine (HK.out).mono ?_
          rintro e w8 ⟨kv, rfl, own, hb8⟩
          obtain ⟨ka, kc, rfl, _⟩ := own_slice own
          have hks := ints_of_own own
          have hbs := hF7.but.size
          have hblt := hF7.lt
          have hF8 := hF7.below hb8
          have hkb : Hid (∀ i, i < (kidsL rs u).length → 0 ≤ (kidsL rs u).getD i 0 ∧ (kidsL rs u).getD i 0 ≤ 99) := fun i hi => kids_bd hF8.loose.bd hi
          have hkl := kidsL_small (id := u) hlen.2
          clear own hb8 hF7 e0 e1 e2 HK
          clear c0 c1 c2 c3 c4 z0 z1 z2 z3 z4
          generalize kidsL rs u = ks at *
          by_cases hk0 : 0 < ks.length
          · have hk1 : (0 : Int) < (ks.length : Int) := by omega
            go_wp2_with fail
            refine (pick_any _ _ _ _ _ hF8.rd (by omega) (by omega) (by omega)).mono ?_
            rintro e w9 ⟨q9, q90, q91, rfl, b9, s9, r9⟩
            obtain ⟨j, rfl⟩ := Int.eq_ofNat_of_zero_le q90
            have hjl : j < ks.length := by omega
            have j1 : (j : Int) < (ks.length : Int) := by omega
            have hF9 := hF8.more b9 r9
            obtain ⟨kg, rfl, hkg1, hkg, kc0⟩ := ints_get hks hjl
            obtain ⟨x0, x1⟩ := hkb.out j hjl
            have kc1 := (b9.cell (p := ⟨kg, j, none⟩) hkg (show kg ≠ b by omega)).trans kc0
            clear b9 s9 r9 hF8 kc0 hks hkb
            obtain ⟨c0, c1, c2, c3, c4⟩ := hF9.box.cells
            have z0 := hF9.box.frozen 0
            have z1 := hF9.box.frozen 1
            have z2 := hF9.box.frozen 2
            have z3 := hF9.box.frozen 3
            have z4 := hF9.box.frozen 4
            generalize ks.getD j 0 = kk at *
            have hFa := hF9.put3 kk x0 x1
            clear hF9 c0 c1 c2 c4 z0 z1 z2 z4
            obtain ⟨c0, c1, c2, c3, c4⟩ := hFa.box.cells
            have z0 := hFa.box.frozen 0
            have z1 := hFa.box.frozen 1
            have z2 := hFa.box.frozen 2
            have z3 := hFa.box.frozen 3
            have z4 := hFa.box.frozen 4
            obtain ⟨d0, d1, d2, d3, d4⟩ := hFa.res.cells
            have y0 := hFa.res.frozen 0
            have y1 := hFa.res.frozen 1
            have y2 := hFa.res.frozen 2
            have y3 := hFa.res.frozen 3
            have y4 := hFa.res.frozen 4
            have hne := hFa.bne
            have HF := Lib.hid ((hFa.below ((Below.refl _ _).drew)).drew (q := p + 4000) (by omega))
            clear hFa
            go_wp2_with fail
            go_region
            all_goals
              go_wp2
              exact bodyPost_ret (by simp [results, Tryd.results64, go_sem, d0, d1, d2, d3, d4]) rfl HF.out
          · have hk1 : ¬ (0 : Int) < (ks.length : Int) := by omega
            clear hk0
            obtain ⟨c0, c1, c2, c3, c4⟩ := hF8.box.cells
            have z0 := hF8.box.frozen 0
            have z1 := hF8.box.frozen 1
            have z2 := hF8.box.frozen 2
            have z3 := hF8.box.frozen 3
            have z4 := hF8.box.frozen 4
            obtain ⟨d0, d1, d2, d3, d4⟩ := hF8.res.cells
            have y0 := hF8.res.frozen 0
            have y1 := hF8.res.frozen 1
            have y2 := hF8.res.frozen 2
            have y3 := hF8.res.frozen 3
            have y4 := hF8.res.frozen 4
            have hne := hF8.bne
            have HF := Lib.hid ((hF8.below ((Below.refl _ _).drew)).drew (q := p + 4000) (by omega))
            clear hF8
            go_wp2_with fail
            go_region
            all_goals
              go_wp2
              exact bodyPost_ret (by simp [results, Tryd.results64, go_sem, d0, d1, d2, d3, d4]) rfl HF.out
    · obtain ⟨c0, c1, c2, c3, c4⟩ := hF4.box.cells
      have z1 := hF4.box.frozen 1
      have hF4' := hF4.put1 z hz0 hz1
      clear hF4
      go_upto_region 5 with fail
      go_cut [41] (fun s wx => ∃ c : Bool, s = .bool c ∧ FH N b (p + 3000 + 20 + 1 + 1) w2.heap.size w wx g off cap rs ⟨kd, z, ou, oa, ot⟩)
      case first =>
        obtain ⟨c0, c1, c2, c3, c4⟩ := hF4'.box.cells
        go_wp2_with fail
        refine (pick_any _ _ _ _ _ hF4'.rd (by omega) (by omega) (by omega)).mono ?_
        rintro e w5 ⟨q3, q30, q31, rfl, b5, s5, r5⟩
        have hF5 := hF4'.more b5 r5
        clear hF4' b5 s5 r5 c0 c1 c2 c3 c4
        obtain ⟨c0, c1, c2, c3, c4⟩ := hF5.box.cells
        by_cases k0 : q3 = 0
        · subst k0
          by_cases m3 : kd = 3
          · subst m3
            go_wp2_with fail
            go_meet
            exact ⟨true, by first | rfl | simp | (simp; omega), hF5⟩
          · have m3' := beq_eq_false_iff_ne.2 m3
            by_cases m1 : kd = 1
            · subst m1
              go_wp2_with fail
              go_meet
              exact ⟨true, by first | rfl | simp | (simp; omega), hF5⟩
            · have m1' := beq_eq_false_iff_ne.2 m1
              go_wp2_with fail
              go_meet
              exact ⟨false, by first | rfl | simp | (simp; omega), hF5⟩
        · have k0' := beq_eq_false_iff_ne.2 k0
          go_wp2_with fail
          go_meet
          exact ⟨false, by first | rfl | simp | (simp; omega), hF5⟩
      case rest =>
        obtain ⟨c, rfl, hF5⟩ := hcut
        clear hF4'
        cases c
        · obtain ⟨c0, c1, c2, c3, c4⟩ := hF5.box.cells
          have z0 := hF5.box.frozen 0
          have z1 := hF5.box.frozen 1
          have z2 := hF5.box.frozen 2
          have z3 := hF5.box.frozen 3
          have z4 := hF5.box.frozen 4
          obtain ⟨d0, d1, d2, d3, d4⟩ := hF5.res.cells
          have y0 := hF5.res.frozen 0
          have y1 := hF5.res.frozen 1
          have y2 := hF5.res.frozen 2
          have y3 := hF5.res.frozen 3
          have y4 := hF5.res.frozen 4
          have hne := hF5.bne
          have HF := Lib.hid ((hF5.below ((Below.refl _ _).drew)).drew (q := p + 4000) (by omega))
          clear hF5
          go_wp2_with fail
          go_region
          all_goals
            go_wp2
            exact bodyPost_ret (by simp [results, Tryd.results64, go_sem, d0, d1, d2, d3, d4]) rfl HF.out
        · obtain ⟨c0, c1, c2, c3, c4⟩ := hF5.box.cells
          have z0 := hF5.box.frozen 0
          have z1 := hF5.box.frozen 1
          have z2 := hF5.box.frozen 2
          have z3 := hF5.box.frozen 3
          have z4 := hF5.box.frozen 4
          have hlen := hF5.loose.len
          go_wp2_with fail
          refine (pick_any _ _ _ _ _ hF5.rd (by omega) (by omega) (by omega)).mono ?_
          rintro e w6 ⟨q6, q60, q61, rfl, b6, s6, r6⟩
          obtain ⟨i, rfl⟩ := Int.eq_ofNat_of_zero_le q60
          have hF6 := hF5.more b6 r6
          clear hF5 b6 s6 r6
          clear c0 c1 c2 c3 c4 z0 z1 z2 z3 z4
          obtain ⟨c0, c1, c2, c3, c4⟩ := hF6.box.cells
          have z0 := hF6.box.frozen 0
          have z1 := hF6.box.frozen 1
          have z2 := hF6.box.frozen 2
          have z3 := hF6.box.frozen 3
          have z4 := hF6.box.frozen 4
          have hil : i < rs.length := by omega
          have i1 : (i : Int) < (rs.length : Int) := by omega
          have hbd := hF6.loose.bd _ (rat_mem hil)
          obtain ⟨g', off', e', hg', e0, e1, e2⟩ := hF6.loose.rows.at_ hil
          cases e'
          have v0 := hbd.1
          have v1 := hbd.2.1
          clear hbd
          generalize (rat rs i).id = u at *
          have hF7 := hF6.put2 u v0 v1
          clear hF6
          have HK := Lib.hid (l2Kids_any _ _ cap rs u _ (Nat.le_refl _) hF7.loose.rows hF7.loose.fit hF7.loose.small)
          go_wp2_with fail
          refine (HK.out).mono ?_
          rintro e w8 ⟨kv, rfl, own, hb8⟩
          obtain ⟨ka, kc, rfl, _⟩ := own_slice own
          have hks := ints_of_own own
          have hbs := hF7.but.size
          have hblt := hF7.lt
          have hF8 := hF7.below hb8
          have hkb : Hid (∀ i, i < (kidsL rs u).length → 0 ≤ (kidsL rs u).getD i 0 ∧ (kidsL rs u).getD i 0 ≤ 99) := fun i hi => kids_bd hF8.loose.bd hi
          have hkl := kidsL_small (id := u) hlen.2
          clear own hb8 hF7 e0 e1 e2 HK
          clear c0 c1 c2 c3 c4 z0 z1 z2 z3 z4
          generalize kidsL rs u = ks at *
          by_cases hk0 : 0 < ks.length
          · have hk1 : (0 : Int) < (ks.length : Int) := by omega
            go_wp2_with fail
            refine (pick_any _ _ _ _ _ hF8.rd (by omega) (by omega) (by omega)).mono ?_
            rintro e w9 ⟨q9, q90, q91, rfl, b9, s9, r9⟩
            obtain ⟨j, rfl⟩ := Int.eq_ofNat_of_zero_le q90
            have hjl : j < ks.length := by omega
            have j1 : (j : Int) < (ks.length : Int) := by omega
            have hF9 := hF8.more b9 r9
            obtain ⟨kg, rfl, hkg1, hkg, kc0⟩ := ints_get hks hjl
            obtain ⟨x0, x1⟩ := hkb.out j hjl
            have kc1 := (b9.cell (p := ⟨kg, j, none⟩) hkg (show kg ≠ b by omega)).trans kc0
            clear b9 s9 r9 hF8 kc0 hks hkb
            obtain ⟨c0, c1, c2, c3, c4⟩ := hF9.box.cells
            have z0 := hF9.box.frozen 0
            have z1 := hF9.box.frozen 1
            have z2 := hF9.box.frozen 2
            have z3 := hF9.box.frozen 3
            have z4 := hF9.box.frozen 4
            generalize ks.getD j 0 = kk at *
            have hFa := hF9.put3 kk x0 x1
            clear hF9 c0 c1 c2 c4 z0 z1 z2 z4
            obtain ⟨c0, c1, c2, c3, c4⟩ := hFa.box.cells
            have z0 := hFa.box.frozen 0
            have z1 := hFa.box.frozen 1
            have z2 := hFa.box.frozen 2
            have z3 := hFa.box.frozen 3
            have z4 := hFa.box.frozen 4
            obtain ⟨d0, d1, d2, d3, d4⟩ := hFa.res.cells
            have y0 := hFa.res.frozen 0
            have y1 := hFa.res.frozen 1
            have y2 := hFa.res.frozen 2
            have y3 := hFa.res.frozen 3
            have y4 := hFa.res.frozen 4
            have hne := hFa.bne
            have HF := Lib.hid ((hFa.below ((Below.refl _ _).drew)).drew (q := p + 4000) (by omega))
            clear hFa
            go_wp2_with fail
            go_region
            all_goals
              go_wp2
              exact bodyPost_ret (by simp [results, Tryd.results64, go_sem, d0, d1, d2, d3, d4]) rfl HF.out
          · have hk1 : ¬ (0 : Int) < (ks.length : Int) := by omega
            clear hk0
            obtain ⟨c0, c1, c2, c3, c4⟩ := hF8.box.cells
            have z0 := hF8.box.frozen 0
            have z1 := hF8.box.frozen 1
            have z2 := hF8.box.frozen 2
            have z3 := hF8.box.frozen 3
            have z4 := hF8.box.frozen 4
            obtain ⟨d0, d1, d2, d3, d4⟩ := hF8.res.cells
            have y0 := hF8.res.frozen 0
            have y1 := hF8.res.frozen 1
            have y2 := hF8.res.frozen 2
            have y3 := hF8.res.frozen 3
            have y4 := hF8.res.frozen 4
            have hne := hF8.bne
            have HF := Lib.hid ((hF8.below ((Below.refl _ _).drew)).drew (q := p + 4000) (by omega))
            clear hF8
            go_wp2_with fail
            go_region
            all_goals
              go_wp2
              exact bodyPost_ret (by simp [results, Tryd.results64, go_sem, d0, d1, d2, d3, d4]) rfl HF.out
end Go.Proofs.YtklefdhjfadhpaaDoor
