/-
  Joined texts, each with its own head: what it holds, and its conditions.
-/
import Derived.Test.YtclhjgcapalniaaDoorGF
import Derived.Test.YtclhjgcapalniaaDoorGG

/-
  The model's drawing of a change that somebody may make: l72Op. What is drawn is a valid change. Conditions: as each theorem says.
-/
namespace Go.Proofs.YtclhjgcapalniaaDoor
open Go.ChangeShapes Go.WideShapes Go.ChangeAt Go.RowKit Go.Joins

theorem intsGet {base : Nat} {w : World} {a : Option Addr} {xs : List Int} (h : IntsAt base w a xs) {i : Nat} (hi : i < xs.length) : ∃ g, a = some ⟨g, 0, none⟩ ∧ base ≤ g ∧ g < w.heap.size ∧ w.cell? ⟨g, i, none⟩ = some (.int .i64 (xs.getD i 0)) := by
  rcases h with h | ⟨g, ha, hg, hl, hc⟩
  · omega
  · exact ⟨g, ha, hg, hl, (hc i hi).1⟩
theorem whoB_tree {rs : List RowD} (ht : treeB rs = true) {i : Nat} (hi : i < rs.length) : whoB (rat rs i).id = true := by
  rcases rok_cases ((treeP_of ht).rok i hi) with ⟨h1, _⟩ | ⟨_, h1, _⟩
  · unfold whoB; rw [h1]; rfl
  · unfold whoB; rw [h1]; simp
theorem kidsOf_hit {rs : List RowD} {i : Nat} {q : Int} : ∀ (k s : Nat), q ∈ kidsOf rs i s k → ∃ j, j < s + k ∧ (rat rs j).id = q ∧ rdep rs j = rdep rs i + 1
  | 0, _, h => by simp [kidsOf] at h
  | k + 1, s, h => by
    unfold kidsOf at h
    rcases List.mem_append.1 h with h | h
    · split at h
      · rename_i hd
        simp only [List.mem_singleton] at h
        exact ⟨s, by omega, h.symm, hd⟩
      · simp at h
    · obtain ⟨j, h1, h2, h3⟩ := kidsOf_hit k (s + 1) h
      exact ⟨j, by omega, h2, h3⟩
theorem kidsL_made {rs : List RowD} (ht : treeB rs = true) {up q : Int} (h : q ∈ kidsL rs up) : madeB q = true := by
  unfold kidsL at h
  split at h
  · rename_i hu
    have he : enR rs (atN rs up) ≤ rs.length := (en_spec (D := rdep rs) hu).2.1
    have he1 : atN rs up + 1 ≤ enR rs (atN rs up) := (en_spec (D := rdep rs) hu).1
    unfold kidsAt at h
    obtain ⟨j, h1, h2, h3⟩ := kidsOf_hit _ _ h
    have hj : j < rs.length := by omega
    have hd := (rok_dep ((treeP_of ht).rok _ hu)).1
    rcases rok_cases ((treeP_of ht).rok j hj) with ⟨_, h4, _⟩ | ⟨_, h4, _⟩
    · unfold rdep at h3; omega
    · rw [← h2]; exact h4
  · simp at h
theorem kidsL_get {rs : List RowD} (ht : treeB rs = true) {up : Int} {i : Nat} (hi : i < (kidsL rs up).length) : madeB ((kidsL rs up).getD i 0) = true := by
  refine kidsL_made ht (up := up) ?_
  rw [List.getD_eq_getElem?_getD, List.getElem?_eq_getElem hi]
  exact List.getElem_mem hi
theorem l71Id_made (N b p : Nat) (w : World) (hr : Rd N w b p) (hp : p < 1000000) :
    Calls Tryd.prog 94 #[.pointer (some ⟨b, 0, none⟩)] w (fun e w' => ∃ z : Int, madeB z = true ∧ e = .returned (.int .i64 z) ∧ But b w.heap.size w w' ∧ Rd N w' b (p + 2)) := by
  go_enter Tryd.func94, Tryd.ntmps94
  go_wp2_with fail
  refine (pick_any _ _ _ _ _ hr (by omega) (by omega) (by omega)).mono ?_
  rintro e w1 ⟨k, k0, k1, rfl, b1, s1, r1⟩
  go_wp2_with fail
  refine (pick_any _ _ _ _ _ r1 (by omega) (by omega) (by omega)).mono ?_
  rintro e w2 ⟨j, j0, j1, rfl, b2, s2, r2⟩
  go_wp2
  go_ret
  exact ⟨_, (madeB_iff _).2 (by omega), rfl, b1.trans (b2.mono s1), r2⟩
theorem who_bd {z : Int} (h : whoB z = true) : 1 ≤ z ∧ z ≤ 36 := by
  unfold whoB at h
  rcases Bool.or_eq_true_iff.1 h with h | h
  · have := (rootB_iff _).1 h; omega
  · have := (madeB_iff _).1 h; omega
theorem opok_fit {o : OpD} (h : opokB o = true) : OpFit o := by
  have hm := opok_made h
  have hb := (madeB_iff _).1 hm
  have ht : o.txt.size ≤ 4 ∧ 0 ≤ o.up ∧ o.up ≤ 36 ∧ 0 ≤ o.at_ ∧ o.at_ ≤ 36 := by
    unfold opokB at h
    have spot : ∀ u a, spotB u a = true → 0 ≤ u ∧ u ≤ 36 ∧ 0 ≤ a ∧ a ≤ 36 := fun u a hs => by
      simp only [spotB, Bool.and_eq_true, Bool.or_eq_true, beq_iff_eq] at hs
      have h1 := who_bd hs.1
      rcases hs.2 with h2 | h2
      · omega
      · have := (madeB_iff _).1 h2; omega
    split at h
    · simp only [Bool.and_eq_true] at h
      have h1 := spot _ _ h.1.2
      have h2 := h.2
      simp only [textB, Bool.and_eq_true, decide_eq_true_eq] at h2
      omega
    · split at h
      · simp only [Bool.and_eq_true, beq_iff_eq] at h
        have h2 := h.2
        simp only [textB, Bool.and_eq_true, decide_eq_true_eq] at h2
        omega
      · split at h
        · simp only [Bool.and_eq_true] at h
          have h1 := spot _ _ h.2
          have h2 := textB_nil h.1.1
          simp only [textB, Bool.and_eq_true, decide_eq_true_eq] at h2
          omega
        · cases h
  refine ⟨⟨by omega, by omega⟩, ⟨by omega, by omega⟩, ⟨by omega, by omega⟩, by unfold maxLen; omega⟩

/-- What holds while a change is drawn: the outline, the reader, the box of the result. -/
structure LH (N b q base : Nat) (w0 w : World) (a : Option Addr) (cap : Nat) (rs : List RowD) : Prop where
  own : w.ownsRow base 39 3 (.slice a rs.length cap) rs.length (cellsL rs)
  but : But b w0.heap.size w0 w
  rd : Rd N w b q
  lt : b < base
  blt : b < w0.heap.size
  box : OBox w w0.heap.size oz
theorem LH.more {N b q q' base : Nat} {w0 w w' : World} {a : Option Addr} {cap : Nat} {rs : List RowD} (h : LH N b q base w0 w a cap rs) (hb : But b w.heap.size w w') (hr : Rd N w' b q') : LH N b q' base w0 w' a cap rs :=
  ⟨own_but h.own hb h.lt, h.but.trans (hb.mono h.but.size), hr, h.lt, h.blt, h.box.but hb h.box.lt (by have := h.blt; omega)⟩
theorem LH.below {N b q base : Nat} {w0 w w' : World} {a : Option Addr} {cap : Nat} {rs : List RowD} (h : LH N b q base w0 w a cap rs) (hb : Below w.heap.size w w') : LH N b q base w0 w' a cap rs :=
  ⟨own_below h.own hb, h.but.trans ((But.of_below hb).mono h.but.size), h.rd.below hb h.rd.2.1, h.lt, h.blt, h.box.below hb h.box.lt⟩
theorem LH.up {N b q q' base : Nat} {w0 w : World} {a : Option Addr} {cap : Nat} {rs : List RowD} (h : LH N b q base w0 w a cap rs) (hq : q ≤ q') : LH N b q' base w0 w a cap rs := ⟨h.own, h.but, h.rd.mono hq, h.lt, h.blt, h.box⟩
def DrewOk (N b p : Nat) (w : World) (e : Ending) (w' : World) : Prop :=
  ∃ o : OpD, opokB o = true ∧ e = .returned (.agg #[.int .i64 o.kind, .int .i64 o.id, .int .i64 o.up, .int .i64 o.at_, .string o.txt]) ∧ But b w.heap.size w w' ∧ Rd N w' b p
theorem LH.drew {N b q q' base : Nat} {w w' : World} {a : Option Addr} {cap : Nat} {rs : List RowD} (h : LH N b q base w w' a cap rs) (hq : q ≤ q') {o : OpD} (ho : opokB o = true) : DrewOk N b q' w (.returned (.agg #[.int .i64 o.kind, .int .i64 o.id, .int .i64 o.up, .int .i64 o.at_, .string o.txt])) (given w' w.heap.size o) := by
  have hB : Below w.heap.size w' (given w' w.heap.size o) := by
    unfold given
    exact (((((Below.refl _ _).setCell (p := ⟨w.heap.size, 0, none⟩) (Nat.le_refl _) _).setCell (p := ⟨w.heap.size, 1, none⟩) (Nat.le_refl _) _).setCell (p := ⟨w.heap.size, 2, none⟩) (Nat.le_refl _) _).setCell (p := ⟨w.heap.size, 3, none⟩) (Nat.le_refl _) _).setCell (p := ⟨w.heap.size, 4, none⟩) (Nat.le_refl _) _
  exact ⟨o, ho, rfl, h.but.trans (But.of_below hB), (h.rd.mono hq).below hB h.blt⟩
theorem ok_make {id up at' : Int} {t : ByteArray} (h1 : madeB id = true) (h2 : whoB up = true) (h3 : at' = 0 ∨ madeB at' = true) (h4 : textB t = true) : opokB ⟨1, id, up, at', t⟩ = true := by
  have : spotB up at' = true := by unfold spotB; rw [h2]; rcases h3 with h | h <;> simp [h]
  simp [opokB, h1, h4, this]
theorem ok_text {id : Int} {t : ByteArray} (h1 : madeB id = true) (h4 : textB t = true) : opokB ⟨2, id, 0, 0, t⟩ = true := by simp [opokB, h1, h4]
theorem ok_move {id up at' : Int} (h1 : madeB id = true) (h2 : whoB up = true) (h3 : at' = 0 ∨ madeB at' = true) : opokB ⟨3, id, up, at', ⟨#[]⟩⟩ = true := by
  have : spotB up at' = true := by unfold spotB; rw [h2]; rcases h3 with h | h <;> simp [h]
  simp [opokB, h1, this]
theorem made_madeI {who n : Int} (h1 : 1 ≤ who) (h2 : who ≤ 3) (h3 : 1 ≤ n) (h4 : n ≤ 6) : madeB (madeI who n) = true := by
  have : madeI who n = 10 * who + n := by simp [madeI, inB, h1, h2, h3, h4]
  rw [this, madeB_iff]; omega
theorem i64_who {z : Int} (h : whoB z = true) : I64 z := by have := who_bd h; exact ⟨by omega, by omega⟩
theorem oz_eq : oz = ⟨0, 0, 0, 0, ⟨#[]⟩⟩ := rfl
theorem text_a : textB ⟨#[97]⟩ = true := by decide
end Go.Proofs.YtclhjgcapalniaaDoor
/-
  The model's drawing of a change that somebody may make: l72Op, the walk. Conditions: as the theorem says.
-/
namespace Go.Proofs.YtclhjgcapalniaaDoor
open Go.ChangeShapes Go.WideShapes Go.ChangeAt Go.RowKit Go.Joins

set_option maxRecDepth 100000 in
set_option maxHeartbeats 8000000 in
theorem l72Op_any (N b p base : Nat) (a : Option Addr) (cap : Nat) (rs : List RowD) (who made : Int) (w : World) (hr : Rd N w b p) (hp : p < 100000) (hown : w.ownsRow base 39 3 (.slice a rs.length cap) rs.length (cellsL rs)) (hbb : b < base) (ht : treeB rs = true) (hw1 : 1 ≤ who) (hw2 : who ≤ 3) (hm0 : 0 ≤ made) (hm1 : made ≤ 100) :
    Calls Tryd.prog 72 #[.pointer (some ⟨b, 0, none⟩), .slice a rs.length cap, .int .i64 who, .int .i64 made] w (DrewOk N b (p + 30) w) := by
  have hbw := hr.2.1
  have hl := tree_len ht
  have h3 : 3 ≤ rs.length := (treeP_of ht).len
  have hfit := Lib.hid (tree_fits ht)
  have hsm := Lib.hid (treeP_small ht)
  have HT := Lib.hid ht
  have hal : Below w.heap.size w (w.alloc (.cells #[.int .i64 0, .int .i64 0, .int .i64 0, .int .i64 0, .string ⟨#[]⟩] 27)) := (Below.refl _ _).alloc (Nat.le_refl _) _
  have H0 : LH N b p base w (w.alloc (.cells #[.int .i64 0, .int .i64 0, .int .i64 0, .int .i64 0, .string ⟨#[]⟩] 27)) a cap rs := ⟨own_below hown hal, But.of_below hal, hr.below hal hbw, hbb, hbw, OBox.new w oz⟩
  clear hal hown hr ht
  go_enter Tryd.func72, Tryd.ntmps72
  go_wp2_with fail
  refine (pick_any _ _ _ _ _ H0.rd (by omega) (by omega) (by omega)).mono ?_
  rintro _ w1 ⟨q, q0, q1, rfl, b1, s1, r1⟩
  obtain ⟨i, rfl⟩ := Int.eq_ofNat_of_zero_le q0
  have H1 := H0.more b1 r1
  have i1 : i < rs.length := by omega
  have HW1 := Lib.hid (whoB_tree HT.out i1)
  obtain ⟨g, off, rfl, hg, c0, _, _⟩ := (rowsAt_own H1.own).at_ i1
  generalize (rat rs i).id = id1 at *
  clear H0 b1 s1 r1
  go_wp2_with fail
  refine (pick_any _ _ _ _ _ H1.rd (by omega) (by omega) (by omega)).mono ?_
  rintro _ w2 ⟨q, q20, q21, rfl, b2, s2, r2⟩
  obtain ⟨j, rfl⟩ := Int.eq_ofNat_of_zero_le q20
  have H2 := H1.more b2 r2
  have j1 : j < rs.length := by omega
  have HW2 := Lib.hid (whoB_tree HT.out j1)
  obtain ⟨_, _, e2, hg2, d0, _, _⟩ := (rowsAt_own H2.own).at_ j1
  cases e2
  have HKM : Hid (∀ x, x < (kidsL rs (rat rs j).id).length → madeB ((kidsL rs (rat rs j).id).getD x 0) = true) := fun x hx => kidsL_get HT.out hx
  have hkl := kidsL_len (id := (rat rs j).id) hfit.out.1
  generalize (rat rs j).id = up1 at *
  clear H1 b2 s2 r2 c0 hg
  go_wp2_with fail
  refine (l2Kids_any _ _ _ _ _ _ (Nat.le_refl _) (rowsAt_own H2.own) hfit.out hsm.out).mono ?_
  rintro _ w3 ⟨v3, rfl, ow3, hb3⟩
  obtain ⟨a3, c3, rfl, hc3⟩ := own_slice ow3
  have H3 := H2.below hb3
  have K3 := ints_of_own ow3
  have hb2w : b < w2.heap.size := H2.rd.2.1
  generalize kidsL rs up1 = ks at *
  clear ow3 hb3 H2 d0 hg2
  go_upto_region 5 with fail
  go_cut [40] (fun s wx => ∃ c : Bool, s = .bool c ∧ (c = true → 0 < ks.length) ∧ IntsAt w2.heap.size wx a3 ks ∧ LH N b (p + 3) base w wx (some ⟨g, off, none⟩) cap rs)
  case first =>
    by_cases hk0 : 0 < ks.length
    · have hk0' : (0 : Int) < (ks.length : Int) := by omega
      go_wp2_with fail
      refine (pick_any _ _ _ _ _ H3.rd (by omega) (by omega) (by omega)).mono ?_
      rintro _ w4 ⟨q, _, _, rfl, b4, s4, r4⟩
      have H4 := H3.more b4 r4
      have K4 := K3.but b4 (by omega)
      go_wp2_with fail
      go_meet
      exact ⟨_, rfl, fun _ => hk0, K4, H4⟩
    · go_wp2_with fail
      go_meet
      exact ⟨false, by first | rfl | simp | (simp; omega), fun h => by simp at h, K3, H3.up (by omega)⟩
  case rest =>
    obtain ⟨c, rfl, hc, K4, H4⟩ := hcut
    clear H3 K3
    go_upto_if 40 with fail
    go_cut [12] (fun s wx => ∃ v : Int, s = .int .i64 v ∧ Hid (v = 0 ∨ madeB v = true) ∧ LH N b (p + 4) base w wx (some ⟨g, off, none⟩) cap rs)
    case first =>
      cases c
      · go_wp2_with fail
        go_meet
        exact ⟨0, rfl, .inl rfl, H4.up (by omega)⟩
      · have hk0 := hc rfl
        go_wp2_with fail
        refine (pick_any _ _ _ _ _ H4.rd (by omega) (by omega) (by omega)).mono ?_
        rintro _ w5 ⟨q, q50, q51, rfl, b5, s5, r5⟩
        obtain ⟨x, rfl⟩ := Int.eq_ofNat_of_zero_le q50
        have H5 := H4.more b5 r5
        have K5 := K4.but b5 (by omega)
        have hxl : x < ks.length := by omega
        have HMX := Lib.hid (HKM.out x hxl)
        obtain ⟨g5, rfl, hg5, _, e0⟩ := intsGet K5 hxl
        generalize ks.getD x 0 = kx at *
        clear b5 s5 r5 K5
        go_wp2_with fail
        go_meet
        exact ⟨_, rfl, .inr HMX.out, H5⟩
    case rest =>
      obtain ⟨at1, rfl, HAT, H5⟩ := hcut
      clear H4 K4 hc
      go_wp2_with fail
      refine (l71Text_any _ _ _ _ H5.rd (by omega)).mono ?_
      rintro _ w6 ⟨str, hstr, rfl, b6, r6⟩
      have H6 := H5.more b6 r6
      clear H5 b6 r6
      go_wp2_with fail
      refine (l1Text_any _ _ (by unfold maxLen; omega)).mono ?_
      rintro _ _ ⟨rfl, rfl⟩
      go_upto_if 52 with fail
      go_cut [13] (fun s wx => ∃ t : ByteArray, s = .string t ∧ Hid (textB t = true) ∧ LH N b (p + 10) base w wx (some ⟨g, off, none⟩) cap rs)
      case first =>
        cases htx : textB str
        · go_wp2_with fail
          go_meet
          exact ⟨_, rfl, text_a, H6.up (by omega)⟩
        · have HTX := Lib.hid htx
          go_wp2_with fail
          go_meet
          exact ⟨_, rfl, HTX.out, H6.up (by omega)⟩
      case rest =>
        obtain ⟨tx, rfl, HTX, H7⟩ := hcut
        clear H6
        go_wp2_with fail
        refine (pick_any _ _ _ _ _ H7.rd (by omega) (by omega) (by omega)).mono ?_
        rintro _ w8 ⟨q8, _, _, rfl, b8, s8, r8⟩
        have H8 := H7.more b8 r8
        clear H7 b8 s8 r8
        go_upto_if 55 with fail
        go_cut [10] (fun s wx => ∃ u : Int, s = .int .i64 u ∧ Hid (whoB u = true) ∧ LH N b (p + 13) base w wx (some ⟨g, off, none⟩) cap rs)
        case first =>
          by_cases hq : q8 = 0
          · subst hq
            go_wp2_with fail
            refine (l71Id_made _ _ _ _ H8.rd (by omega)).mono ?_
            rintro _ w9 ⟨z, hz, rfl, b9, r9⟩
            have H9 := H8.more b9 r9
            have HZ : Hid (whoB z = true) := by unfold Hid whoB; rw [hz]; simp
            clear hz
            go_wp2_with fail
            go_meet
            exact ⟨_, rfl, HZ.out, H9⟩
          · go_wp2_with fail
            go_meet
            exact ⟨_, rfl, HW2.out, H8.up (by omega)⟩
        case rest =>
          obtain ⟨up2, rfl, HUP, H9⟩ := hcut
          clear H8
          have hI1 := i64_who HW1.out
          go_upto_region 12 with fail
          go_cut [69] (fun s wx => ∃ c : Bool, s = .bool c ∧ (c = true → made < 6) ∧ LH N b (p + 14) base w wx (some ⟨g, off, none⟩) cap rs)
          case first =>
            by_cases hmd : made < 6
            · go_wp2_with fail
              refine (pick_any _ _ _ _ _ H9.rd (by omega) (by omega) (by omega)).mono ?_
              rintro _ wa ⟨qa, _, _, rfl, ba, sa, ra⟩
              have Ha := H9.more ba ra
              by_cases hq : qa = 0
              · subst hq
                go_wp2_with fail
                go_meet
                exact ⟨true, by first | rfl | simp, fun _ => hmd, Ha⟩
              · have hqb : (qa == 0) = false := by simpa using hq
                go_wp2_with fail
                refine (l1Made_any _ _ hI1).mono ?_
                rintro _ _ ⟨rfl, rfl⟩
                go_wp2_with fail
                go_meet
                exact ⟨_, rfl, fun _ => hmd, Ha⟩
            · go_wp2_with fail
              go_meet
              exact ⟨false, by first | rfl | simp | (simp; omega), fun h => by simp at h, H9.up (by omega)⟩
          case rest =>
            obtain ⟨c, rfl, hc, Ha⟩ := hcut
            clear H9
            cases c
            · go_wp2_with fail
              refine (l1Made_any _ _ hI1).mono ?_
              rintro _ _ ⟨rfl, rfl⟩
              go_upto_if 80 with fail
              go_cut [9] (fun s wx => ∃ z : Int, s = .int .i64 z ∧ Hid (madeB z = true) ∧ LH N b (p + 16) base w wx (some ⟨g, off, none⟩) cap rs)
              case first =>
                cases hmd : madeB id1
                · go_wp2_with fail
                  refine (l71Id_made _ _ _ _ Ha.rd (by omega)).mono ?_
                  rintro _ wb ⟨z, hz, rfl, bb, rb⟩
                  have Hb := Ha.more bb rb
                  have HZ := Lib.hid hz
                  clear hz
                  go_wp2_with fail
                  go_meet
                  exact ⟨_, rfl, HZ.out, Hb⟩
                · have HMD := Lib.hid hmd
                  go_wp2_with fail
                  go_meet
                  exact ⟨_, rfl, HMD.out, Ha.up (by omega)⟩
              case rest =>
                obtain ⟨id2, rfl, HID, Hb⟩ := hcut
                clear Ha
                go_wp2_with fail
                refine (pick_any _ _ _ _ _ Hb.rd (by omega) (by omega) (by omega)).mono ?_
                rintro _ wd ⟨qd, _, _, rfl, bd, sd, rd⟩
                have Hd := Hb.more bd rd
                clear Hb bd sd rd
                obtain ⟨e0, e1, e2, e3, e4⟩ := Hd.box.cells
                have y0 := Hd.box.frozen 0
                have y1 := Hd.box.frozen 1
                have y2 := Hd.box.frozen 2
                have y3 := Hd.box.frozen 3
                have y4 := Hd.box.frozen 4
                by_cases hq : qd = 0
                · subst hq
                  have HF := Lib.hid (Hd.drew (q' := p + 30) (by omega) (ok_text HID.out HTX.out))
                  clear Hd
                  go_wp2
                  exact bodyPost_ret (by simp [results, Tryd.results72, go_sem, e0, e1, e2, e3, e4]) rfl HF.out
                · have HF := Lib.hid (Hd.drew (q' := p + 30) (by omega) (ok_move HID.out HUP.out HAT.out))
                  clear Hd
                  go_wp2
                  exact bodyPost_ret (by simp [results, Tryd.results72, go_sem, e0, e1, e2, e3, e4]) rfl HF.out
            · have hmd := hc rfl
              have HID := Lib.hid (made_madeI (who := who) (n := made + 1) hw1 hw2 (by omega) (by omega))
              go_wp2_with fail
              refine (specRowMade_any _ _ _).mono ?_
              rintro _ _ ⟨rfl, rfl⟩
              generalize madeI who (made + 1) = id3 at *
              obtain ⟨e0, e1, e2, e3, e4⟩ := Ha.box.cells
              have y0 := Ha.box.frozen 0
              have y1 := Ha.box.frozen 1
              have y2 := Ha.box.frozen 2
              have y3 := Ha.box.frozen 3
              have y4 := Ha.box.frozen 4
              have HF := Lib.hid (Ha.drew (q' := p + 30) (by omega) (ok_make HID.out HUP.out HAT.out HTX.out))
              clear Ha
              go_wp2
              exact bodyPost_ret (by simp [results, Tryd.results72, go_sem, e0, e1, e2, e3, e4]) rfl HF.out
end Go.Proofs.YtclhjgcapalniaaDoor
