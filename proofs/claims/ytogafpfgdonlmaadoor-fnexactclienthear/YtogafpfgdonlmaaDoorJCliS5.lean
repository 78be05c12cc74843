/-
  Contract of the model's l21Hear. Conditions: as each theorem says.
-/
import Derived.Test.YtogafpfgdonlmaaDoorJCliS2
import Derived.Test.YtogafpfgdonlmaaDoorGE
import Derived.Test.YtogafpfgdonlmaaDoorJCliM2
import Derived.Deep.RegionHeld3
import Derived.Deep.QuietTactic
import Derived.BigQuiet
namespace Go.Proofs.YtogafpfgdonlmaaDoor
open Go.ChangeShapes Go.WideShapes Go.ChangeAt Go.RowKit Go.Joins Go.Deep
set_option linter.unusedVariables false

theorem Got.putC {base B j : Nat} {w : World} {a : Option Addr} {rs : List RowD} {t : TypeId} {cs : Array Value} (h : Got base w a rs) (hB : Bx w B t cs) (ht : t ≠ 82) (v : Value) : Got base (w.setCell ⟨B, j, none⟩ v) a rs := by
  rcases h with h | ⟨g, C, e, hg, f, ⟨cur, h1, h1'⟩, h2⟩
  · exact .inl h
  · refine .inr ⟨g, C, e, hg, f, World.rowIs.of_block ⟨cur, h1, h1'⟩ (Below.heap_setCell _ _ _ _ ?_), h2⟩
    rintro rfl
    rw [show w.heap[g]? = _ from hB] at h1
    simp only [Option.some.injEq, Obj.cells.injEq] at h1
    exact ht h1.2.1
/-- Where somebody's slices lie behind some entries: the outline as it was or anew, what waits a part of what waited. -/
structure HrM (c d : CliD) (ba : Option Addr) (bc wb N : Nat) (w : World) (ya : Option Addr) (yc xo xc : Nat) : Prop where
  base : (ya = ba ∧ yc = bc ∧ d.base = c.base) ∨ Got N w ya d.base
  bl : d.base.length ≤ yc
  bm : yc ≤ maxLen
  ents : EntsAt N w (some ⟨wb, xo, none⟩) d.wait
  wl : d.wait.length ≤ xc
  wm : xc ≤ maxLen
theorem HrM.below {c d : CliD} {ba : Option Addr} {bc wb N : Nat} {w w' : World} {ya : Option Addr} {yc xo xc : Nat} (h : HrM c d ba bc wb N w ya yc xo xc) (hb : Below w.heap.size w w') (hN : N ≤ w.heap.size) : HrM c d ba bc wb N w' ya yc xo xc :=
  ⟨h.base.imp id (fun g => g.below hb (Nat.le_refl _)), h.bl, h.bm, h.ents.below (hb.mono hN), h.wl, h.wm⟩
theorem HrM.put {c d : CliD} {ba : Option Addr} {bc wb N B j : Nat} {w : World} {ya : Option Addr} {yc xo xc : Nat} {cs : Array Value} (h : HrM c d ba bc wb N w ya yc xo xc) (hB : Bx w B 33 cs) (hN : N ≤ B) (v : Value) : HrM c d ba bc wb N (w.setCell ⟨B, j, none⟩ v) ya yc xo xc :=
  ⟨h.base.imp id (fun g => g.putC hB (by decide) v), h.bl, h.bm, h.ents.below ((Below.refl _ _).setCell (p := ⟨B, j, none⟩) hN v), h.wl, h.wm⟩
theorem HrM.rows {c d : CliD} {ba : Option Addr} {bc wb N : Nat} {w : World} {ya : Option Addr} {yc xo xc : Nat} (h : HrM c d ba bc wb N w ya yc xo xc) (hc : RowsAt N w ba c.base) (hN : N ≤ w.heap.size) : RowsAt w.heap.size w ya d.base := by
  rcases h.base with ⟨rfl, _, e⟩ | g
  · rw [e]; exact hc.mono hN
  · exact g.rows
theorem HrM.given6 {c d : CliD} {ba : Option Addr} {bc wb N r : Nat} {w : World} {ya : Option Addr} {yc xo xc : Nat} {cs : Array Value} (h : HrM c d ba bc wb N w ya yc xo xc) (hB : Bx w r 33 cs) (hN : N ≤ r) (v0 v1 v2 v3 v4 v5 : Value) :
    HrM c d ba bc wb N ((((((w.setCell ⟨r, 0, none⟩ v0).setCell ⟨r, 1, none⟩ v1).setCell ⟨r, 2, none⟩ v2).setCell ⟨r, 3, none⟩ v3).setCell ⟨r, 4, none⟩ v4).setCell ⟨r, 5, none⟩ v5) ya yc xo xc :=
  (((((h.put hB hN v0).put (hB.put 0 v0) hN v1).put ((hB.put 0 v0).put 1 v1) hN v2).put (((hB.put 0 v0).put 1 v1).put 2 v2) hN v3).put ((((hB.put 0 v0).put 1 v1).put 2 v2).put 3 v3) hN v4).put (((((hB.put 0 v0).put 1 v1).put 2 v2).put 3 v3).put 4 v4) hN v5
def RetL21H (c : CliD) (fr : Int) (l : List EntD) (ba : Option Addr) (bc wb wo wc : Nat) (w : World) (r : Ending) (w' : World) : Prop :=
  Below w.heap.size w w' ∧ ((hearableB c fr l = false ∧ r = .returned (.tuple #[.agg #[.int .i64 c.who, .int .i64 c.seen, .slice ba c.base.length bc, .slice (some ⟨wb, wo, none⟩) c.wait.length wc, .int .i64 c.done, .int .i64 c.made], .bool false])) ∨
    (hearableB c fr l = true ∧ ∃ d ya yc xo xc, d = heardC c (newE c fr l) (newE c fr l).length ∧ r = .returned (.tuple #[.agg #[.int .i64 d.who, .int .i64 d.seen, .slice ya d.base.length yc, .slice (some ⟨wb, xo, none⟩) d.wait.length xc, .int .i64 d.done, .int .i64 d.made], .bool true]) ∧ HrM c d ba bc wb w.heap.size w' ya yc xo xc))
theorem heard_other {c : CliD} {l : List EntD} {k : Nat} (h : ¬ (eat l k).who = c.who) : heardC c l (k + 1) = ⟨c.who, (heardC c l k).seen + 1, doR (heardC c l k).base (eat l k).op, (heardC c l k).wait, (heardC c l k).done, c.made⟩ := by
  unfold heardC
  simp only [cntTo_succ, if_neg h, Nat.add_zero, treeFrom]
  congr 1; push_cast; omega
theorem heard_own {c : CliD} {l : List EntD} {k : Nat} (h : (eat l k).who = c.who) : heardC c l (k + 1) = ⟨c.who, (heardC c l k).seen + 1, doR (heardC c l k).base (eat l k).op, (heardC c l k).wait.drop 1, (heardC c l k).done + 1, c.made⟩ := by
  unfold heardC
  simp only [cntTo_succ, if_pos h, treeFrom, List.drop_drop]
  congr 1 <;> push_cast <;> omega
theorem heard_step0 {c : CliD} {l : List EntD} {k : Nat} (h : (eat l k).who = c.who) (h0 : (heardC c l k).wait.length = 0) : hstepB c l k = false := by
  refine hstep_none h ?_
  have : (c.wait.drop (cntTo l c.who k)).length = 0 := h0
  rw [List.length_drop] at this; omega
theorem heard_step1 {c : CliD} {l : List EntD} {k : Nat} (h : (eat l k).who = c.who) (h0 : 0 < (heardC c l k).wait.length) : hstepB c l k = sameB (eat (heardC c l k).wait 0) (eat l k) := by
  have h1 : 0 < (c.wait.drop (cntTo l c.who k)).length := h0
  rw [List.length_drop] at h1
  rw [hstep_own h (by omega)]
  show _ = sameB (eat (c.wait.drop (cntTo l c.who k)) 0) _
  have : eat (c.wait.drop (cntTo l c.who k)) 0 = eat c.wait (cntTo l c.who k) := by
    unfold eat; rw [List.getD_eq_getElem?_getD, List.getD_eq_getElem?_getD, List.getElem?_drop, Nat.add_zero]
  rw [this]
theorem newE_eat {c : CliD} {fr : Int} {l : List EntD} {s k : Nat} (hs : (c.seen - fr).toNat = s) : eat (newE c fr l) k = eat l (s + k) := by
  unfold newE; rw [hs, eat_drop]
theorem hearable_no1 {c : CliD} {fr : Int} {l : List EntD} (h : fitB c fr l = false) : hearableB c fr l = false := by unfold hearableB; rw [h]; rfl
theorem hearable_no2 {c : CliD} {fr : Int} {l : List EntD} {k : Nat} (hk : k < (newE c fr l).length) (h : hstepB c (newE c fr l) k = false) : hearableB c fr l = false := by unfold hearableB; rw [hearTo_bad hk h, Bool.and_false]
theorem hearable_yes {c : CliD} {fr : Int} {l : List EntD} (h : fitB c fr l = true) (h2 : hearTo c (newE c fr l) (newE c fr l).length = true) : hearableB c fr l = true := by unfold hearableB; rw [h, h2]; rfl
set_option maxRecDepth 100000 in
set_option maxHeartbeats 8000000 in
theorem l21Hear_any (c : CliD) (fr : Int) (l : List EntD) (ba la : Option Addr) (bc wb wo wc lc : Nat) (w : World) (h : CliAt w.heap.size w c ba bc (some ⟨wb, wo, none⟩) wc) (hwb : wb < w.heap.size) (htr : treeB c.base = true) (hs : 0 ≤ c.seen ∧ c.seen ≤ 1000) (hd : 0 ≤ c.done ∧ c.done ≤ 1000) (hl : EntsAt w.heap.size w la l) (hlf : EntsFit l) (hlo : ∀ i, i < l.length → opokB (eat l i).op = true) (hlc : l.length ≤ lc) (hlm : lc ≤ maxLen) (hfr : 0 ≤ fr ∧ fr ≤ 1000) :
    Calls Tryd.prog 35 #[.agg #[.int .i64 c.who, .int .i64 c.seen, .slice ba c.base.length bc, .slice (some ⟨wb, wo, none⟩) c.wait.length wc, .int .i64 c.done, .int .i64 c.made], .int .i64 fr, .slice la l.length lc] w (RetL21H c fr l ba bc wb wo wc w) := by
  have hll := hlf.1
  have L0 : Below w.heap.size w ((w.alloc (.cells #[.int .i64 c.who, .int .i64 c.seen, .slice ba c.base.length bc, .slice (some ⟨wb, wo, none⟩) c.wait.length wc, .int .i64 c.done, .int .i64 c.made] 33)).alloc (.cells #[.int .i64 0, .int .i64 0, .slice none 0 0, .slice none 0 0, .int .i64 0, .int .i64 0] 33)) := ((Below.refl _ _).alloc (Nat.le_refl _) _).alloc (by simp) _
  have X0 : Bx ((w.alloc (.cells #[.int .i64 c.who, .int .i64 c.seen, .slice ba c.base.length bc, .slice (some ⟨wb, wo, none⟩) c.wait.length wc, .int .i64 c.done, .int .i64 c.made] 33)).alloc (.cells #[.int .i64 0, .int .i64 0, .slice none 0 0, .slice none 0 0, .int .i64 0, .int .i64 0] 33)) w.heap.size 33 #[.int .i64 c.who, .int .i64 c.seen, .slice ba c.base.length bc, .slice (some ⟨wb, wo, none⟩) c.wait.length wc, .int .i64 c.done, .int .i64 c.made] := (Bx.new w _ _).alloc _
  have Y0 : Bx ((w.alloc (.cells #[.int .i64 c.who, .int .i64 c.seen, .slice ba c.base.length bc, .slice (some ⟨wb, wo, none⟩) c.wait.length wc, .int .i64 c.done, .int .i64 c.made] 33)).alloc (.cells #[.int .i64 0, .int .i64 0, .slice none 0 0, .slice none 0 0, .int .i64 0, .int .i64 0] 33)) (w.heap.size + 1) 33 #[.int .i64 0, .int .i64 0, .slice none 0 0, .slice none 0 0, .int .i64 0, .int .i64 0] := by
    have q := Bx.new (w.alloc (.cells #[.int .i64 c.who, .int .i64 c.seen, .slice ba c.base.length bc, .slice (some ⟨wb, wo, none⟩) c.wait.length wc, .int .i64 c.done, .int .i64 c.made] 33)) 33 #[.int .i64 0, .int .i64 0, .slice none 0 0, .slice none 0 0, .int .i64 0, .int .i64 0]
    rw [World.size_alloc] at q
    exact q
  have HSAME : Hid (∀ (V : World), Below w.heap.size w V → hearableB c fr l = false → ∀ v0 v1 v2 v3 v4 v5, RetL21H c fr l ba bc wb wo wc w (.returned (.tuple #[.agg #[.int .i64 c.who, .int .i64 c.seen, .slice ba c.base.length bc, .slice (some ⟨wb, wo, none⟩) c.wait.length wc, .int .i64 c.done, .int .i64 c.made], .bool false])) ((((((V.setCell ⟨w.heap.size + 1, 0, none⟩ v0).setCell ⟨w.heap.size + 1, 1, none⟩ v1).setCell ⟨w.heap.size + 1, 2, none⟩ v2).setCell ⟨w.heap.size + 1, 3, none⟩ v3).setCell ⟨w.heap.size + 1, 4, none⟩ v4).setCell ⟨w.heap.size + 1, 5, none⟩ v5)) := fun V hV hno v0 v1 v2 v3 v4 v5 => ⟨below_given6 hV (by omega) _ _ _ _ _ _, .inl ⟨hno, rfl⟩⟩
  go_enter Tryd.func35, Tryd.ntmps35
  go_upto_region 1 with fail
  generalize ((w.alloc (.cells #[.int .i64 c.who, .int .i64 c.seen, .slice ba c.base.length bc, .slice (some ⟨wb, wo, none⟩) c.wait.length wc, .int .i64 c.done, .int .i64 c.made] 33)).alloc (.cells #[.int .i64 0, .int .i64 0, .slice none 0 0, .slice none 0 0, .int .i64 0, .int .i64 0] 33)) = w1 at *
  by_cases hfit : fr ≤ c.seen ∧ fr + l.length ≤ 40
  · obtain ⟨f1, f2⟩ := hfit
    have HFB : Hid (fitB c fr l = true) := by unfold Hid fitB; simp [f1, f2]
    have f1' : ¬ c.seen < fr := by omega
    have f2' : ¬ (40 : Int) < fr + l.length := by omega
    obtain ⟨x0, x1, x2, x3, x4, x5⟩ := X0.cli
    obtain ⟨s, hs0⟩ : ∃ s : Nat, c.seen - fr = (s : Int) := Int.eq_ofNat_of_zero_le (by omega)
    have HSQ : Hid (c.seen = fr + s) := by unfold Hid; omega
    have HNE : Hid (∀ k, eat (newE c fr l) k = eat l (s + k)) := fun k => newE_eat (by rw [hs0]; rfl)
    have HNL : Hid ((newE c fr l).length = l.length - s) := by unfold Hid newE; rw [List.length_drop, hs0]; rfl
    have HS0 := Lib.hid hs0
    have Z2 := Bx.new w1 33 #[.int .i64 c.who, .int .i64 c.seen, .slice ba c.base.length bc, .slice (some ⟨wb, wo, none⟩) c.wait.length wc, .int .i64 c.done, .int .i64 c.made]
    have L2 := L0.alloc L0.size (.cells #[.int .i64 c.who, .int .i64 c.seen, .slice ba c.base.length bc, .slice (some ⟨wb, wo, none⟩) c.wait.length wc, .int .i64 c.done, .int .i64 c.made] 33)
    have X2 := X0.alloc (.cells #[.int .i64 c.who, .int .i64 c.seen, .slice ba c.base.length bc, .slice (some ⟨wb, wo, none⟩) c.wait.length wc, .int .i64 c.done, .int .i64 c.made] 33)
    have Y2 := Y0.alloc (.cells #[.int .i64 c.who, .int .i64 c.seen, .slice ba c.base.length bc, .slice (some ⟨wb, wo, none⟩) c.wait.length wc, .int .i64 c.done, .int .i64 c.made] 33)
    have hzy : w.heap.size + 1 < w1.heap.size := Y0.lt
    go_upto_region 4 with fail
    generalize w1.alloc (.cells #[.int .i64 c.who, .int .i64 c.seen, .slice ba c.base.length bc, .slice (some ⟨wb, wo, none⟩) c.wait.length wc, .int .i64 c.done, .int .i64 c.made] 33) = w2 at *
    generalize w1.heap.size = ZB at *
    clear X0 Y0 L0 x0 x1 x2 x3 x4 x5
    obtain ⟨x0, x1, x2, x3, x4, x5⟩ := X2.cli
    have hmx : max (c.seen - fr) 0 = (s : Int) := by omega
    clear hs0
    go_upto_region 5 with fail
    have HM0 : HrM c c ba bc wb w.heap.size w2 ba bc wo wc := ⟨.inl ⟨rfl, rfl, rfl⟩, h.bl, h.bm, h.ents.below L2, h.wl, h.wm⟩
    have hwfit := h.wm
    go_loopw [9] (fun t wr => ∃ (k : Nat) (d : CliD) (ya : Option Addr) (yc xo xc : Nat), k ≤ l.length - s ∧ t = .int .i64 ((s + k : Nat) : Int) ∧ Hid (d = heardC c (newE c fr l) k) ∧ Hid (hearTo c (newE c fr l) k = true) ∧ Bx wr ZB 33 #[.int .i64 d.who, .int .i64 d.seen, .slice ya d.base.length yc, .slice (some ⟨wb, xo, none⟩) d.wait.length xc, .int .i64 d.done, .int .i64 d.made] ∧ Bx wr w.heap.size 33 #[.int .i64 c.who, .int .i64 c.seen, .slice ba c.base.length bc, .slice (some ⟨wb, wo, none⟩) c.wait.length wc, .int .i64 c.done, .int .i64 c.made] ∧ Bx wr (w.heap.size + 1) 33 #[.int .i64 0, .int .i64 0, .slice none 0 0, .slice none 0 0, .int .i64 0, .int .i64 0] ∧ HrM c d ba bc wb w.heap.size wr ya yc xo xc ∧ Below w.heap.size w wr) (fun t _ => l.length - (intOf t).toNat)
    case atStart => exact ⟨0, c, ba, bc, wo, wc, Nat.zero_le _, by go_num, (heardC_zero c _).symm, hearTo_zero _ _, Z2, X2, Y2, HM0, L2⟩
    case round =>
      obtain ⟨k, d, ya, yc, xo, xc, hk, rfl, HD, HT, Z, X, Y, HM, L⟩ := hrel
      have HRW := Lib.hid h.rows
      clear Z2 X2 Y2 HM0 L2 x0 x1 x2 x3 x4 x5 h hmx
      by_cases hlt : s + k < l.length
      · obtain ⟨lb, lo, rfl, hlb, c0, c1, c2, c3, c4, c5, c6⟩ := (hl.below L).at_ hlt
        have i1 : ((s + k : Nat) : Int) < (l.length : Int) := by omega
        have hdt : Hid (treeB d.base = true) := by
          unfold Hid; rw [HD.out]
          refine treeFrom_ok htr (fun i hi => ?_)
          rw [HNE.out]; exact hlo _ (by omega)
        have HO := Lib.hid (hlo (s + k) hlt)
        have HOF := Lib.hid (hlf.2 (s + k) hlt).op
        have HEQ := Lib.hid (HNE.out k)
        have HW : Hid (d.who = c.who ∧ d.made = c.made) := by unfold Hid; rw [HD.out]; exact ⟨rfl, rfl⟩
        have HDN : Hid (d.done ≤ c.done + k ∧ 0 ≤ d.done ∧ d.seen = c.seen + k) := by
          unfold Hid; rw [HD.out]
          have := cntTo_le (newE c fr l) c.who k
          refine ⟨?_, ?_, rfl⟩
          · show c.done + (cntTo (newE c fr l) c.who k : Int) ≤ _; omega
          · show 0 ≤ c.done + (cntTo (newE c fr l) c.who k : Int); omega
        obtain ⟨hdn1, hdn2, hsn⟩ := HDN.out
        have hsn1 : d.seen ≤ 2000 := by omega
        have hsn2 : 0 ≤ d.seen := by omega
        clear hsn HDN
        obtain ⟨z0, z1, z2, z3, z4, z5⟩ := Z.cli
        obtain ⟨x0, x1, x2, x3, x4, x5⟩ := X.cli
        generalize heq : eat l (s + k) = e at *
        clear heq
        by_cases hw : e.who = c.who
        · have hwb : (e.who == c.who) = true := beq_iff_eq.2 hw
          by_cases h0 : d.wait.length = 0
          · have HNO : Hid (hearableB c fr l = false) := hearable_no2 (k := k) (by rw [HNL.out]; omega) (heard_step0 (by rw [HEQ.out]; exact hw) (by rw [← HD.out]; exact h0))
            have h0b : ((d.wait.length : Int) == 0) = true := by simp [h0]
            have HF := Lib.hid (fun m n => HSAME.out _ (below_drewN n (below_drewN m L)) HNO.out)
            have YC := Y.cli
            have YF := Y.cliF
            clear hw h0 L HSAME HM HRW hdt HO HOF HEQ HW HD HT HNO HNE HNL HS0 HSQ HFB
            go_upto_region 7 with fail
            go_quiet (fail)
            all_goals
              have z3' : (wr.drewN nq).cell? ⟨ZB, 3, none⟩ = some (.slice (some ⟨wb, xo, none⟩) d.wait.length xc) := z3
              have Y' : (∀ n, _ ) := fun n => (show Bx ((wr.drewN nq).drewN n) (w.heap.size + 1) 33 #[.int .i64 0, .int .i64 0, .slice none 0 0, .slice none 0 0, .int .i64 0, .int .i64 0] from Y)
              have X2' : (∀ n, _ ) := fun n => (show Bx ((wr.drewN nq).drewN n) w.heap.size 33 #[.int .i64 c.who, .int .i64 c.seen, .slice ba c.base.length bc, .slice (some ⟨wb, wo, none⟩) c.wait.length wc, .int .i64 c.done, .int .i64 c.made] from X)
              clear z0 z1 z2 z3 z4 z5 x0 x1 x2 x3 x4 x5 c0 c1 c2 c3 c4 c5 c6 YC YF X Y Z
              have HF3 := Lib.hid (fun n => HF.out nq n)
              clear HF
              generalize wr.drewN nq = w3 at *
              go_upto_region 8 with fail
              go_quiet (fail)
              obtain ⟨x0, x1, x2, x3, x4, x5⟩ := (X2' nq).cli
              obtain ⟨d0, d1, d2, d3, d4, d5⟩ := (Y' nq).cli
              obtain ⟨y0, y1, y2, y3, y4, y5⟩ := (Y' nq).cliF
              have HF4 := Lib.hid (HF3.out nq)
              clear X2' Y' HF3
              generalize w3.drewN nq = w4 at *
              go_wp2
              exact bodyPost_ret (v := .tuple #[.agg #[.int .i64 c.who, .int .i64 c.seen, .slice ba c.base.length bc, .slice (some ⟨wb, wo, none⟩) c.wait.length wc, .int .i64 c.done, .int .i64 c.made], .bool false]) (by simp [results, Tryd.results35, go_sem, d0, d1, d2, d3, d4, d5]) rfl (HF4.out _ _ _ _ _ _)
          · have h0b : ((d.wait.length : Int) == 0) = false := beq_eq_false_iff_ne.2 (by omega)
            have h0p : 0 < d.wait.length := by omega
            have i0p : (0 : Int) < (d.wait.length : Int) := by omega
            obtain ⟨_, _, e7, _, g0, g1, g2, g3, g4, g5, g6⟩ := HM.ents.at_ h0p
            cases e7
            simp only [Nat.zero_mul, Nat.add_zero] at g0 g1 g2 g3 g4 g5 g6
            have HS1 := Lib.hid (heard_step1 (c := c) (l := newE c fr l) (k := k) (by rw [HEQ.out]; exact hw) (by rw [← HD.out]; exact h0p))
            rw [← HD.out, HEQ.out] at HS1
            generalize hg : eat d.wait 0 = g at *
            cases hsm : sameB g e
            · have HNO : Hid (hearableB c fr l = false) := hearable_no2 (k := k) (by rw [HNL.out]; omega) (HS1.out.trans hsm)
              have HF := Lib.hid (fun m n => HSAME.out _ (below_drewN n (below_drewN m L)) HNO.out)
              have hp := ent_parts hsm
              clear hw h0 L HSAME HM HRW hdt HO HOF HEQ HW HD HT HNO HNE HNL HS0 HSQ HFB HS1 hsm hg
              go_upto_region 7 with fail
              go_quiet (fail)
              all_goals
                have z3' : (wr.drewN nq).cell? ⟨ZB, 3, none⟩ = some (.slice (some ⟨wb, xo, none⟩) d.wait.length xc) := z3
                have Y' : (∀ n, _ ) := fun n => (show Bx ((wr.drewN nq).drewN n) (w.heap.size + 1) 33 #[.int .i64 0, .int .i64 0, .slice none 0 0, .slice none 0 0, .int .i64 0, .int .i64 0] from Y)
                have X2' : (∀ n, _ ) := fun n => (show Bx ((wr.drewN nq).drewN n) w.heap.size 33 #[.int .i64 c.who, .int .i64 c.seen, .slice ba c.base.length bc, .slice (some ⟨wb, wo, none⟩) c.wait.length wc, .int .i64 c.done, .int .i64 c.made] from X)
                have q0 : (wr.drewN nq).cell? _ = _ := c0
                have q1 : (wr.drewN nq).cell? _ = _ := c1
                have q2 : (wr.drewN nq).cell? _ = _ := c2
                have q3 : (wr.drewN nq).cell? _ = _ := c3
                have q4 : (wr.drewN nq).cell? _ = _ := c4
                have q5 : (wr.drewN nq).cell? _ = _ := c5
                have q6 : (wr.drewN nq).cell? _ = _ := c6
                have r0 : (wr.drewN nq).cell? _ = _ := g0
                have r1 : (wr.drewN nq).cell? _ = _ := g1
                have r2 : (wr.drewN nq).cell? _ = _ := g2
                have r3 : (wr.drewN nq).cell? _ = _ := g3
                have r4 : (wr.drewN nq).cell? _ = _ := g4
                have r5 : (wr.drewN nq).cell? _ = _ := g5
                have r6 : (wr.drewN nq).cell? _ = _ := g6
                clear z0 z1 z2 z3 z4 z5 x0 x1 x2 x3 x4 x5 c0 c1 c2 c3 c4 c5 c6 g0 g1 g2 g3 g4 g5 g6 X Y Z
                have HF3 := Lib.hid (fun n => HF.out nq n)
                clear HF
                generalize wr.drewN nq = w3 at *
                go_upto_region 8 with fail
                rcases hp with h1 | ⟨h1, h2⟩ | ⟨h1, h2, h3⟩ | ⟨h1, h2, h3, h4⟩ | ⟨h1, h2, h3, h4, h5⟩ | ⟨h1, h2, h3, h4, h5, h6⟩ | ⟨h1, h2, h3, h4, h5, h6, h7⟩
                all_goals
                  go_quiet (fail)
                  obtain ⟨x0, x1, x2, x3, x4, x5⟩ := (X2' nq).cli
                  obtain ⟨d0, d1, d2, d3, d4, d5⟩ := (Y' nq).cli
                  obtain ⟨y0, y1, y2, y3, y4, y5⟩ := (Y' nq).cliF
                  have HF4 := Lib.hid (HF3.out nq)
                  clear X2' Y' HF3
                  generalize w3.drewN nq = w4 at *
                  go_wp2
                  exact bodyPost_ret (v := .tuple #[.agg #[.int .i64 c.who, .int .i64 c.seen, .slice ba c.base.length bc, .slice (some ⟨wb, wo, none⟩) c.wait.length wc, .int .i64 c.done, .int .i64 c.made], .bool false]) (by simp [results, Tryd.results35, go_sem, d0, d1, d2, d3, d4, d5]) rfl (HF4.out _ _ _ _ _ _)
            · obtain rfl : g = e := sameB_iff.1 hsm
              have HST : Hid (hstepB c (newE c fr l) k = true) := HS1.out.trans hsm
              have HNX0 := Lib.hid (heard_own (c := c) (l := newE c fr l) (k := k) (by rw [HEQ.out]; exact hw))
              rw [← HD.out, HEQ.out] at HNX0
              have hxl := HM.wl
              have hxm := HM.wm
              unfold maxLen at hxm
              obtain ⟨xp, hxp⟩ : ∃ xp : Nat, xp = if xc = 1 then xo else xo + 7 := ⟨_, rfl⟩
              have hxd : (d.wait.drop 1).length = d.wait.length - 1 := List.length_drop ..
              have HENT : Hid (∀ V : World, EntsAt w.heap.size V (some ⟨wb, xo, none⟩) d.wait → EntsAt w.heap.size V (some ⟨wb, xp, none⟩) (d.wait.drop 1)) := fun V hV => by
                by_cases q : xc = 1
                · exact .inl (by rw [hxd]; omega)
                · rw [hxp, if_neg q]
                  have q2 := hV.part 1 (d.wait.length - 1)
                  rw [List.take_of_length_le (by rw [hxd]; omega)] at q2
                  exact q2
              have HXP := Lib.hid hxp
              clear hsm HS1 hg hxp hxd
              go_upto_region 7 with fail
              go_quiet (fail)
              all_goals
                have z3' : (wr.drewN nq).cell? ⟨ZB, 3, none⟩ = some (.slice (some ⟨wb, xo, none⟩) d.wait.length xc) := z3
                have q0 : (wr.drewN nq).cell? _ = _ := c0
                have q1 : (wr.drewN nq).cell? _ = _ := c1
                have q2 : (wr.drewN nq).cell? _ = _ := c2
                have q3 : (wr.drewN nq).cell? _ = _ := c3
                have q4 : (wr.drewN nq).cell? _ = _ := c4
                have q5 : (wr.drewN nq).cell? _ = _ := c5
                have q6 : (wr.drewN nq).cell? _ = _ := c6
                have r0 : (wr.drewN nq).cell? _ = _ := g0
                have r1 : (wr.drewN nq).cell? _ = _ := g1
                have r2 : (wr.drewN nq).cell? _ = _ := g2
                have r3 : (wr.drewN nq).cell? _ = _ := g3
                have r4 : (wr.drewN nq).cell? _ = _ := g4
                have r5 : (wr.drewN nq).cell? _ = _ := g5
                have r6 : (wr.drewN nq).cell? _ = _ := g6
                have Z3 : Bx (wr.drewN nq) ZB 33 #[.int .i64 d.who, .int .i64 d.seen, .slice ya d.base.length yc, .slice (some ⟨wb, xo, none⟩) d.wait.length xc, .int .i64 d.done, .int .i64 d.made] := Z
                have X3 : Bx (wr.drewN nq) w.heap.size 33 #[.int .i64 c.who, .int .i64 c.seen, .slice ba c.base.length bc, .slice (some ⟨wb, wo, none⟩) c.wait.length wc, .int .i64 c.done, .int .i64 c.made] := X
                have Y3 : Bx (wr.drewN nq) (w.heap.size + 1) 33 #[.int .i64 0, .int .i64 0, .slice none 0 0, .slice none 0 0, .int .i64 0, .int .i64 0] := Y
                have L3 := below_drewN nq L
                have M3 : HrM c d ba bc wb w.heap.size (wr.drewN nq) ya yc xo xc := HM.below (below_drewN nq (Below.refl _ wr)) L.size
                clear z0 z1 z2 z3 z4 z5 x0 x1 x2 x3 x4 x5 c0 c1 c2 c3 c4 c5 c6 g0 g1 g2 g3 g4 g5 g6 X Y Z L HM
                generalize wr.drewN nq = w3 at *
                go_upto_region 8 with fail
                go_quiet (fail)
                have Z7 : Bx (w3.drewN nq) ZB 33 #[.int .i64 d.who, .int .i64 d.seen, .slice ya d.base.length yc, .slice (some ⟨wb, xo, none⟩) d.wait.length xc, .int .i64 d.done, .int .i64 d.made] := Z3
                have X7 : Bx (w3.drewN nq) w.heap.size 33 #[.int .i64 c.who, .int .i64 c.seen, .slice ba c.base.length bc, .slice (some ⟨wb, wo, none⟩) c.wait.length wc, .int .i64 c.done, .int .i64 c.made] := X3
                have Y7 : Bx (w3.drewN nq) (w.heap.size + 1) 33 #[.int .i64 0, .int .i64 0, .slice none 0 0, .slice none 0 0, .int .i64 0, .int .i64 0] := Y3
                have L7 := below_drewN nq L3
                have M7 : HrM c d ba bc wb w.heap.size (w3.drewN nq) ya yc xo xc := M3.below (below_drewN nq (Below.refl _ w3)) L3.size
                have t2 : (w3.drewN nq).cell? _ = _ := q2
                have t3 : (w3.drewN nq).cell? _ = _ := q3
                have t4 : (w3.drewN nq).cell? _ = _ := q4
                have t5 : (w3.drewN nq).cell? _ = _ := q5
                have t6 : (w3.drewN nq).cell? _ = _ := q6
                clear q0 q1 q2 q3 q4 q5 q6 r0 r1 r2 r3 r4 r5 r6 Z3 X3 Y3 L3 M3 z3'
                generalize w3.drewN nq = w7 at *
                obtain ⟨z0, z1, z2, z3, z4, z5⟩ := Z7.cli
                obtain ⟨y0, y1, y2, y3, y4, y5⟩ := Z7.cliF
                have hlz : lb ≠ ZB := by omega
                have Z8 : Bx ((w7.setCell ⟨ZB, 3, none⟩ (.slice (some ⟨wb, xp, none⟩) (d.wait.length - 1) (xc - 1))).setCell ⟨ZB, 4, none⟩ (.int .i64 (d.done + 1))) ZB 33 #[.int .i64 d.who, .int .i64 d.seen, .slice ya d.base.length yc, .slice (some ⟨wb, xp, none⟩) (d.wait.length - 1) (xc - 1), .int .i64 (d.done + 1), .int .i64 d.made] := (Z7.put 3 _).put 4 _
                have X8 : Bx ((w7.setCell ⟨ZB, 3, none⟩ (.slice (some ⟨wb, xp, none⟩) (d.wait.length - 1) (xc - 1))).setCell ⟨ZB, 4, none⟩ (.int .i64 (d.done + 1))) w.heap.size 33 #[.int .i64 c.who, .int .i64 c.seen, .slice ba c.base.length bc, .slice (some ⟨wb, wo, none⟩) c.wait.length wc, .int .i64 c.done, .int .i64 c.made] := (X7.other (by omega) _).other (by omega) _
                have Y8 : Bx ((w7.setCell ⟨ZB, 3, none⟩ (.slice (some ⟨wb, xp, none⟩) (d.wait.length - 1) (xc - 1))).setCell ⟨ZB, 4, none⟩ (.int .i64 (d.done + 1))) (w.heap.size + 1) 33 #[.int .i64 0, .int .i64 0, .slice none 0 0, .slice none 0 0, .int .i64 0, .int .i64 0] := (Y7.other (by omega) _).other (by omega) _
                have L8 := (L7.setCell (p := ⟨ZB, 3, none⟩) (by show w.heap.size ≤ ZB; omega) (.slice (some ⟨wb, xp, none⟩) (d.wait.length - 1) (xc - 1))).setCell (p := ⟨ZB, 4, none⟩) (by show w.heap.size ≤ ZB; omega) (.int .i64 (d.done + 1))
                have M8 := (M7.put (j := 3) Z7 (by omega) (.slice (some ⟨wb, xp, none⟩) (d.wait.length - 1) (xc - 1))).put (j := 4) (Z7.put 3 _) (by omega) (.int .i64 (d.done + 1))
                have e2 : ((w7.setCell ⟨ZB, 3, none⟩ (.slice (some ⟨wb, xp, none⟩) (d.wait.length - 1) (xc - 1))).setCell ⟨ZB, 4, none⟩ (.int .i64 (d.done + 1))).cell? ⟨lb, lo + (s + k) * 7 + 2, none⟩ = _ := (World.cell?_setCell_far _ ⟨ZB, 4, none⟩ ⟨lb, _, none⟩ _ (Ne.symm hlz)).trans ((World.cell?_setCell_far _ ⟨ZB, 3, none⟩ ⟨lb, _, none⟩ _ (Ne.symm hlz)).trans t2)
                have e3 : ((w7.setCell ⟨ZB, 3, none⟩ (.slice (some ⟨wb, xp, none⟩) (d.wait.length - 1) (xc - 1))).setCell ⟨ZB, 4, none⟩ (.int .i64 (d.done + 1))).cell? ⟨lb, lo + (s + k) * 7 + 3, none⟩ = _ := (World.cell?_setCell_far _ ⟨ZB, 4, none⟩ ⟨lb, _, none⟩ _ (Ne.symm hlz)).trans ((World.cell?_setCell_far _ ⟨ZB, 3, none⟩ ⟨lb, _, none⟩ _ (Ne.symm hlz)).trans t3)
                have e4 : ((w7.setCell ⟨ZB, 3, none⟩ (.slice (some ⟨wb, xp, none⟩) (d.wait.length - 1) (xc - 1))).setCell ⟨ZB, 4, none⟩ (.int .i64 (d.done + 1))).cell? ⟨lb, lo + (s + k) * 7 + 4, none⟩ = _ := (World.cell?_setCell_far _ ⟨ZB, 4, none⟩ ⟨lb, _, none⟩ _ (Ne.symm hlz)).trans ((World.cell?_setCell_far _ ⟨ZB, 3, none⟩ ⟨lb, _, none⟩ _ (Ne.symm hlz)).trans t4)
                have e5 : ((w7.setCell ⟨ZB, 3, none⟩ (.slice (some ⟨wb, xp, none⟩) (d.wait.length - 1) (xc - 1))).setCell ⟨ZB, 4, none⟩ (.int .i64 (d.done + 1))).cell? ⟨lb, lo + (s + k) * 7 + 5, none⟩ = _ := (World.cell?_setCell_far _ ⟨ZB, 4, none⟩ ⟨lb, _, none⟩ _ (Ne.symm hlz)).trans ((World.cell?_setCell_far _ ⟨ZB, 3, none⟩ ⟨lb, _, none⟩ _ (Ne.symm hlz)).trans t5)
                have e6 : ((w7.setCell ⟨ZB, 3, none⟩ (.slice (some ⟨wb, xp, none⟩) (d.wait.length - 1) (xc - 1))).setCell ⟨ZB, 4, none⟩ (.int .i64 (d.done + 1))).cell? ⟨lb, lo + (s + k) * 7 + 6, none⟩ = _ := (World.cell?_setCell_far _ ⟨ZB, 4, none⟩ ⟨lb, _, none⟩ _ (Ne.symm hlz)).trans ((World.cell?_setCell_far _ ⟨ZB, 3, none⟩ ⟨lb, _, none⟩ _ (Ne.symm hlz)).trans t6)
                clear Z7 X7 Y7 L7 M7 t2 t3 t4 t5 t6
                have hsl : (if xc = 1 then some (⟨wb, xo, none⟩ : Addr) else some ⟨wb, xo + 7, none⟩) = some ⟨wb, xp, none⟩ := by
                  rw [HXP.out]; split <;> rfl
                have hsl2 : (if xc = 1 then xo else xo + 7) = xp := HXP.out.symm
                go_upto_region 12 with fail
                generalize ((w7.setCell ⟨ZB, 3, none⟩ (.slice (some ⟨wb, xp, none⟩) (d.wait.length - 1) (xc - 1))).setCell ⟨ZB, 4, none⟩ (.int .i64 (d.done + 1))) = w9 at *
                clear hsl hsl2 z0 z1 z2 z3 z4 z5 y0 y1 y2 y3 y4 y5
                have hxd : (d.wait.drop 1).length = d.wait.length - 1 := List.length_drop ..
                obtain ⟨d1, hd1⟩ : ∃ d1 : CliD, d1 = ⟨d.who, d.seen, d.base, d.wait.drop 1, d.done + 1, d.made⟩ := ⟨_, rfl⟩
                obtain ⟨xq, hxq⟩ : ∃ xq : Nat, xq = xc - 1 := ⟨_, rfl⟩
                have Z9 : Bx w9 ZB 33 #[.int .i64 d1.who, .int .i64 d1.seen, .slice ya d1.base.length yc, .slice (some ⟨wb, xp, none⟩) d1.wait.length xq, .int .i64 d1.done, .int .i64 d1.made] := by rw [hd1, hxq]; simp only [hxd]; exact Z8
                have X9 := X8
                have Y9 := Y8
                have L9 := L8
                have M9 : HrM c d1 ba bc wb w.heap.size w9 ya yc xp xq := by
                  rw [hd1, hxq]
                  exact ⟨M8.base, M8.bl, M8.bm, HENT.out _ M8.ents, by simp only [hxd]; omega, by unfold maxLen; omega⟩
                have HTB : Hid (treeB d1.base = true) := by unfold Hid; rw [hd1]; exact hdt.out
                have HNX : Hid (heardC c (newE c fr l) (k + 1) = ⟨d1.who, d1.seen + 1, doR d1.base g.op, d1.wait, d1.done, d1.made⟩) := by
                  unfold Hid; rw [HNX0.out, hd1, HW.out.1, HW.out.2]
                have hb1 : d1.seen ≤ 2000 := by rw [hd1]; exact hsn1
                have hb2 : 0 ≤ d1.seen := by rw [hd1]; exact hsn2
                clear Z8 X8 Y8 L8 M8 hd1 hxq hxd HNX0 HENT hdt HD HW
                have HDO := Lib.hid (l3Do_any w9.drew.heap.size ya yc d1.base g.op w9.drew (Nat.le_refl _) (M9.rows (HRW.out.below L9) L9.size) (tree_fits HTB.out) M9.bl M9.bm HTB.out HO.out)
                have M9d := M9.below (Below.refl _ w9).drew L9.size
                go_upto_region 12 with fail
                obtain ⟨z0, z1, z2, z3, z4, z5⟩ := Z9.cli
                obtain ⟨y0, y1, y2, y3, y4, y5⟩ := Z9.cliF
                go_region_with ((go_at_call 53; (refine HDO.out.mono ?_); rintro _ w4 ⟨za, zc, rfl, own4, hzc, b4⟩; have Z4 := Z9.drew.below b4 Z9.lt; have X4 := X9.drew.below b4 X9.lt; have Y4 := Y9.drew.below b4 Y9.lt; have L4 := L9.drew.trans (b4.mono L9.size); have M4 := M9d.below b4 L9.size; have f2 := Z4.frozen 2; have g2 := Z4.cell 2 rfl))
                all_goals
                  obtain ⟨hcz1, hcz2⟩ := own_capm own4
                  have G4 : Got w.heap.size w4 za (doR d1.base g.op) := (got_own own4).base L9.size
                  have Z5 := Z4.put 2 (.slice za (doR d1.base g.op).length zc)
                  have X5 := X4.other (B' := ZB) (j := 2) (by omega) (.slice za (doR d1.base g.op).length zc)
                  have Y5 := Y4.other (B' := ZB) (j := 2) (by omega) (.slice za (doR d1.base g.op).length zc)
                  have G5 := G4.putC (j := 2) Z4 (by decide) (.slice za (doR d1.base g.op).length zc)
                  have L5 := L4.setCell (p := ⟨ZB, 2, none⟩) (by show w.heap.size ≤ ZB; omega) (.slice za (doR d1.base g.op).length zc)
                  have M5 := M4.put (j := 2) Z4 (by omega) (.slice za (doR d1.base g.op).length zc)
                  clear Z9 X9 Y9 M9 M9d Z4 X4 Y4 M4 G4 own4 b4 HDO z0 z1 z2 z3 z4 z5 y0 y1 y2 y3 y4 y5
                  generalize w4.setCell ⟨ZB, 2, none⟩ (.slice za (doR d1.base g.op).length zc) = w5 at *
                  have f1 := Z5.frozen 1
                  have g1 : w5.cell? ⟨ZB, 1, none⟩ = some (.int .i64 d1.seen) := Z5.cell 1 rfl
                  have Z6 : Bx (w5.setCell ⟨ZB, 1, none⟩ (.int .i64 (d1.seen + 1))) ZB 33 #[.int .i64 d1.who, .int .i64 (d1.seen + 1), .slice za (doR d1.base g.op).length zc, .slice (some ⟨wb, xp, none⟩) d1.wait.length xq, .int .i64 d1.done, .int .i64 d1.made] := Z5.put 1 _
                  have X6 := X5.other (B' := ZB) (j := 1) (by omega) (.int .i64 (d1.seen + 1))
                  have Y6 := Y5.other (B' := ZB) (j := 1) (by omega) (.int .i64 (d1.seen + 1))
                  have G6 := G5.putC (j := 1) Z5 (by decide) (.int .i64 (d1.seen + 1))
                  have L6 := L5.setCell (p := ⟨ZB, 1, none⟩) (by show w.heap.size ≤ ZB; omega) (.int .i64 (d1.seen + 1))
                  have M6a := M5.put (j := 1) Z5 (by omega) (.int .i64 (d1.seen + 1))
                  have HD6 : Hid ((⟨d1.who, d1.seen + 1, doR d1.base g.op, d1.wait, d1.done, d1.made⟩ : CliD) = heardC c (newE c fr l) (k + 1)) := HNX.out.symm
                  have HT6 : Hid (hearTo c (newE c fr l) (k + 1) = true) := by unfold Hid; rw [hearTo_succ, HT.out, HST.out]; rfl
                  have M6 : HrM c ⟨d1.who, d1.seen + 1, doR d1.base g.op, d1.wait, d1.done, d1.made⟩ ba bc wb w.heap.size (w5.setCell ⟨ZB, 1, none⟩ (.int .i64 (d1.seen + 1))) za zc xp xq := ⟨.inr G6, hcz1, hcz2, M6a.ents, M6a.wl, M6a.wm⟩
                  clear Z5 X5 Y5 G5 L5 M5 M6a G6 g2
                  generalize doR d1.base g.op = rs2 at *
                  go_wp2
                  go_roundw
                  case rel => exact ⟨k + 1, ⟨d1.who, d1.seen + 1, rs2, d1.wait, d1.done, d1.made⟩, za, zc, xp, xq, by omega, by go_num, HD6, HT6, Z6, X6, Y6, M6, L6⟩
                  case measure => simp [intOf]; omega
        · have hwb : (e.who == c.who) = false := beq_eq_false_iff_ne.2 hw
          have HST : Hid (hstepB c (newE c fr l) k = true) := hstep_other (by rw [HEQ.out]; exact hw)
          have HNX : Hid (heardC c (newE c fr l) (k + 1) = ⟨c.who, d.seen + 1, doR d.base e.op, d.wait, d.done, c.made⟩) := by
            unfold Hid
            rw [heard_other (by rw [HEQ.out]; exact hw), ← HD.out, HEQ.out]
          clear hw
          go_upto_region 7 with fail
          go_quiet (fail)
          all_goals
            have e2 : (wr.drewN nq).cell? ⟨lb, lo + (s + k) * 7 + 2, none⟩ = some (.int .i64 e.op.kind) := c2
            have e3 : (wr.drewN nq).cell? ⟨lb, lo + (s + k) * 7 + 3, none⟩ = some (.int .i64 e.op.id) := c3
            have e4 : (wr.drewN nq).cell? ⟨lb, lo + (s + k) * 7 + 4, none⟩ = some (.int .i64 e.op.up) := c4
            have e5 : (wr.drewN nq).cell? ⟨lb, lo + (s + k) * 7 + 5, none⟩ = some (.int .i64 e.op.at_) := c5
            have e6 : (wr.drewN nq).cell? ⟨lb, lo + (s + k) * 7 + 6, none⟩ = some (.string e.op.txt) := c6
            have Z3 : Bx (wr.drewN nq) ZB 33 #[.int .i64 d.who, .int .i64 d.seen, .slice ya d.base.length yc, .slice (some ⟨wb, xo, none⟩) d.wait.length xc, .int .i64 d.done, .int .i64 d.made] := Z
            have X3 : Bx (wr.drewN nq) w.heap.size 33 #[.int .i64 c.who, .int .i64 c.seen, .slice ba c.base.length bc, .slice (some ⟨wb, wo, none⟩) c.wait.length wc, .int .i64 c.done, .int .i64 c.made] := X
            have Y3 : Bx (wr.drewN nq) (w.heap.size + 1) 33 #[.int .i64 0, .int .i64 0, .slice none 0 0, .slice none 0 0, .int .i64 0, .int .i64 0] := Y
            have L3 := below_drewN nq L
            have M3 : HrM c d ba bc wb w.heap.size (wr.drewN nq) ya yc xo xc := HM.below (below_drewN nq (Below.refl _ wr)) L.size
            clear Z X Y L HM z0 z1 z2 z3 z4 z5 x0 x1 x2 x3 x4 x5 c0 c1 c2 c3 c4 c5 c6
            generalize wr.drewN nq = w3 at *
            have HDO := Lib.hid (l3Do_any w3.drew.heap.size ya yc d.base e.op w3.drew (Nat.le_refl _) (M3.rows (HRW.out.below L3) L3.size) (tree_fits hdt.out) M3.bl M3.bm hdt.out HO.out)
            have HDT2 := Lib.hid (do_tree hdt.out HO.out)
            have M3d := M3.below (Below.refl _ w3).drew L3.size
            go_upto_region 12 with fail
            obtain ⟨z0, z1, z2, z3, z4, z5⟩ := Z3.cli
            obtain ⟨y0, y1, y2, y3, y4, y5⟩ := Z3.cliF
            go_region_with ((go_at_call 53; (refine HDO.out.mono ?_); rintro _ w4 ⟨za, zc, rfl, own4, hzc, b4⟩; have Z4 := Z3.drew.below b4 Z3.lt; have X4 := X3.drew.below b4 X3.lt; have Y4 := Y3.drew.below b4 Y3.lt; have L4 := L3.drew.trans (b4.mono L3.size); have M4 := M3d.below b4 L3.size; have f2 := Z4.frozen 2; have g2 := Z4.cell 2 rfl))
            all_goals
              obtain ⟨hcz1, hcz2⟩ := own_capm own4
              have G4 : Got w.heap.size w4 za (doR d.base e.op) := (got_own own4).base L3.size
              have Z5 := Z4.put 2 (.slice za (doR d.base e.op).length zc)
              have X5 := X4.other (B' := ZB) (j := 2) (by omega) (.slice za (doR d.base e.op).length zc)
              have Y5 := Y4.other (B' := ZB) (j := 2) (by omega) (.slice za (doR d.base e.op).length zc)
              have G5 := G4.putC (j := 2) Z4 (by decide) (.slice za (doR d.base e.op).length zc)
              have L5 := L4.setCell (p := ⟨ZB, 2, none⟩) (by show w.heap.size ≤ ZB; omega) (.slice za (doR d.base e.op).length zc)
              have M5 := M4.put (j := 2) Z4 (by omega) (.slice za (doR d.base e.op).length zc)
              clear Z3 X3 Y3 M3 M3d Z4 X4 Y4 M4 G4 own4 b4 HDO z0 z1 z2 z3 z4 z5 y0 y1 y2 y3 y4 y5
              generalize w4.setCell ⟨ZB, 2, none⟩ (.slice za (doR d.base e.op).length zc) = w5 at *
              have f1 := Z5.frozen 1
              have g1 : w5.cell? ⟨ZB, 1, none⟩ = some (.int .i64 d.seen) := Z5.cell 1 rfl
              have Z6 : Bx (w5.setCell ⟨ZB, 1, none⟩ (.int .i64 (d.seen + 1))) ZB 33 #[.int .i64 d.who, .int .i64 (d.seen + 1), .slice za (doR d.base e.op).length zc, .slice (some ⟨wb, xo, none⟩) d.wait.length xc, .int .i64 d.done, .int .i64 d.made] := Z5.put 1 _
              have X6 := X5.other (B' := ZB) (j := 1) (by omega) (.int .i64 (d.seen + 1))
              have Y6 := Y5.other (B' := ZB) (j := 1) (by omega) (.int .i64 (d.seen + 1))
              have G6 := G5.putC (j := 1) Z5 (by decide) (.int .i64 (d.seen + 1))
              have L6 := L5.setCell (p := ⟨ZB, 1, none⟩) (by show w.heap.size ≤ ZB; omega) (.int .i64 (d.seen + 1))
              have M6a := M5.put (j := 1) Z5 (by omega) (.int .i64 (d.seen + 1))
              have HD6 : Hid ((⟨d.who, d.seen + 1, doR d.base e.op, d.wait, d.done, d.made⟩ : CliD) = heardC c (newE c fr l) (k + 1)) := by
                unfold Hid; rw [HNX.out, HW.out.1, HW.out.2]
              have HT6 : Hid (hearTo c (newE c fr l) (k + 1) = true) := by unfold Hid; rw [hearTo_succ, HT.out, HST.out]; rfl
              have M6 : HrM c ⟨d.who, d.seen + 1, doR d.base e.op, d.wait, d.done, d.made⟩ ba bc wb w.heap.size (w5.setCell ⟨ZB, 1, none⟩ (.int .i64 (d.seen + 1))) za zc xo xc := ⟨.inr G6, hcz1, hcz2, M6a.ents, M6a.wl, M6a.wm⟩
              clear Z5 X5 Y5 G5 L5 M5 M6a G6 g2
              generalize doR d.base e.op = rs2 at *
              go_wp2
              go_roundw
              case rel => exact ⟨k + 1, ⟨d.who, d.seen + 1, rs2, d.wait, d.done, d.made⟩, za, zc, xo, xc, by omega, by go_num, HD6, HT6, Z6, X6, Y6, M6, L6⟩
              case measure => simp [intOf]; omega
      · have hkn : k = l.length - s := by omega
        have HHY : Hid (hearableB c fr l = true) := hearable_yes HFB.out (by rw [HNL.out, ← hkn]; exact HT.out)
        have HDE : Hid (d = heardC c (newE c fr l) (newE c fr l).length) := by unfold Hid; rw [HNL.out, ← hkn]; exact HD.out
        have HF := Lib.hid (fun v0 v1 v2 v3 v4 v5 => (⟨below_given6 L (show w.heap.size ≤ w.heap.size + 1 by omega) v0 v1 v2 v3 v4 v5, .inr ⟨HHY.out, d, ya, yc, xo, xc, HDE.out, rfl, HM.given6 Y (by omega) v0 v1 v2 v3 v4 v5⟩⟩ : RetL21H c fr l ba bc wb wo wc w (.returned (.tuple #[.agg #[.int .i64 d.who, .int .i64 d.seen, .slice ya d.base.length yc, .slice (some ⟨wb, xo, none⟩) d.wait.length xc, .int .i64 d.done, .int .i64 d.made], .bool true])) ((((((wr.setCell ⟨w.heap.size + 1, 0, none⟩ v0).setCell ⟨w.heap.size + 1, 1, none⟩ v1).setCell ⟨w.heap.size + 1, 2, none⟩ v2).setCell ⟨w.heap.size + 1, 3, none⟩ v3).setCell ⟨w.heap.size + 1, 4, none⟩ v4).setCell ⟨w.heap.size + 1, 5, none⟩ v5)))
        obtain ⟨z0, z1, z2, z3, z4, z5⟩ := Z.cli
        obtain ⟨d0, d1, d2, d3, d4, d5⟩ := Y.cli
        obtain ⟨y0, y1, y2, y3, y4, y5⟩ := Y.cliF
        clear hkn Z X Y L HM HSAME HD HT HHY HDE
        go_wp2
        exact bodyPost_ret (v := .tuple #[.agg #[.int .i64 d.who, .int .i64 d.seen, .slice ya d.base.length yc, .slice (some ⟨wb, xo, none⟩) d.wait.length xc, .int .i64 d.done, .int .i64 d.made], .bool true]) (by simp [results, Tryd.results35, go_sem, d0, d1, d2, d3, d4, d5]) rfl (HF.out _ _ _ _ _ _)
  · have HFB : Hid (fitB c fr l = false) := by unfold Hid fitB; rw [Bool.and_eq_false_iff, decide_eq_false_iff_not, decide_eq_false_iff_not]; omega
    have HF := Lib.hid (HSAME.out _ L0 (hearable_no1 HFB.out))
    obtain ⟨x0, x1, x2, x3, x4, x5⟩ := X0.cli
    obtain ⟨d0, d1, d2, d3, d4, d5⟩ := Y0.cli
    obtain ⟨y0, y1, y2, y3, y4, y5⟩ := Y0.cliF
    clear X0 Y0 L0 HSAME
    by_cases f1 : fr ≤ c.seen
    · have f2 : (40 : Int) < fr + l.length := by omega
      have f1' : ¬ c.seen < fr := by omega
      clear hfit
      go_wp2
      exact bodyPost_ret (v := .tuple #[.agg #[.int .i64 c.who, .int .i64 c.seen, .slice ba c.base.length bc, .slice (some ⟨wb, wo, none⟩) c.wait.length wc, .int .i64 c.done, .int .i64 c.made], .bool false]) (by simp [results, Tryd.results35, go_sem, d0, d1, d2, d3, d4, d5]) rfl (HF.out _ _ _ _ _ _)
    · have f1' : c.seen < fr := by omega
      clear hfit
      go_wp2
      exact bodyPost_ret (v := .tuple #[.agg #[.int .i64 c.who, .int .i64 c.seen, .slice ba c.base.length bc, .slice (some ⟨wb, wo, none⟩) c.wait.length wc, .int .i64 c.done, .int .i64 c.made], .bool false]) (by simp [results, Tryd.results35, go_sem, d0, d1, d2, d3, d4, d5]) rfl (HF.out _ _ _ _ _ _)
end Go.Proofs.YtogafpfgdonlmaaDoor
