/-
  The walk of the law FnDeep out of the contracts. Conditions: the argument reads as bytes; the table 'creators' holds what its initialiser lays.
-/
import Derived.Test.YtiigkjpabbgnpaaDoorDUnder
import Derived.Test.YtiigkjpabbgnpaaDoorTImpl
namespace Go.Proofs.YtiigkjpabbgnpaaDoor
open Go.ChangeShapes Go.WideShapes Go.ChangeAt Go.RowKit Go.Joins

/-- Node c is n steps above a row of depth d. -/
def Above (rs : List RowD) (d : Int) (n c : Nat) : Prop := c ≤ rs.length ∧ dp rs c = d - 1 - (n : Int)
theorem upI_at {rs : List RowD} {id : Int} (h : hasB rs id = true) : upI rs id = (nd rs (par (dp rs) (atN rs id + 1))).id := by
  have h2 := h
  simp only [hasB, Bool.and_eq_true, decide_eq_true_eq] at h2
  unfold upI
  rw [if_pos h, par_shift (treeP_of h2.1) h2.2]
theorem above_start {rs : List RowD} {id : Int} (h : hasB rs id = true) : Above rs (rat rs (atN rs id)).dep 0 (par (dp rs) (atN rs id + 1)) := by
  simp only [hasB, Bool.and_eq_true, decide_eq_true_eq] at h
  have hd := (treeP_of h.1).deps
  have h1 := par_spec hd (i := atN rs id + 1) (by omega) (by omega)
  have h2 := par_dep hd (i := atN rs id + 1) (by omega) (by omega)
  refine ⟨by omega, ?_⟩
  rw [h2]
  show (rat rs (atN rs id)).dep - 1 = _
  simp
theorem above_dep {rs : List RowD} {d : Int} {n c : Nat} (ht : treeB rs = true) (h : Above rs d n c) : (c = 0 ∧ (nd rs c).id = 0 ∧ (n : Int) = d) ∨ (∃ j, c = j + 1 ∧ j < rs.length ∧ 0 < (nd rs c).id ∧ (n : Int) + 1 ≤ d) := by
  obtain ⟨h1, h2⟩ := h
  rcases c with _ | j
  · refine .inl ⟨rfl, rfl, ?_⟩
    have : dp rs 0 = -1 := rfl
    omega
  · have hr := (treeP_of ht).rok j (by omega)
    have hi := rok_id hr
    have hd := rok_dep hr
    have e : dp rs (j + 1) = (rat rs j).dep := rfl
    exact .inr ⟨j, rfl, by omega, by show 0 < (rat rs j).id; omega, by omega⟩
theorem above_next {rs : List RowD} {d : Int} {n j : Nat} (ht : treeB rs = true) (hj : j < rs.length) (h : Above rs d n (j + 1)) : upI rs (rat rs j).id = (nd rs (par (dp rs) (j + 1))).id ∧ Above rs d (n + 1) (par (dp rs) (j + 1)) := by
  have ha := (treeP_of ht).at_self hj
  have hh : hasB rs (rat rs j).id = true := by simp [hasB, ht, ha, hj]
  have hd := (treeP_of ht).deps
  have h1 := par_spec hd (i := j + 1) (by omega) (by omega)
  have h2 := par_dep hd (i := j + 1) (by omega) (by omega)
  refine ⟨by rw [upI_at hh, ha], by omega, ?_⟩
  rw [h2, h.2]; omega
set_option maxRecDepth 100000 in
set_option maxHeartbeats 2000000 in
theorem fnDeep_walk (w : World) (ht : Tab w) (a0 : Option Addr) (len0 cap0 : Nat) (b0 : Bytes w a0 len0 cap0) :
    Calls Tryd.prog 10 #[.slice a0 len0 cap0] w fun e w' => e = .returned (.bool true) ∧ Below w.heap.size w w' := by
  have hz := ht.pos
  have hm : len0 ≤ 9223372036854775807 := by have := Nat.le_trans b0.1 b0.2.1; unfold maxLen at this; omega
  by_cases l0 : (len0 : Int) ≤ 1048576
  · go_enter Tryd.func10, Tryd.ntmps10
    go_wp2_with fail
    refine (drawTreeUp_any _ _ _ _ b0).mono ?_
    rintro e w1 ⟨a, cap, rs, z, rfl, z0, z1, hl, hb⟩
    have hlen := hl.len
    have hfit := Lib.hid hl.fit
    have hr1 := hl.rows
    clear hl b0
    go_wp2_with fail
    refine (specTreeUp_any w1.heap.size _ _ _ _ _ (Nat.le_refl _) hr1 hfit.out).mono ?_
    rintro e w2 ⟨rfl, hb2⟩
    have hr2 := (hr1.below hb2).mono hb2.size
    have b2 : Below w.heap.size w w2 := hb.trans (hb2.mono hb.size)
    have ht2 := ht.below b2 hz
    clear hb2 hr1 hb
    go_wp2_with fail
    refine (implTreeUp_any w2.heap.size _ _ _ _ _ (Nat.le_refl _) hr2 hfit.out ht2).mono ?_
    rintro e w3 ⟨rfl, hb3⟩
    have hr3 := (hr2.below hb3).mono hb3.size
    have b3 : Below w.heap.size w w3 := b2.trans (hb3.mono b2.size)
    clear hb3 hr2 b2 ht2
    cases hh : hasB rs z
    · generalize upI rs z = up
      go_wp2
      go_ret
      exact ⟨rfl, b3⟩
    · have hS := above_start hh
      have hU := upI_at hh
      have hh' := hh
      simp only [hasB, Bool.and_eq_true, decide_eq_true_eq] at hh'
      obtain ⟨hT, hN⟩ := hh'
      have hdp := rok_dep ((treeP_of hT).rok _ hN)
      have HT := Lib.hid hT
      have HA : Hid (atI rs z = (atN rs z : Int)) := atI_pos hN
      have HSt := Lib.hid hS
      have HU := Lib.hid hU
      clear hS hU hh hT
      generalize upI rs z = up at *
      generalize hd : (rat rs (atN rs z)).dep = d at *
      have HD := Lib.hid hd
      clear hd
      go_wp2_with fail
      go_loopw [7, 9] (fun u n wr => ∃ (k c : Nat), u = .int .i64 (nd rs c).id ∧ n = .int .i64 k ∧ Hid (Above rs d k c) ∧ k ≤ 18 ∧ Below w3.heap.size w3 wr) (fun _ n _ => 30 - (intOf n).toNat)
      case atStart => exact ⟨0, par (dp rs) (atN rs z + 1), by rw [HU.out], rfl, HSt.out, by omega, Below.refl _ _⟩
      case round =>
        obtain ⟨k, c, rfl, rfl, hAb, hk, hbr⟩ := hrel
        have hrr := (hr3.below hbr).mono hbr.size
        have br : Below w.heap.size w wr := b3.trans (hbr.mono b3.size)
        have htr := ht.below br hz
        rcases above_dep HT.out hAb.out with ⟨rfl, e1, e2⟩ | ⟨j, rfl, hj, e1, e2⟩
        · rw [e1]
          obtain ⟨g, off, rfl, hg, c0, c1, c2⟩ := hrr.at_ hN
          rw [HD.out, ← e2] at c1
          go_wp2_with fail
          refine (lpAt_any _ _ _ _ _ _ hrr hfit.out).mono ?_
          rintro e w4 ⟨rfl, rfl⟩
          rw [HA.out]
          go_wp2
          go_ret
          exact ⟨rfl, br⟩
        · have hn := above_next HT.out hj hAb.out
          have eid : (nd rs (j + 1)).id = (rat rs j).id := rfl
          rw [eid] at e1 ⊢
          have HN := Lib.hid hn
          clear hn eid
          generalize (rat rs j).id = v at *
          have k30 : (k : Int) < 30 := by omega
          go_wp2_with fail
          refine (implTreeUp_any wr.heap.size _ _ _ _ _ (Nat.le_refl _) hrr hfit.out htr).mono ?_
          rintro e w4 ⟨rfl, hb4⟩
          rw [HN.out.1]
          have HN2 := Lib.hid HN.out.2
          clear HN hAb
          go_wp2
          go_roundw
          case rel => exact ⟨k + 1, par (dp rs) (j + 1), rfl, by go_num, HN2, by omega, hbr.trans (hb4.mono hbr.size)⟩
          case measure => simp [intOf]; omega
  · go_enter Tryd.func10, Tryd.ntmps10
    go_wp2
    go_ret
    exact ⟨rfl, Below.refl _ _⟩
end Go.Proofs.YtiigkjpabbgnpaaDoor
