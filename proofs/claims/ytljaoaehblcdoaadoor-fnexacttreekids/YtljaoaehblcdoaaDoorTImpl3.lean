/-
  Contract of the program's TreeKids: it answers as the model's, in memory of its own. Conditions: the rows lie in memory as a slice of rows; the table 'creators' holds what its initialiser lays.
-/
import Derived.Test.YtljaoaehblcdoaaDoorTImpl2
namespace Go.Proofs.YtljaoaehblcdoaaDoor
open Go.ChangeShapes Go.WideShapes Go.ChangeAt Go.RowKit Go.Joins

theorem kidsOf_skip {rs : List RowD} {x : Nat} : ∀ k s, (∀ j, s ≤ j → j < s + k → rdep rs j ≠ rdep rs x + 1) → kidsOf rs x s k = []
  | 0, s, _ => rfl
  | k + 1, s, h => by
    rw [kidsOf, if_neg (h s (Nat.le_refl _) (by omega)), kidsOf_skip k (s + 1) (fun j h1 h2 => h j (by omega) (by omega))]; rfl
theorem kidsOf_add (rs : List RowD) (x : Nat) : ∀ a s b, kidsOf rs x s (a + b) = kidsOf rs x s a ++ kidsOf rs x (s + a) b
  | 0, s, b => by simp [kidsOf]
  | a + 1, s, b => by
    rw [show a + 1 + b = (a + b) + 1 by omega, kidsOf, kidsOf, kidsOf_add rs x a (s + 1) b, List.append_assoc, show s + 1 + a = s + (a + 1) by omega]
theorem kids_jump {rs : List RowD} {x c c' : Nat} (h1 : x + 2 ≤ c) (h2 : c < c') (h3 : rdep rs (c - 1) = rdep rs x + 1) (h4 : ∀ j, c ≤ j → j < c' - 1 → rdep rs x + 1 < rdep rs j) :
    kidsOf rs x (x + 1) (c' - (x + 2)) = kidsOf rs x (x + 1) (c - (x + 2)) ++ [(rat rs (c - 1)).id] := by
  rw [show c' - (x + 2) = (c - (x + 2)) + (1 + (c' - 1 - c)) by omega, kidsOf_add, kidsOf_add, show x + 1 + (c - (x + 2)) = c - 1 by omega, show c - 1 + 1 = c by omega,
    kidsOf_skip (c' - 1 - c) c (fun j a b => by have := h4 j a (by omega); omega)]
  simp [kidsOf, h3]
theorem kidsT_no {rs : List RowD} {id : Int} (h : hasB rs id = false) : kidsT rs id = [] := by
  unfold kidsT
  cases ht : treeB rs
  · rfl
  · simp only [hasB, ht, Bool.true_and, decide_eq_false_iff_not] at h
    exact kidsL_no h
theorem kidsT_yes {rs : List RowD} {id : Int} (h : hasB rs id = true) : kidsT rs id = kidsOf rs (atN rs id) (atN rs id + 1) (enR rs (atN rs id) + 1 - (atN rs id + 2)) := by
  obtain ⟨h1, h2⟩ := hasB_iff.1 h
  unfold kidsT
  rw [h1, if_pos rfl, kidsL_yes h2]
  congr 1
  omega
set_option maxRecDepth 100000 in
set_option maxHeartbeats 1000000 in
theorem implTreeKids_any (B : Nat) (a : Option Addr) (cap : Nat) (rs : List RowD) (id : Int) (w : World) (hB : B ≤ w.heap.size) (h : RowsAt B w a rs) (hf : Fit rs) (ht : Tab w) :
    Calls Tryd.prog 23 #[.slice a rs.length cap, .int .i64 id] w (RetInts (kidsT rs id) w) := by
  have hl := hf.1
  obtain ⟨i0, hi, hz0, hz1, hz2⟩ := info_parts infoInt
  cases hh : hasB rs id
  · have HF := Lib.hid (fnd_no hh)
    have HU := Lib.hid (kidsT_no hh)
    clear hh
    go_enter Tryd.func23, Tryd.ntmps23
    go_wp2_with fail
    refine (treeOf_any B _ _ _ _ hB h hf ht).mono ?_
    rintro e w1 ⟨nb, rfl, _, hN, hb1⟩
    go_wp2_with fail
    refine (find_any nb rs id w1 hN).mono ?_
    rintro e w2 ⟨rfl, hb2⟩
    rw [HF.out]
    simp only [padr]
    go_wp2
    go_ret
    exact ⟨_, rfl, by rw [HU.out]; exact World.ownsRow_nil _ _ _ _, hb1.trans (hb2.mono hb1.size)⟩
  · have HF := Lib.hid (fnd_yes hh)
    have HU := Lib.hid (kidsT_yes hh)
    obtain ⟨htb, hat⟩ := hasB_iff.1 hh
    have hD := (treeP_of htb).deps
    have HM := Lib.hid (nodesN_tree htb)
    clear hh htb
    generalize atN rs id = x at *
    have hE : en (dp rs) (rs.length + 1) (x + 1) = enR rs x + 1 := en_shift hat
    obtain ⟨e1, e2, e3, e4⟩ := en_spec (D := dp rs) (m := rs.length + 1) (show x + 1 < rs.length + 1 by omega)
    have hfi := fi_eq hD (show x + 1 < rs.length + 1 by omega)
    rw [hE] at e1 e2 e3 e4 hfi
    have HD := Lib.hid hD
    have HE := Lib.hid hE
    have HFI := Lib.hid hfi
    have HE3 := Lib.hid e3
    clear hD hE hfi e3 e4
    go_enter Tryd.func23, Tryd.ntmps23
    go_wp2_with fail
    refine (treeOf_any B _ _ _ _ hB h hf ht).mono ?_
    rintro e w1 ⟨nb, rfl, _, hN, hb1⟩
    go_wp2_with fail
    refine (find_any nb rs id w1 hN).mono ?_
    rintro e w2 ⟨rfl, hb2⟩
    rw [HF.out]
    simp only [padr]
    have b2 := hb1.trans (hb2.mono hb1.size)
    have hN2 : Nodes w2 nb rs (nodesN rs) := hN.below hb2
    rw [HM.out] at hN2
    have l6 := (hN2.links (show x + 1 < rs.length + 1 by omega)).2.2.2.1
    rw [HFI.out, padr_kid] at l6
    clear hN hb1 hb2
    go_wp2_with fail
    go_loopg [6, 7] (enR rs x + 1) (fun k v p wx => ∃ c : Nat, k + c = enR rs x + 1 + (x + 2) ∧ x + 2 ≤ c ∧ c ≤ enR rs x + 1 ∧ p = .pointer (kidP nb c (enR rs x + 1)) ∧ Hid (c < enR rs x + 1 → par (dp rs) c = x + 1) ∧
      wx.ownsRow w2.heap.size 3 1 v (kidsOf rs x (x + 1) (c - (x + 2))).length ((kidsOf rs x (x + 1) (c - (x + 2))).map (Value.int .i64)) ∧ Below w2.heap.size w2 wx)
    case atStart =>
      refine ⟨x + 2, by omega, Nat.le_refl _, by omega, rfl, fun hc => ?_, by rw [Nat.sub_self]; exact World.ownsRow_nil _ _ _ _, Below.refl _ _⟩
      refine (isKid_iff.1 ((kid_iff HD.out (show x + 1 < rs.length + 1 by omega) (show x + 2 < rs.length + 1 by omega)).2 ⟨by omega, by rw [HE.out]; exact hc, ?_⟩)).2
      have s := HD.out.step (x + 2) (by omega) (by omega)
      have := HE3.out (x + 2) (by omega) hc
      rw [show x + 2 - 1 = x + 1 by omega] at s; omega
    case round =>
      obtain ⟨c, hkc, hc1, hc2, rfl, hpar, hown, hbx⟩ := hrel
      have hNx : Nodes wr nb rs (rs.length + 1) := ⟨fun i hi => by rw [hbx.block _ (hN2.lt hi)]; exact hN2.blk i hi, hN2.inj⟩
      obtain ⟨sa, sc, rfl, _⟩ := own_slice hown
      by_cases hlt : c < enR rs x + 1
      · rw [kidP_yes hlt]
        have hcm : c < rs.length + 1 := by omega
        have hp := hpar.out hlt
        obtain ⟨f1, f2, f3, f4⟩ := en_spec (D := dp rs) hcm
        have hek := en_kid HD.out (show 1 ≤ c by omega) hcm
        rw [hp, HE.out] at hek
        have hdp := par_dep HD.out (show 1 ≤ c by omega) hcm
        rw [hp] at hdp
        have hnx := nx_eq HD.out (show 1 ≤ c by omega) hcm
        rw [hp, HE.out] at hnx
        have l5 := (hNx.links hcm).2.2.1
        have enx : padr nb (nxO rs (rs.length + 1) c) = kidP nb (en (dp rs) (rs.length + 1) c) (enR rs x + 1) := by
          unfold nxO; rw [if_neg (by omega), hnx, padr_kid]
        rw [enx] at l5
        have r0 : wr.cell? ⟨nb c, 0, none⟩ = some (.int .i64 (rat rs (c - 1)).id) := by
          have := (hNx.row hcm).1
          obtain ⟨c', rfl⟩ : ∃ c', c = c' + 1 := ⟨c - 1, by omega⟩
          exact this
        have hpar' : Hid (en (dp rs) (rs.length + 1) c < enR rs x + 1 → par (dp rs) (en (dp rs) (rs.length + 1) c) = x + 1) := fun g => by
          have d2 := f4 (by omega)
          have d3 := HE3.out _ (by omega) g
          exact (isKid_iff.1 ((kid_iff HD.out (show x + 1 < rs.length + 1 by omega) (by omega)).2 ⟨by omega, by rw [HE.out]; exact g, by omega⟩)).2
        have HJ : Hid (kidsOf rs x (x + 1) (en (dp rs) (rs.length + 1) c - (x + 2)) = kidsOf rs x (x + 1) (c - (x + 2)) ++ [(rat rs (c - 1)).id]) := by
          have hdd : dp rs c = rdep rs (c - 1) := by
            obtain ⟨c', rfl⟩ : ∃ c', c = c' + 1 := ⟨c - 1, by omega⟩
            rfl
          have hdx : dp rs (x + 1) = rdep rs x := rfl
          refine kids_jump hc1 (by omega) (by omega) (fun j a b => ?_)
          have := f3 (j + 1) (by omega) (by omega)
          have t : dp rs (j + 1) = rdep rs j := rfl
          omega
        have hkl := kidsOf_len rs x (c - (x + 2)) (x + 1)
        have hNlt := hNx.lt hcm
        clear enx hnx hdp hp f3 f4
        have hroundM : enR rs x + 1 + (x + 2) - en (dp rs) (rs.length + 1) c < gk := by omega
        generalize en (dp rs) (rs.length + 1) c = c' at *
        go_wp2_with (at_builtin; refine wpList_append_own _ rfl _ _ 40 rfl w2.heap.size 3 i0 (.int .i64 0) 1 8 Tryd.underlying40 hi hz0 hz1 hz2 rfl (by decide) _ _ _ rfl (hown.alloc _) ⟨wr.heap.size, 0, none⟩ 1 1 [.int .i64 (rat rs (c - 1)).id] rfl rfl ?c1 ?c2 ?c3 ?c4 ?c5 ?_)
        case c1 => exact cell_one_new wr _ _
        case c2 => intro u hu; simp at hu; subst hu; rfl
        case c3 => unfold maxLen; omega
        case c4 => omega
        case c5 => have := hbx.size; simp; omega
        intro v' w4 hown2 hgrow _
        have hb4 : Below w2.heap.size w2 w4 := (hbx.alloc hbx.size (.cells #[.int .i64 (rat rs (c - 1)).id] 3)).grown hgrow (by have := hbx.size; simp; omega) (own_block hown)
        obtain ⟨va, vc, rfl, _⟩ := own_slice hown2
        have hown3 := own_snoc hown2
        have l5' : w4.cell? ⟨nb c, 5, none⟩ = some (.pointer (kidP nb c' (enR rs x + 1))) := by
          have e1 := hb4.cell (p := ⟨nb c, 5, none⟩) (hN2.lt hcm)
          have e2 := hbx.cell (p := ⟨nb c, 5, none⟩) (hN2.lt hcm)
          rw [e1, ← e2]; exact l5
        clear hown2 hgrow hown
        go_wp2
        go_roundg (enR rs x + 1 + (x + 2) - c')
        case measure => exact hroundM
        case rel => exact ⟨c', by omega, by omega, by omega, rfl, hpar', by rw [HJ.out]; exact hown3, hb4⟩
      · rw [kidP_no hlt]
        obtain rfl : c = enR rs x + 1 := by omega
        go_wp2
        go_ret
        exact ⟨_, rfl, by rw [HU.out]; exact own_mono hown b2.size, b2.trans (hbx.mono b2.size)⟩
end Go.Proofs.YtljaoaehblcdoaaDoor
