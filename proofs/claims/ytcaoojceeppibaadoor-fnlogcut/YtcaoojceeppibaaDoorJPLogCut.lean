/-
  The walk of the law FnLogCut out of the contracts. Conditions: the arguments read as bytes; the table 'creators' holds what its initialiser lays.
-/
import Derived.Test.YtcaoojceeppibaaDoorJPLogTree
namespace Go.Proofs.YtcaoojceeppibaaDoor
open Go.ChangeShapes Go.WideShapes Go.ChangeAt Go.RowKit Go.Joins

theorem fit_take {es : List EntD} (h : EntsFit es) (k : Nat) : EntsFit (es.take k) := by
  refine ⟨by have := h.1; simp; omega, fun i hi => ?_⟩
  simp at hi
  rw [eat_take (by omega)]; exact h.2 i (by omega)
theorem logB_nil : logB [] = true := rfl
theorem fit_nil : EntsFit [] := ⟨by simp, fun i hi => by simp at hi⟩
set_option maxRecDepth 100000 in
set_option maxHeartbeats 4000000 in
theorem fnLogCut_walk (w : World) (ht : Tab w) (a : Option Addr) (len cap : Nat) (hb : Bytes w a len cap) (a2 : Option Addr) (len2 cap2 : Nat) (hb2 : Bytes w a2 len2 cap2) :
    Calls Tryd.prog 11 #[.slice a len cap, .slice a2 len2 cap2] w fun e w' => e = .returned (.bool true) ∧ Below w.heap.size w w' := by
  have hz := ht.pos
  have hm2 := hb2.1
  have hm3 := hb2.2.1
  unfold maxLen at hm3
  by_cases hlen : len ≤ 1048576
  · have i0 : (len : Int) ≤ 1048576 := by omega
    by_cases hlen2 : len2 ≤ 1048576
    · have i02 : (len2 : Int) ≤ 1048576 := by omega
      have HD := Lib.hid (drawLogOk_any a len cap w hb)
      clear hb hb2
      go_enter Tryd.func11, Tryd.ntmps11
      go_wp2_with fail
      refine HD.out.mono ?_
      rintro _ w1 ⟨g, oc, es, rfl, L1⟩
      have HI : Hid (∀ (x : World), Logs w x g oc es → Calls Tryd.prog 36 #[.slice (some ⟨g, 0, none⟩) es.length oc] x (RetBelow (.bool (logB es)) x)) := fun x hL => implLogOk_any x.heap.size _ _ _ x (Nat.le_refl _) hL.at_ hL.fit (hL.tab ht hz)
      have HO : Hid (∀ (x : World), Logs w x g oc es → Calls Tryd.prog 33 #[.slice (some ⟨g, 0, none⟩) es.length oc] x (RetBelow (.bool (logB es)) x)) := fun x hL => specLogOk_any x.heap.size _ _ _ x (Nat.le_refl _) hL.at_ hL.fit hL.cap.1 hL.cap.2
      have hel := L1.len
      have hoc := L1.cap
      unfold maxLen at hoc
      obtain ⟨hoc1, hoc2⟩ := hoc
      go_wp2_with fail
      refine (HI.out w1 L1).mono ?_
      rintro _ w2 ⟨rfl, hb2⟩
      have L2 := L1.below hb2
      clear L1 hb2
      go_wp2_with fail
      refine (HO.out w2 L2).mono ?_
      rintro _ w3 ⟨rfl, hb3⟩
      have L3 := L2.below hb3
      clear L2 hb3
      cases hlg : logB es
      · rw [hlg] at HO
        go_wp2_with fail
        refine (HO.out w3 L3).mono ?_
        rintro _ w4 ⟨rfl, hb4⟩
        have L4 := L3.below hb4
        go_wp2
        go_ret
        exact ⟨rfl, L4.low⟩
      · have HLG := Lib.hid hlg
        clear hlg HO HI
        obtain ⟨k, hkm, hk⟩ : ∃ k : Nat, ((len2 : Int) % ((es.length : Int) + 1)) = (k : Int) ∧ k ≤ es.length := ⟨len2 % (es.length + 1), by simp, Nat.le_of_lt_succ (Nat.mod_lt _ (by omega))⟩
        go_upto_region 8 with fail
        rw [hkm]
        clear hkm
        have hlk : (es.take k).length = k := by simp; omega
        have HTK : Hid (∀ (x : World), Logs w x g oc es → Calls Tryd.prog 40 #[.slice (some ⟨g, 0, none⟩) k oc] x (RetOwn (ltree (es.take k)) x)) := fun x hL => by
          have := implLogTree_any x.heap.size (some ⟨g, 0, none⟩) oc (es.take k) x (Nat.le_refl _) (hL.at_.take k) (fit_take hL.fit k) (hL.tab ht hz)
          rw [hlk] at this; exact this
        have HOK : Hid (∀ (x : World), Logs w x g oc es → Calls Tryd.prog 36 #[.slice (some ⟨g, 0, none⟩) k oc] x (RetBelow (.bool true) x)) := fun x hL => by
          have := implLogOk_any x.heap.size (some ⟨g, 0, none⟩) oc (es.take k) x (Nat.le_refl _) (hL.at_.take k) (fit_take hL.fit k) (hL.tab ht hz)
          rw [hlk, logB_take HLG.out hk] at this; exact this
        have HTU : Hid (∀ (x : World), Logs w x g oc es → Calls Tryd.prog 40 #[.slice (some ⟨g, 0, none⟩) es.length oc] x (RetOwn (ltree es) x)) := fun x hL => implLogTree_any x.heap.size _ _ _ x (Nat.le_refl _) hL.at_ hL.fit (hL.tab ht hz)
        have HNIL : Hid (∀ (x : World), Logs w x g oc es → Calls Tryd.prog 36 #[.slice none 0 0] x (RetBelow (.bool true) x)) := fun x hL => implLogOk_any x.heap.size none 0 [] x (Nat.le_refl _) (.inl rfl) fit_nil (hL.tab ht hz)
        have HKEEP : Hid (∀ j, j < (ltree (es.take k)).length → 0 ≤ atI (ltree es) (rat (ltree (es.take k)) j).id) := fun j hj => atI_there (cut_keep HLG.out hk hj)
        have HF1 := Lib.hid (tree_fits (ltree_ok HLG.out).2)
        have HF2 := Lib.hid (tree_fits (ltree_ok (logB_take HLG.out hk)).2)
        have HT2 := Lib.hid (ltree_ok (logB_take HLG.out hk)).2
        have hr1 := ltree_len (es.take k)
        have hr2 := ltree_len es
        generalize ltree (es.take k) = tk at *
        generalize ltree es = tu at *
        have ik : (k : Int) ≤ (oc : Int) := by omega
        have HLK := Lib.hid hlk
        clear hlk
        go_wp2_with fail
        refine (HTK.out w3 L3).mono ?_
        rintro _ w4 ⟨ta, tc, rfl, own4, _, hb4⟩
        have L4 := L3.below hb4
        have T4 := rowsAt_own own4
        clear L3 own4 hb4
        go_wp2_with fail
        refine (HTU.out w4 L4).mono ?_
        rintro _ w5 ⟨ua, uc, rfl, own5, _, hb5⟩
        have L5 := L4.below hb5
        have T5 := (T4.below hb5).mono hb5.size
        have U5 := rowsAt_own own5
        clear L4 T4 own5 hb5
        go_wp2_with fail
        go_loopw [10] (fun t wr => ∃ j : Nat, j ≤ tk.length ∧ t = .int .i64 j ∧ RowsAt wr.heap.size wr ta tk ∧ RowsAt wr.heap.size wr ua tu ∧ Logs w wr g oc es) (fun t _ => tk.length - (intOf t).toNat)
        case atStart => exact ⟨0, Nat.zero_le _, rfl, T5, U5, L5⟩
        case round =>
          obtain ⟨j, hj, rfl, T6, U6, L6⟩ := hrel
          clear T5 U5 L5
          by_cases hlt : j < tk.length
          · have HKJ := Lib.hid (HKEEP.out j hlt)
            have HA := Lib.hid (lpAt_any wr.heap.size ua uc tu (rat tk j).id wr U6 HF1.out)
            obtain ⟨b6, o6, rfl, hb6, c0, _, _⟩ := T6.at_ hlt
            have i1 : (j : Int) < (tk.length : Int) := by omega
            generalize (rat tk j).id = id at *
            have hat := HKJ.out
            generalize atI tu id = z at *
            clear HKJ
            go_wp2_with fail
            refine HA.out.mono ?_
            rintro _ _ ⟨rfl, rfl⟩
            go_wp2
            go_roundw
            case rel => exact ⟨j + 1, by omega, by go_num, T6, U6, L6⟩
            case measure => simp [intOf]; omega
          · go_wp2_with fail
            refine (HOK.out wr L6).mono ?_
            rintro _ w7 ⟨rfl, hb7⟩
            have L7 := L6.below hb7
            have T7 := (T6.below hb7).mono hb7.size
            have HTO := Lib.hid (implTreeOk_any w7.heap.size ta tc tk w7 (Nat.le_refl _) T7 HF2.out (L7.tab ht hz))
            rw [HT2.out] at HTO
            clear L6 T6 U6 hb7
            go_wp2_with fail
            refine HTO.out.mono ?_
            rintro _ w8 ⟨rfl, hb8⟩
            have L8 := L7.below hb8
            clear L7 T7 hb8
            go_wp2_with fail
            refine (HNIL.out w8 L8).mono ?_
            rintro _ w9 ⟨rfl, hb9⟩
            have L9 := L8.below hb9
            go_wp2
            go_ret
            exact ⟨rfl, L9.low⟩
    · have i02 : ¬ (len2 : Int) ≤ 1048576 := by omega
      go_enter Tryd.func11, Tryd.ntmps11
      go_wp2
      go_ret
      exact ⟨rfl, Below.refl _ _⟩
  · have i0 : ¬ (len : Int) ≤ 1048576 := by omega
    go_enter Tryd.func11, Tryd.ntmps11
    go_wp2
    go_ret
    exact ⟨rfl, Below.refl _ _⟩
end Go.Proofs.YtcaoojceeppibaaDoor
