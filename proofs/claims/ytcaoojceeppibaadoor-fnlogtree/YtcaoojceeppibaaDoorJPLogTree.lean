/-
  The walk of the law FnLogTree out of the contracts. Conditions: the argument reads as bytes; the table 'creators' holds what its initialiser lays.
-/
import Derived.Test.YtcaoojceeppibaaDoorGR
import Derived.Test.YtcaoojceeppibaaDoorGG
import Derived.Test.YtcaoojceeppibaaDoorJLogTK
import Derived.Test.YtcaoojceeppibaaDoorJLpRows
import Derived.Test.YtcaoojceeppibaaDoorJPLogSeq
namespace Go.Proofs.YtcaoojceeppibaaDoor
open Go.ChangeShapes Go.WideShapes Go.ChangeAt Go.RowKit Go.Joins

set_option maxRecDepth 100000 in
set_option maxHeartbeats 4000000 in
theorem fnLogTree_walk (w : World) (ht : Tab w) (a : Option Addr) (len cap : Nat) (hb : Bytes w a len cap) :
    Calls Tryd.prog 10 #[.slice a len cap] w fun e w' => e = .returned (.bool true) ∧ Below w.heap.size w w' := by
  have hz := ht.pos
  by_cases hlen : len ≤ 1048576
  · have i0 : (len : Int) ≤ 1048576 := by omega
    have HD := Lib.hid (drawLogTree_any a len cap w hb)
    clear hb
    go_enter Tryd.func10, Tryd.ntmps10
    go_wp2_with fail
    refine HD.out.mono ?_
    rintro _ w1 ⟨g, oc, es, rfl, L1⟩
    have HI : Hid (∀ (x : World), Logs w x g oc es → Calls Tryd.prog 40 #[.slice (some ⟨g, 0, none⟩) es.length oc] x (RetOwn (ltree es) x)) := fun x hL => implLogTree_any x.heap.size _ _ _ x (Nat.le_refl _) hL.at_ hL.fit (hL.tab ht hz)
    have HS : Hid (∀ (x : World), Logs w x g oc es → Calls Tryd.prog 42 #[.slice (some ⟨g, 0, none⟩) es.length oc] x (RetOwn (ltree es) x)) := fun x hL => specLogTree_any x.heap.size _ _ _ x (Nat.le_refl _) hL.at_ hL.fit hL.cap.1 hL.cap.2
    have HO : Hid (∀ (x : World), Logs w x g oc es → Calls Tryd.prog 33 #[.slice (some ⟨g, 0, none⟩) es.length oc] x (RetBelow (.bool (logB es)) x)) := fun x hL => specLogOk_any x.heap.size _ _ _ x (Nat.le_refl _) hL.at_ hL.fit hL.cap.1 hL.cap.2
    have hel := L1.len
    have hfitE := Lib.hid L1.fit
    have hrl := ltree_len es
    have hrl' : (ltree es).length ≤ 1048576 := by omega
    have HMD : Hid (logB es = true → ∀ i, i < es.length → (eat es i).op.kind = 1 → 0 ≤ atI (ltree es) (eat es i).op.id) := fun hlg i hi hk => atI_there (made_log hlg hi hk)
    have HTR : Hid (logB es = true → ltree es = treeFrom r3 es es.length ∧ treeB (ltree es) = true) := fun hlg => ltree_ok hlg
    have HOPS : Hid (logB es = true → ∀ i, i < es.length → opokB (eat es i).op = true) := fun hlg => log_ops (logB_to hlg).1
    generalize ltree es = res at *
    go_wp2_with fail
    refine (HI.out w1 L1).mono ?_
    rintro _ w2 ⟨ta, tc, rfl, own2, _, hb2⟩
    have L2 := L1.below hb2
    have T2 := rowsAt_own own2
    clear L1 hb2 own2
    go_wp2_with fail
    refine (HS.out w2 L2).mono ?_
    rintro _ w3 ⟨sa, sc, rfl, own3, _, hb3⟩
    have L3 := L2.below hb3
    have T3 := (T2.below hb3).mono hb3.size
    have S3 := rowsAt_own own3
    clear L2 hb3 own3 T2
    go_wp2_with fail
    refine (lpRows_same w3.heap.size _ _ _ _ res w3 (Nat.le_refl _) T3 S3 hrl').mono ?_
    rintro _ w4 ⟨rfl, hb4⟩
    have L4 := L3.below hb4
    have T4 := (T3.below hb4).mono hb4.size
    clear L3 hb4 T3 S3
    go_wp2_with fail
    refine (HO.out w4 L4).mono ?_
    rintro _ w5 ⟨rfl, hb5⟩
    have L5 := L4.below hb5
    have T5 := (T4.below hb5).mono hb5.size
    clear L4 hb5 T4 HO
    cases hlg : logB es
    · go_wp2_with fail
      refine (HS.out w5 L5).mono ?_
      rintro _ w6 ⟨sa, sc, rfl, own6, _, hb6⟩
      have L6 := L5.below hb6
      have T6 := (T5.below hb6).mono hb6.size
      have S6 := rowsAt_own own6
      clear L5 T5 own6 hb6
      go_wp2_with fail
      refine (lpRows_same w6.heap.size _ _ _ _ res w6 (Nat.le_refl _) T6 S6 hrl').mono ?_
      rintro _ w7 ⟨rfl, hb7⟩
      have L7 := L6.below hb7
      go_wp2
      go_ret
      exact ⟨rfl, L7.low⟩
    · have HMD' := Lib.hid (HMD.out hlg)
      have HTR' := Lib.hid (HTR.out hlg)
      have HOP := Lib.hid (HOPS.out hlg)
      have hfr := Lib.hid (tree_fits (HTR.out hlg).2)
      clear hlg HS HI HMD HTR HOPS
      go_wp2_with fail
      refine (implNew_own w5).mono ?_
      rintro _ w6 ⟨ya, yc, rfl, own6, hyc, hb6⟩
      have L6 := L5.below hb6
      have T6 := (T5.below hb6).mono hb6.size
      have X6 := rowsAt_own own6
      clear L5 T5 hb6 own6
      go_wp2_with fail
      go_loopw [5, 6] (fun p t wr => ∃ (k : Nat) (xa : Option Addr) (xc : Nat) (rs : List RowD), k ≤ es.length ∧ t = .int .i64 k ∧ p = .slice xa rs.length xc ∧ Hid (rs = treeFrom r3 es k) ∧ RowsAt wr.heap.size wr xa rs ∧ RowsAt wr.heap.size wr ta res ∧ Logs w wr g oc es) (fun _ t _ => es.length - (intOf t).toNat)
      case atStart => exact ⟨0, ya, yc, r3, Nat.zero_le _, rfl, rfl, rfl, X6, T6, L6⟩
      case round =>
        obtain ⟨k, xa, xc, rs, hk, rfl, rfl, hrs, X7, T7, L7⟩ := hrel
        clear X6 T6 L6
        by_cases hlt : k < es.length
        · have HTB : Hid (treeB rs = true) := by unfold Hid; rw [hrs.out]; exact treeFrom_ok tree_r3 (fun i hi => HOP.out i (by omega))
          have HN : Hid (doT rs (eat es k).op = treeFrom r3 es (k + 1)) := by unfold Hid; rw [doT_ok HTB.out (HOP.out k hlt), hrs.out]; rfl
          have HC := Lib.hid (implOpDo_any wr.heap.size xa xc rs (eat es k).op wr (Nat.le_refl _) X7 (tree_fits HTB.out) (hfitE.out.2 k hlt).op (L7.tab ht hz))
          obtain ⟨_, _, e7, _, c0, c1, c2, c3, c4, c5, c6⟩ := L7.at_.at_ hlt
          cases e7
          simp only [Nat.zero_add] at c0 c1 c2 c3 c4 c5 c6
          have i1 : (k : Int) < (es.length : Int) := by omega
          generalize doT rs (eat es k).op = rs2 at *
          generalize eat es k = e at *
          clear hrs HTB
          go_wp2_with fail
          refine HC.out.mono ?_
          rintro _ w8 ⟨za, zc, rfl, own8, _, hb8⟩
          have L8 := L7.below hb8
          have T8 := (T7.below hb8).mono hb8.size
          have X8 := rowsAt_own own8
          clear L7 T7 X7 own8 hb8 c0 c1 c2 c3 c4 c5 c6 HC
          go_wp2
          go_roundw
          case rel => exact ⟨k + 1, za, zc, rs2, by omega, by go_num, rfl, HN, X8, T8, L8⟩
          case measure => simp [intOf]; omega
        · obtain rfl : k = es.length := by omega
          have hrr : rs = res := by rw [hrs.out, HTR'.out.1]
          subst hrr
          have hfx := hfr
          clear hrs HOP
          go_wp2_with fail
          go_loopw [7] (fun t wx => ∃ k : Nat, k ≤ es.length ∧ t = .int .i64 k ∧ RowsAt wx.heap.size wx xa rs ∧ RowsAt wx.heap.size wx ta rs ∧ Logs w wx g oc es) (fun t _ => es.length - (intOf t).toNat)
          case atStart => exact ⟨0, Nat.zero_le _, rfl, X7, T7, L7⟩
          case round =>
            obtain ⟨k, hk, rfl, X8, T8, L8⟩ := hrel
            clear X7 T7 L7
            by_cases hlt : k < es.length
            · obtain ⟨_, _, e7, _, c0, c1, c2, c3, c4, c5, c6⟩ := L8.at_.at_ hlt
              cases e7
              simp only [Nat.zero_add] at c0 c1 c2 c3 c4 c5 c6
              have i1 : (k : Int) < (es.length : Int) := by omega
              have HMK := Lib.hid (HMD'.out k hlt)
              generalize eat es k = e at *
              by_cases hk1 : e.op.kind = 1
              · have hat := HMK.out hk1
                have HA := Lib.hid (lpAt_any wr.heap.size ta tc rs e.op.id wr T8 hfx.out)
                generalize atI rs e.op.id = z at *
                rw [hk1] at c2
                clear hk1 HMK
                go_wp2_with fail
                refine HA.out.mono ?_
                rintro _ _ ⟨rfl, rfl⟩
                go_wp2
                go_roundw
                case rel => exact ⟨k + 1, by omega, by go_num, X8, T8, L8⟩
                case measure => simp [intOf]; omega
              · have hkb : (e.op.kind == 1) = false := by simpa using hk1
                clear hk1 HMK
                go_wp2
                go_roundw
                case rel => exact ⟨k + 1, by omega, by go_num, X8, T8, L8⟩
                case measure => simp [intOf]; omega
            · go_wp2_with fail
              refine (lpRows_same wr.heap.size _ _ _ _ rs wr (Nat.le_refl _) X8 T8 hrl').mono ?_
              rintro _ w9 ⟨rfl, hb9⟩
              have L9 := L8.below hb9
              have T9 := (T8.below hb9).mono hb9.size
              have HTO := Lib.hid (implTreeOk_any w9.heap.size ta tc rs w9 (Nat.le_refl _) T9 hfx.out (L9.tab ht hz))
              rw [HTR'.out.2] at HTO
              clear L8 T8 X8 hb9
              go_wp2_with fail
              refine HTO.out.mono ?_
              rintro _ wa ⟨rfl, hba⟩
              have La := L9.below hba
              go_wp2
              go_ret
              exact ⟨rfl, La.low⟩
  · have i0 : ¬ (len : Int) ≤ 1048576 := by omega
    go_enter Tryd.func10, Tryd.ntmps10
    go_wp2
    go_ret
    exact ⟨rfl, Below.refl _ _⟩
end Go.Proofs.YtcaoojceeppibaaDoor
