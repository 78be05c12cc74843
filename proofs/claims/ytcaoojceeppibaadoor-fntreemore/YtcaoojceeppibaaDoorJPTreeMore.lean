/-
  The walk of the law FnTreeMore out of the contracts. Conditions: the argument reads as bytes; the table 'creators' holds what its initialiser lays.
-/
import Derived.Test.YtcaoojceeppibaaDoorJPAdd
import Derived.Test.YtcaoojceeppibaaDoorGG
import Derived.Test.YtcaoojceeppibaaDoorJLpRows
import Derived.Deep.RegionHeld3
namespace Go.Proofs.YtcaoojceeppibaaDoor
open Go.ChangeShapes Go.WideShapes Go.ChangeAt Go.RowKit Go.Joins

set_option maxRecDepth 100000 in
set_option maxHeartbeats 8000000 in
theorem fnTreeMore_walk (w : World) (ht : Tab w) (a : Option Addr) (len cap : Nat) (hb : Bytes w a len cap) :
    Calls Tryd.prog 12 #[.slice a len cap] w fun e w' => e = .returned (.bool true) ∧ Below w.heap.size w w' := by
  have hz := ht.pos
  by_cases hlen : len ≤ 1048576
  · have i0 : (len : Int) ≤ 1048576 := by omega
    have HD := Lib.hid (drawLogAdd_any a len cap w hb)
    clear hb
    go_enter Tryd.func12, Tryd.ntmps12
    go_wp2_with fail
    refine HD.out.mono ?_
    rintro _ w1 ⟨g, oc, es, e, rfl, hE, L1⟩
    have HSA : Hid (∀ x : World, Logs w x g oc es → Calls Tryd.prog 30 #[.slice (some ⟨g, 0, none⟩) es.length oc, .agg #[.int .i64 e.who, .int .i64 e.seq, .int .i64 e.op.kind, .int .i64 e.op.id, .int .i64 e.op.up, .int .i64 e.op.at_, .string e.op.txt]] x (RetL (addL es e) (addN es e) x)) := fun x hL => specLogAdd_any g 0 oc es e x hL.hi hL.at_ hL.fit hE.fit hL.cap.1 hL.cap.2
    have HIA : Hid (∀ x : World, Logs w x g oc es → Calls Tryd.prog 31 #[.slice (some ⟨g, 0, none⟩) es.length oc, .agg #[.int .i64 e.who, .int .i64 e.seq, .int .i64 e.op.kind, .int .i64 e.op.id, .int .i64 e.op.up, .int .i64 e.op.at_, .string e.op.txt]] x (RetL (addL es e) (addN es e) x)) := fun x hL => implLogAdd_any g 0 oc es e x hL.hi hL.at_ hL.fit hE.fit (hL.tab ht hz)
    have HNEW : Hid (addN es e = 1 → logB es = true ∧ entB e = true ∧ hasE es e = false ∧ nextB es e = true ∧ addL es e = es ++ [e]) := fun q => add_one q
    have hrl : (addL es e).length ≤ 1048576 := by have := addL_len es e; omega
    have al : Below w1.heap.size w1 (w1.alloc (.cells #[.int .i64 e.who, .int .i64 e.seq, .int .i64 e.op.kind, .int .i64 e.op.id, .int .i64 e.op.up, .int .i64 e.op.at_, .string e.op.txt] 42)) := (Below.refl _ _).alloc (Nat.le_refl _) _
    have L2 := L1.below al
    have X2 := EBx.new w1 e
    have HFE := Lib.hid hE.fit
    have HFL := Lib.hid L1.fit
    have hel := L1.len
    generalize addL es e = res at *
    generalize addN es e = an at *
    clear L1 al hE
    go_upto_region 4 with fail
    generalize w1.alloc (.cells #[.int .i64 e.who, .int .i64 e.seq, .int .i64 e.op.kind, .int .i64 e.op.id, .int .i64 e.op.up, .int .i64 e.op.at_, .string e.op.txt] 42) = w2 at *
    generalize w1.heap.size = eb at *
    obtain ⟨x0, x1, x2, x3, x4, x5, x6⟩ := X2.cells
    go_wp2_with fail
    refine (HSA.out w2 L2).mono ?_
    rintro _ w3 ⟨wa, wk, rfl, own3, hb3⟩
    have L3 := L2.below hb3
    have X3 := X2.below hb3 X2.lt
    have W3 := entsAt_own own3
    clear L2 X2 own3 hb3 HSA x0 x1 x2 x3 x4 x5 x6
    obtain ⟨x0, x1, x2, x3, x4, x5, x6⟩ := X3.cells
    go_wp2_with fail
    refine (HIA.out w3 L3).mono ?_
    rintro _ w4 ⟨xa, xk, rfl, own4, hb4⟩
    have L4 := L3.below hb4
    have X4 := X3.below hb4 X3.lt
    have W4 := (W3.below hb4).mono hb4.size
    have Y4 := entsAt_own own4
    clear L3 X3 W3 own4 hb4 HIA x0 x1 x2 x3 x4 x5 x6
    go_wp2_with fail
    refine (lpLog_same w4.heap.size _ _ _ _ res w4 (Nat.le_refl _) Y4 W4 hrl).mono ?_
    rintro _ w5 ⟨rfl, hb5⟩
    have L5 := L4.below hb5
    have X5 := X4.below hb5 X4.lt
    have W5 := (W4.below hb5).mono hb5.size
    have Y5 := (Y4.below hb5).mono hb5.size
    clear L4 X4 W4 Y4 hb5
    by_cases hn : an = 1
    · obtain ⟨hlg, hen, hha, hnx, hre⟩ := HNEW.out hn
      subst hre
      subst hn
      have HLG := Lib.hid hlg
      have HEN := Lib.hid hen
      have HNX := Lib.hid hnx
      clear HNEW hlg hen hha hnx W5
      have hle : (es ++ [e]).length = es.length + 1 := by simp
      have HTX : Hid (∀ (x : World) (xa' : Option Addr), EntsAt x.heap.size x xa' (es ++ [e]) → Tab x → Calls Tryd.prog 40 #[.slice xa' (es.length + 1) xk] x (RetOwn (doR (ltree es) e.op) x)) := fun x xa' h2 h3 => by
        have r := implLogTree_any x.heap.size xa' xk (es ++ [e]) x (Nat.le_refl _) h2 (snoc_fit HFL.out (by omega) HFE.out) h3
        rw [hle, ltree_snoc HLG.out HEN.out HNX.out] at r; exact r
      have HTL : Hid (∀ (x : World), Logs w x g oc es → Calls Tryd.prog 40 #[.slice (some ⟨g, 0, none⟩) es.length oc] x (RetOwn (ltree es) x)) := fun x hL => implLogTree_any x.heap.size _ _ _ x (Nat.le_refl _) hL.at_ hL.fit (hL.tab ht hz)
      have HDO : Hid (∀ (x : World) (ra : Option Addr) (rc : Nat), RowsAt x.heap.size x ra (ltree es) → Tab x → Calls Tryd.prog 43 #[.slice ra (ltree es).length rc, .agg #[.int .i64 e.op.kind, .int .i64 e.op.id, .int .i64 e.op.up, .int .i64 e.op.at_, .string e.op.txt]] x (RetOwn (doR (ltree es) e.op) x)) := fun x ra rc h2 h3 => by
        have r := implOpDo_any x.heap.size ra rc (ltree es) e.op x (Nat.le_refl _) h2 (tree_fits (ltree_ok HLG.out).2) HFE.out.op h3
        rw [doT_ok (ltree_ok HLG.out).2 (ent_op HEN.out)] at r; exact r
      have hdl : (doR (ltree es) e.op).length ≤ 1048576 := by have := tree_len (do_tree (ltree_ok HLG.out).2 (ent_op HEN.out)); omega
      rw [hle]
      generalize doR (ltree es) e.op = tr at *
      generalize ltree es = tl at *
      have HLEN := Lib.hid hle
      clear hle
      have L6 := L5.drew
      have Y6 : EntsAt w5.drew.heap.size w5.drew xa (es ++ [e]) := Y5
      have hd6 : Below w5.heap.size w5 w5.drew := (Below.refl _ _).drew
      have X6 : EBx w5.drew eb e := X5
      have HB : Hid (∀ x : World, Below w5.heap.size w5 x → x.cell? ⟨eb, 2, none⟩ = some (.int .i64 e.op.kind) ∧ x.cell? ⟨eb, 3, none⟩ = some (.int .i64 e.op.id) ∧ x.cell? ⟨eb, 4, none⟩ = some (.int .i64 e.op.up) ∧ x.cell? ⟨eb, 5, none⟩ = some (.int .i64 e.op.at_) ∧ x.cell? ⟨eb, 6, none⟩ = some (.string e.op.txt)) := fun x hx => by
        obtain ⟨_, _, q2, q3, q4, q5, q6⟩ := (X5.below hx X5.lt).cells
        exact ⟨q2, q3, q4, q5, q6⟩
      obtain ⟨x2, x3, x4, x5, x6⟩ := HB.out w5 (Below.refl _ _)
      obtain ⟨y2, y3, y4, y5, y6⟩ := HB.out w5.drew hd6
      have t6 := L6.tab ht hz
      clear L5 Y5 X5 X6 HLG HEN HNX
      go_wp2_with fail
      go_region_held3 (fun x : World => x.cell? ⟨eb, 2, none⟩ = some (.int .i64 e.op.kind) ∧ x.cell? ⟨eb, 3, none⟩ = some (.int .i64 e.op.id) ∧ x.cell? ⟨eb, 4, none⟩ = some (.int .i64 e.op.up) ∧ x.cell? ⟨eb, 5, none⟩ = some (.int .i64 e.op.at_) ∧ x.cell? ⟨eb, 6, none⟩ = some (.string e.op.txt)) (first | (with_reducible exact ⟨x2, x3, x4, x5, x6⟩) | (with_reducible exact ⟨y2, y3, y4, y5, y6⟩) | (with_reducible exact ⟨n2, n3, n4, n5, n6⟩) | (with_reducible exact ⟨p2, p3, p4, p5, p6⟩) | (with_reducible exact ⟨r2, r3, r4, r5, r6⟩) | (with_reducible exact ⟨s2, s3, s4, s5, s6⟩)) (first
        | (go_at_call 40; (with_reducible refine (HTX.out _ _ Y6 t6).mono ?_); rintro _ w7 ⟨ca, cc, rfl, own7, _, hb7⟩; have T7 := rowsAt_own own7; have L7 := L6.below hb7; have t7 := L7.tab ht hz; have c7 := hd6.trans hb7; obtain ⟨n2, n3, n4, n5, n6⟩ := HB.out w7 c7)
        | (go_at_call 40; (with_reducible refine (HTL.out _ L7).mono ?_); rintro _ w8 ⟨da, dc, rfl, own8, _, hb8⟩; have T8 := (T7.below hb8).mono hb8.size; have U8 := rowsAt_own own8; have L8 := L7.below hb8; have t8 := L8.tab ht hz; have c8 := c7.trans (hb8.mono c7.size); obtain ⟨p2, p3, p4, p5, p6⟩ := HB.out w8 c8)
        | (go_at_call 43; (with_reducible refine (HDO.out _ _ _ U8 t8).mono ?_); rintro _ w9 ⟨fa, fc, rfl, own9, _, hb9⟩; have T9 := (T8.below hb9).mono hb9.size; have V9 := rowsAt_own own9; have L9 := L8.below hb9; have c9 := c8.trans (hb9.mono c8.size); obtain ⟨r2, r3, r4, r5, r6⟩ := HB.out w9 c9)
        | (go_at_call 41; refine (lpRows_same _ _ _ _ _ _ _ (Nat.le_refl _) T9 V9 hdl).mono ?_; rintro _ w10 ⟨rfl, hb10⟩; have L10 := L9.below hb10; have c10 := c9.trans (hb10.mono c9.size); obtain ⟨s2, s3, s4, s5, s6⟩ := HB.out w10 c10))
      all_goals
        go_wp2
        go_ret
        exact ⟨rfl, L10.low⟩
    · have hnb : (an != 1) = true := by simpa using hn
      clear HNEW
      go_wp2_with fail
      refine (lpLog_same w5.heap.size _ _ _ _ res w5 (Nat.le_refl _) Y5 W5 hrl).mono ?_
      rintro _ w6 ⟨rfl, hb6⟩
      have L6 := L5.below hb6
      go_wp2
      go_ret
      exact ⟨rfl, L6.low⟩
  · have i0 : ¬ (len : Int) ≤ 1048576 := by omega
    go_enter Tryd.func12, Tryd.ntmps12
    go_wp2
    go_ret
    exact ⟨rfl, Below.refl _ _⟩
end Go.Proofs.YtcaoojceeppibaaDoor
