/-
  The walk of the law FnLogGap out of the contracts. Conditions: the argument reads as bytes; the table 'creators' holds what its initialiser lays.
-/
import Derived.Test.YtcaoojceeppibaaDoorJPAdd
namespace Go.Proofs.YtcaoojceeppibaaDoor
open Go.ChangeShapes Go.WideShapes Go.ChangeAt Go.RowKit Go.Joins

def farE (e : EntD) : EntD := ⟨e.who, e.seq + 1, e.op⟩
def othE (e : EntD) : EntD := ⟨e.who, e.seq, ⟨2, 36, 0, 0, ⟨#[100, 100, 100, 100]⟩⟩⟩
theorem far_gap {es : List EntD} {e : EntD} (h1 : logB es = true) (h2 : entB e = true) (h3 : nextB es e = true) (h4 : e.seq + 1 ≤ 40) : addL es (farE e) = es ∧ addN es (farE e) = -1 := by
  have hn := h3
  simp only [nextB, Bool.and_eq_true, beq_iff_eq, decide_eq_true_eq] at hn
  have hen : entB (farE e) = true := by
    have hs := ent_seq h2
    simp only [entB, Bool.and_eq_true] at h2 ⊢
    exact ⟨⟨⟨h2.1.1.1, (inB_iff _ _ _).2 ⟨by show 1 ≤ e.seq + 1; omega, h4⟩⟩, h2.1.2⟩, h2.2⟩
  refine add_gap (by unfold okAdd; rw [h1, hen]; rfl) ?_ ?_
  · rw [Bool.eq_false_iff]; intro g
    have := has_seq h1 g
    have h5 : (farE e).seq = e.seq + 1 := rfl
    have h6 : (farE e).who = e.who := rfl
    rw [h5, h6] at this; omega
  · simp only [nextB, farE, Bool.and_eq_false_iff, beq_eq_false_iff_ne]
    left; omega
theorem oth_ent {e : EntD} (h2 : entB e = true) : entB (othE e) = true := by
  have hw := ent_who h2
  have hs := ent_seq h2
  have ho : opokB (othE e).op = true := by
    show opokB ⟨2, 36, 0, 0, ⟨#[100, 100, 100, 100]⟩⟩ = true
    decide
  have hm : mineB (othE e) = true := by
    show (!((2 : Int) == 1) || _) = true
    rfl
  unfold entB
  rw [ho, hm, (inB_iff _ _ _).2 (show 1 ≤ (othE e).who ∧ (othE e).who ≤ 3 from hw), (inB_iff _ _ _).2 (show 1 ≤ (othE e).seq ∧ (othE e).seq ≤ 40 from hs)]
  rfl
theorem oth_gap {es : List EntD} {e : EntD} (h1 : logB es = true) (h2 : entB e = true) (h3 : nextB es e = true) (hd : sameB (othE e) e = false) : addL (es ++ [e]) (othE e) = es ++ [e] ∧ addN (es ++ [e]) (othE e) = -1 := by
  have hn := h3
  simp only [nextB, Bool.and_eq_true, beq_iff_eq, decide_eq_true_eq] at hn
  have h4 := logB_snoc h1 h2 h3
  have hw : (othE e).who = e.who := rfl
  have hsq : (othE e).seq = e.seq := rfl
  refine add_gap (by unfold okAdd; rw [h4, oth_ent h2]; rfl) ?_ ?_
  · rw [Bool.eq_false_iff]; intro g
    simp only [hasE, hasTo, List.any_eq_true, List.mem_range] at g
    obtain ⟨i, hi, hs⟩ := g
    have hs' := sameB_iff.1 hs
    simp at hi
    by_cases q : i < es.length
    · rw [eat_app_left q] at hs'
      have := seq_le (logB_to h1).1 q
      rw [hs', hw, hsq] at this
      omega
    · obtain rfl : i = es.length := by omega
      rw [eat_app_last] at hs'
      rw [← hs', sameB_iff.2 rfl] at hd; cases hd
  · simp only [nextB, Bool.and_eq_false_iff, beq_eq_false_iff_ne]
    left
    rw [hw, hsq, cnt_snoc, if_pos rfl]
    omega
set_option maxRecDepth 100000 in
set_option maxHeartbeats 8000000 in
theorem fnLogGap_walk (w : World) (ht : Tab w) (a : Option Addr) (len cap : Nat) (hb : Bytes w a len cap) :
    Calls Tryd.prog 13 #[.slice a len cap] w fun e w' => e = .returned (.bool true) ∧ Below w.heap.size w w' := by
  have hz := ht.pos
  by_cases hlen : len ≤ 1048576
  · have i0 : (len : Int) ≤ 1048576 := by omega
    have HD := Lib.hid (drawLogAdd_any a len cap w hb)
    clear hb
    go_enter Tryd.func13, Tryd.ntmps13
    go_wp2_with fail
    refine HD.out.mono ?_
    rintro _ w1 ⟨g, oc, es, e, rfl, hE, L1⟩
    have HSA : Hid (∀ x : World, Logs w x g oc es → Calls Tryd.prog 30 #[.slice (some ⟨g, 0, none⟩) es.length oc, .agg #[.int .i64 e.who, .int .i64 e.seq, .int .i64 e.op.kind, .int .i64 e.op.id, .int .i64 e.op.up, .int .i64 e.op.at_, .string e.op.txt]] x (RetL (addL es e) (addN es e) x)) := fun x hL => specLogAdd_any g 0 oc es e x hL.hi hL.at_ hL.fit hE.fit hL.cap.1 hL.cap.2
    have HIA : Hid (∀ x : World, Logs w x g oc es → Calls Tryd.prog 31 #[.slice (some ⟨g, 0, none⟩) es.length oc, .agg #[.int .i64 e.who, .int .i64 e.seq, .int .i64 e.op.kind, .int .i64 e.op.id, .int .i64 e.op.up, .int .i64 e.op.at_, .string e.op.txt]] x (RetL (addL es e) (addN es e) x)) := fun x hL => implLogAdd_any g 0 oc es e x hL.hi hL.at_ hL.fit hE.fit (hL.tab ht hz)
    have HNEW : Hid (addN es e = 1 → logB es = true ∧ entB e = true ∧ hasE es e = false ∧ nextB es e = true ∧ addL es e = es ++ [e]) := fun q => add_one q
    have hrl : (addL es e).length ≤ 1048576 := by have := addL_len es e; omega
    have al : Below w1.heap.size w1 (w1.alloc (.cells #[.int .i64 e.who, .int .i64 e.seq, .int .i64 e.op.kind, .int .i64 e.op.id, .int .i64 e.op.up, .int .i64 e.op.at_, .string e.op.txt] 42)) := (Below.refl _ _).alloc (Nat.le_refl _) _
    have L2 := L1.below al
    have X2 := EBx.new w1 e
    have HFE := Lib.hid hE.fit
    have HFL := Lib.hid L1.fit
    have hel := L1.len
    generalize addL es e = res at *
    generalize addN es e = an at *
    clear L1 al hE
    go_upto_region 4 with fail
    generalize w1.alloc (.cells #[.int .i64 e.who, .int .i64 e.seq, .int .i64 e.op.kind, .int .i64 e.op.id, .int .i64 e.op.up, .int .i64 e.op.at_, .string e.op.txt] 42) = w2 at *
    generalize w1.heap.size = eb at *
    obtain ⟨x0, x1, x2, x3, x4, x5, x6⟩ := X2.cells
    go_wp2_with fail
    refine (HSA.out w2 L2).mono ?_
    rintro _ w3 ⟨wa, wk, rfl, own3, hb3⟩
    have L3 := L2.below hb3
    have X3 := X2.below hb3 X2.lt
    have W3 := entsAt_own own3
    clear L2 X2 own3 hb3 HSA x0 x1 x2 x3 x4 x5 x6
    obtain ⟨x0, x1, x2, x3, x4, x5, x6⟩ := X3.cells
    go_wp2_with fail
    refine (HIA.out w3 L3).mono ?_
    rintro _ w4 ⟨xa, xk, rfl, own4, hb4⟩
    have L4 := L3.below hb4
    have X4 := X3.below hb4 X3.lt
    have W4 := (W3.below hb4).mono hb4.size
    have Y4 := entsAt_own own4
    clear L3 X3 W3 own4 hb4 HIA x0 x1 x2 x3 x4 x5 x6
    go_wp2_with fail
    refine (lpLog_same w4.heap.size _ _ _ _ res w4 (Nat.le_refl _) Y4 W4 hrl).mono ?_
    rintro _ w5 ⟨rfl, hb5⟩
    have L5 := L4.below hb5
    have X5 := X4.below hb5 X4.lt
    have W5 := (W4.below hb5).mono hb5.size
    have Y5 := (Y4.below hb5).mono hb5.size
    clear L4 X4 W4 Y4 hb5
    by_cases hn : an = 1
    · obtain ⟨hlg, hen, hha, hnx, hre⟩ := HNEW.out hn
      subst hre
      subst hn
      have HLG := Lib.hid hlg
      have HEN := Lib.hid hen
      have HNX := Lib.hid hnx
      clear HNEW hlg hen hha hnx
      have hle : (es ++ [e]).length = es.length + 1 := by simp
      have HLEN := Lib.hid hle
      have hsq := (ent_seq HEN.out)
      obtain ⟨x0, x1, x2, x3, x4, x5, x6⟩ := X5.cells
      by_cases hmx : e.seq + 1 ≤ 40
      · have HFR : Hid (∀ x : World, Logs w x g oc es → Calls Tryd.prog 31 #[.slice (some ⟨g, 0, none⟩) es.length oc, .agg #[.int .i64 e.who, .int .i64 (e.seq + 1), .int .i64 e.op.kind, .int .i64 e.op.id, .int .i64 e.op.up, .int .i64 e.op.at_, .string e.op.txt]] x (RetL es (-1) x)) := fun x hL => by
          have hff : EFit (farE e) := ⟨HFE.out.who, ⟨by show _ ≤ e.seq + 1; omega, by show e.seq + 1 ≤ _; omega⟩, HFE.out.op⟩
          have q := implLogAdd_any g 0 oc es (farE e) x hL.hi hL.at_ hL.fit hff (hL.tab ht hz)
          have q2 := far_gap HLG.out HEN.out HNX.out hmx
          refine q.mono fun r w' hq => ?_
          unfold RetAdd at hq
          rw [q2.1, q2.2] at hq
          exact hq
        have hof : EFit (othE e) := ⟨HFE.out.who, HFE.out.seq, opok_fit (ent_op (oth_ent HEN.out))⟩
        have HOT : Hid (∀ (x : World) (b6 o6 : Nat), b6 < x.heap.size → EntsAt x.heap.size x (some ⟨b6, o6, none⟩) (es ++ [e]) → Tab x → Calls Tryd.prog 31 #[.slice (some ⟨b6, o6, none⟩) (es.length + 1) xk, .agg #[.int .i64 e.who, .int .i64 e.seq, .int .i64 2, .int .i64 36, .int .i64 0, .int .i64 0, .string ⟨#[100, 100, 100, 100]⟩]] x (RetL (addL (es ++ [e]) (othE e)) (addN (es ++ [e]) (othE e)) x)) := fun x b6 o6 h1 h2 h3 => by
          have q := implLogAdd_any b6 o6 xk (es ++ [e]) (othE e) x h1 h2 (snoc_fit HFL.out (by omega) HFE.out) hof h3
          rw [hle] at q
          exact q
        have HSM : Hid (sameB (othE e) e = false → addL (es ++ [e]) (othE e) = es ++ [e] ∧ addN (es ++ [e]) (othE e) = -1) := fun q => oth_gap HLG.out HEN.out HNX.out q
        have hol := addL_len (es ++ [e]) (othE e)
        generalize addL (es ++ [e]) (othE e) = ol at *
        generalize addN (es ++ [e]) (othE e) = on at *
        obtain ⟨bx, ox, rfl, hbx, _⟩ := Y5.at_ (i := 0) (by simp)
        rw [hle]
        clear hle W5 hof
        have al6 : Below w5.heap.size w5 (w5.alloc (.cells #[.int .i64 e.who, .int .i64 (e.seq + 1), .int .i64 e.op.kind, .int .i64 e.op.id, .int .i64 e.op.up, .int .i64 e.op.at_, .string e.op.txt] 42)) := (Below.refl _ _).alloc (Nat.le_refl _) _
        have L6 := L5.below al6
        have X6 := X5.below al6 X5.lt
        have Y6 := (Y5.below al6).mono al6.size
        have heb := X5.lt
        have F6 : EBx (w5.alloc (.cells #[.int .i64 e.who, .int .i64 (e.seq + 1), .int .i64 e.op.kind, .int .i64 e.op.id, .int .i64 e.op.up, .int .i64 e.op.at_, .string e.op.txt] 42)) w5.heap.size ⟨e.who, e.seq + 1, e.op⟩ := EBx.new w5 ⟨e.who, e.seq + 1, e.op⟩
        have hbx6 := Nat.lt_of_lt_of_le hbx al6.size
        clear L5 X5 Y5 al6 hbx
        have hbx := hbx6
        clear hbx6
        go_upto_region 10 with fail
        generalize w5.alloc (.cells #[.int .i64 e.who, .int .i64 (e.seq + 1), .int .i64 e.op.kind, .int .i64 e.op.id, .int .i64 e.op.up, .int .i64 e.op.at_, .string e.op.txt] 42) = w6 at *
        generalize w5.heap.size = fb at *
        obtain ⟨f0, f1, f2, f3, f4, f5, f6⟩ := F6.cells
        simp only at f0 f1 f2 f3 f4 f5 f6
        clear x0 x1 x2 x3 x4 x5 x6
        go_wp2_with fail
        refine (HFR.out w6 L6).mono ?_
        rintro _ w7 ⟨ga, gk, rfl, own7, hb7⟩
        have L7 := L6.below hb7
        have X7 := X6.below hb7 X6.lt
        have Y7 := (Y6.below hb7).mono hb7.size
        have G7 := entsAt_own own7
        have hbx7 := Nat.lt_of_lt_of_le hbx hb7.size
        clear L6 X6 Y6 own7 hb7 f0 f1 f2 f3 f4 f5 f6 F6 HFR hbx
        obtain ⟨x0, x1, x2, x3, x4, x5, x6⟩ := X7.cells
        have al8 : Below w7.heap.size w7 (w7.alloc (.cells #[.int .i64 e.who, .int .i64 e.seq, .int .i64 2, .int .i64 36, .int .i64 0, .int .i64 0, .string ⟨#[100, 100, 100, 100]⟩] 42)) := (Below.refl _ _).alloc (Nat.le_refl _) _
        have L8 := L7.below al8
        have X8 := X7.below al8 X7.lt
        have Y8 := (Y7.below al8).mono al8.size
        have G8 := (G7.below al8).mono al8.size
        have O8 : EBx (w7.alloc (.cells #[.int .i64 e.who, .int .i64 e.seq, .int .i64 2, .int .i64 36, .int .i64 0, .int .i64 0, .string ⟨#[100, 100, 100, 100]⟩] 42)) w7.heap.size ⟨e.who, e.seq, ⟨2, 36, 0, 0, ⟨#[100, 100, 100, 100]⟩⟩⟩ := EBx.new w7 ⟨e.who, e.seq, ⟨2, 36, 0, 0, ⟨#[100, 100, 100, 100]⟩⟩⟩
        have hbx8 := Nat.lt_of_lt_of_le hbx7 al8.size
        go_upto_region 12 with fail
        generalize w7.alloc (.cells #[.int .i64 e.who, .int .i64 e.seq, .int .i64 2, .int .i64 36, .int .i64 0, .int .i64 0, .string ⟨#[100, 100, 100, 100]⟩] 42) = w8 at *
        generalize w7.heap.size = ob at *
        clear L7 X7 Y7 G7 al8 x0 x1 x2 x3 x4 x5 x6 hbx7
        obtain ⟨o0, o1, o2, o3, o4, o5, o6⟩ := O8.cells
        simp only at o0 o1 o2 o3 o4 o5 o6
        go_wp2_with fail
        refine (HOT.out w8 bx ox hbx8 Y8 (L8.tab ht hz)).mono ?_
        rintro _ w9 ⟨ba, bk, rfl, own9, hb9⟩
        have L9 := L8.below hb9
        have X9 := X8.below hb9 X8.lt
        have O9 := O8.below hb9 O8.lt
        have Y9 := (Y8.below hb9).mono hb9.size
        have G9 := (G8.below hb9).mono hb9.size
        have B9 := entsAt_own own9
        clear L8 X8 O8 Y8 G8 own9 hb9 o0 o1 o2 o3 o4 o5 o6 HOT
        go_wp2_with fail
        refine (lpLog_same w9.heap.size _ _ _ _ es w9 (Nat.le_refl _) G9 L9.at_ (by omega)).mono ?_
        rintro _ wd ⟨rfl, hbd⟩
        have Ld := L9.below hbd
        have Xd := X9.below hbd X9.lt
        have Od := O9.below hbd O9.lt
        have Yd := (Y9.below hbd).mono hbd.size
        have Bd := (B9.below hbd).mono hbd.size
        clear L9 X9 O9 Y9 G9 B9 hbd
        obtain ⟨x0, x1, x2, x3, x4, x5, x6⟩ := Xd.cells
        obtain ⟨o0, o1, o2, o3, o4, o5, o6⟩ := Od.cells
        simp only at o0 o1 o2 o3 o4 o5 o6
        cases hs : sameB (othE e) e
        · obtain ⟨q1, q2⟩ := HSM.out hs
          subst q1
          subst q2
          have hp := ent_parts hs
          have HLP := Lib.hid (fun (x : World) (h1 : EntsAt x.heap.size x ba (es ++ [e])) (h2 : EntsAt x.heap.size x (some ⟨bx, ox, none⟩) (es ++ [e])) => lpLog_same x.heap.size ba (some ⟨bx, ox, none⟩) bk xk (es ++ [e]) x (Nat.le_refl _) h1 h2 hrl)
          rw [HLEN.out] at HLP ⊢
          clear hs HSM Od Xd
          have fin : Hid (∀ x : World, Below wd.heap.size wd x → Logs w x g oc es) := fun x hx => Ld.below hx
          rcases hp with h | ⟨_, h⟩ | ⟨_, _, h⟩ | ⟨_, _, k1, h⟩ | ⟨_, _, k1, k2, h⟩ | ⟨_, _, k1, k2, k3, h⟩ | ⟨_, _, k1, k2, k3, k4, h⟩
          · exact absurd rfl h
          · exact absurd rfl h
          · have h' : ¬ (2 : Int) = e.op.kind := h
            clear h
            go_wp2_with fail
            refine (HLP.out wd Bd Yd).mono ?_
            rintro _ wz ⟨rfl, hbz⟩
            have Lz := fin.out wz hbz
            go_wp2
            go_ret
            exact ⟨by first | rfl | simp, Lz.low⟩
          · have k1' : e.op.kind = 2 := k1.symm
            have h' : ¬ (36 : Int) = e.op.id := h
            rw [k1'] at x2
            clear h k1 k1'
            go_wp2_with fail
            refine (HLP.out wd Bd Yd).mono ?_
            rintro _ wz ⟨rfl, hbz⟩
            have Lz := fin.out wz hbz
            go_wp2
            go_ret
            exact ⟨by first | rfl | simp, Lz.low⟩
          · have k1' : e.op.kind = 2 := k1.symm
            have k2' : e.op.id = 36 := k2.symm
            have h' : ¬ (0 : Int) = e.op.up := h
            rw [k1'] at x2
            rw [k2'] at x3
            clear h k1 k2 k1' k2'
            go_wp2_with fail
            refine (HLP.out wd Bd Yd).mono ?_
            rintro _ wz ⟨rfl, hbz⟩
            have Lz := fin.out wz hbz
            go_wp2
            go_ret
            exact ⟨by first | rfl | simp, Lz.low⟩
          · have k1' : e.op.kind = 2 := k1.symm
            have k2' : e.op.id = 36 := k2.symm
            have k3' : e.op.up = 0 := k3.symm
            have h' : ¬ (0 : Int) = e.op.at_ := h
            rw [k1'] at x2
            rw [k2'] at x3
            rw [k3'] at x4
            clear h k1 k2 k3 k1' k2' k3'
            go_wp2_with fail
            refine (HLP.out wd Bd Yd).mono ?_
            rintro _ wz ⟨rfl, hbz⟩
            have Lz := fin.out wz hbz
            go_wp2
            go_ret
            exact ⟨by first | rfl | simp, Lz.low⟩
          · have k1' : e.op.kind = 2 := k1.symm
            have k2' : e.op.id = 36 := k2.symm
            have k3' : e.op.up = 0 := k3.symm
            have k4' : e.op.at_ = 0 := k4.symm
            have h' : ¬ (⟨#[100, 100, 100, 100]⟩ : ByteArray).toList = e.op.txt.toList := h
            have h2 : ¬ ([100, 100, 100, 100] : List UInt8) = e.op.txt.toList := by rw [ByteArray.toList_eq] at h'; exact h'
            have h3 : ¬ e.op.txt.toList = ([100, 100, 100, 100] : List UInt8) := fun q => h2 q.symm
            rw [k1'] at x2
            rw [k2'] at x3
            rw [k3'] at x4
            rw [k4'] at x5
            clear h k1 k2 k3 k4 k1' k2' k3' k4'
            go_wp2_with fail
            refine (HLP.out wd Bd Yd).mono ?_
            rintro _ wz ⟨rfl, hbz⟩
            have Lz := fin.out wz hbz
            go_wp2
            go_ret
            exact ⟨by first | rfl | simp, Lz.low⟩
        · have he := sameB_iff.1 hs
          have hop : (⟨2, 36, 0, 0, ⟨#[100, 100, 100, 100]⟩⟩ : OpD) = e.op := congrArg EntD.op he
          rw [← hop] at x2 x3 x4 x5 x6
          simp only at x2 x3 x4 x5 x6
          clear hs he hop HSM
          go_wp2
          go_ret
          exact ⟨by first | rfl | simp, Ld.low⟩
      · have hmb : ¬ e.seq + 1 ≤ 40 := hmx
        have HLP0 := Lib.hid (lpLog_same w5.heap.size xa wa xk wk (es ++ [e]) w5 (Nat.le_refl _) Y5 W5 hrl)
        rw [hle] at HLP0
        rw [hle]
        clear hle
        go_wp2_with fail
        refine HLP0.out.mono ?_
        rintro _ w6 ⟨rfl, hb6⟩
        have L6 := L5.below hb6
        go_wp2
        go_ret
        exact ⟨rfl, L6.low⟩
    · have hnb : (an != 1) = true := by simpa using hn
      clear HNEW
      go_wp2_with fail
      refine (lpLog_same w5.heap.size _ _ _ _ res w5 (Nat.le_refl _) Y5 W5 hrl).mono ?_
      rintro _ w6 ⟨rfl, hb6⟩
      have L6 := L5.below hb6
      go_wp2
      go_ret
      exact ⟨rfl, L6.low⟩
  · have i0 : ¬ (len : Int) ≤ 1048576 := by omega
    go_enter Tryd.func13, Tryd.ntmps13
    go_wp2
    go_ret
    exact ⟨rfl, Below.refl _ _⟩
end Go.Proofs.YtcaoojceeppibaaDoor
