/-
  The walk of the law FnLogAdd out of the contracts. Conditions: the argument reads as bytes; the table 'creators' holds what its initialiser lays.
-/
import Derived.Test.YtcaoojceeppibaaDoorJPAdd
namespace Go.Proofs.YtcaoojceeppibaaDoor
open Go.ChangeShapes Go.WideShapes Go.ChangeAt Go.RowKit Go.Joins

/-- append onto a row of the call's own, as one step of a region that draws its order, behind a guard. -/
theorem step_append_ownG {P : Program} {ops : Array Oper} {o : Oper} {a : Act} {w : World} {K : Act → World → Prop} {Q : Exit → Act → World → Prop} {E : Prop}
    (hw : Region.wanted o (yielded ops a.tmps) = true) (s x : Operand) (t : TypeId) (hop : o.op = Op.call { callee := Callee.builtin Builtin.append, args := #[s, x], argTypes := #[t, t] })
    (base : Nat) (e : TypeId) (i : TypeInfo) (z : Value) (size bytes : Nat) (h1 : P.underlying t = some (.slice e)) (h2 : P.info? e = some i) (h3 : i.zero = some z) (h4 : i.size = size) (h5 : i.bytes = bytes) (h6 : z.cells.size = size) (h7 : 0 < size)
    (v : Value) (k : Nat) (xs : List Value) (hs : a.eval s = v) (hown : w.ownsRow base e size v k xs) (ad : Addr) (m c : Nat) (news : List Value) (hx : a.eval x = .slice (some ad) m c) (hn : news.length = m * size)
    (hc : ∀ j u, news[j]? = some u → w.cell? (ad.add j) = some u) (h1c : ∀ u ∈ news, u.oneCell' = true) (b1 : k + m ≤ maxLen) (b2 : (k + m) * bytes ≤ 140737488355328) (b3 : base ≤ w.heap.size)
    (hK : ∀ v' w', w'.ownsRow base e size v' (k + m) (xs ++ news) → w.grownBy w' v.ownBlock → K (a.put o.dst v') w') :
    if Region.wanted o (yielded ops a.tmps) = true then Oper.wp P o a w K Q else E := by
  rw [if_pos hw]
  obtain ⟨v', w', hrun, r1, r2, _⟩ := run_append_own (P := P) w base t o.type e i z size bytes h1 h2 h3 h4 h5 h6 h7 v k xs hown ad m c news hn hc h1c b1 b2 b3
  unfold Oper.wp
  simp [execOp, hop, resolve, invoke, builtin, hs, hx, hrun, Result.andThen]
  exact hK v' w' r1 r2
theorem entsAt_own' {w : World} {base : Nat} {v : Value} {es : List EntD} (h : w.ownsRow base 42 7 v es.length (cellsE es)) : ∀ a cap, v = .slice a es.length cap → EntsAt w.heap.size w a es := fun a cap e => by subst e; exact entsAt_own h
set_option maxRecDepth 100000 in
set_option maxHeartbeats 8000000 in
theorem fnLogAdd_walk (w : World) (ht : Tab w) (a : Option Addr) (len cap : Nat) (hb : Bytes w a len cap) :
    Calls Tryd.prog 7 #[.slice a len cap] w fun e w' => e = .returned (.bool true) ∧ Below w.heap.size w w' := by
  have hz := ht.pos
  by_cases hlen : len ≤ 1048576
  · have i0 : (len : Int) ≤ 1048576 := by omega
    have HD := Lib.hid (drawLogAdd_any a len cap w hb)
    clear hb
    go_enter Tryd.func7, Tryd.ntmps7
    go_wp2_with fail
    refine HD.out.mono ?_
    rintro _ w1 ⟨g, oc, es, e, rfl, hE, L1⟩
    have HSA : Hid (∀ x : World, Logs w x g oc es → Calls Tryd.prog 30 #[.slice (some ⟨g, 0, none⟩) es.length oc, .agg #[.int .i64 e.who, .int .i64 e.seq, .int .i64 e.op.kind, .int .i64 e.op.id, .int .i64 e.op.up, .int .i64 e.op.at_, .string e.op.txt]] x (RetL (addL es e) (addN es e) x)) := fun x hL => specLogAdd_any g 0 oc es e x hL.hi hL.at_ hL.fit hE.fit hL.cap.1 hL.cap.2
    have HIA : Hid (∀ x : World, Logs w x g oc es → Calls Tryd.prog 31 #[.slice (some ⟨g, 0, none⟩) es.length oc, .agg #[.int .i64 e.who, .int .i64 e.seq, .int .i64 e.op.kind, .int .i64 e.op.id, .int .i64 e.op.up, .int .i64 e.op.at_, .string e.op.txt]] x (RetL (addL es e) (addN es e) x)) := fun x hL => implLogAdd_any g 0 oc es e x hL.hi hL.at_ hL.fit hE.fit (hL.tab ht hz)
    have HRS : Hid ((okAdd es e = true → hasE es e = true → es = addL es e ∧ 0 = addN es e) ∧ (okAdd es e = true → hasE es e = false → nextB es e = false → es = addL es e ∧ -1 = addN es e) ∧ (okAdd es e = true → hasE es e = false → nextB es e = true → es ++ [e] = addL es e ∧ 1 = addN es e)) := ⟨fun a b => ⟨(add_has a b).1.symm, (add_has a b).2.symm⟩, fun a b c => ⟨(add_gap a b c).1.symm, (add_gap a b c).2.symm⟩, fun a b c => ⟨(add_new a b c).1.symm, (add_new a b c).2.symm⟩⟩
    have hrl : (addL es e).length ≤ 1048576 := by have := addL_len es e; omega
    have al : Below w1.heap.size w1 (w1.alloc (.cells #[.int .i64 e.who, .int .i64 e.seq, .int .i64 e.op.kind, .int .i64 e.op.id, .int .i64 e.op.up, .int .i64 e.op.at_, .string e.op.txt] 42)) := (Below.refl _ _).alloc (Nat.le_refl _) _
    have L2 := L1.below al
    have X2 := EBx.new w1 e
    have HFE := Lib.hid hE.fit
    have HFL := Lib.hid L1.fit
    have hel := L1.len
    generalize addL es e = res at *
    generalize addN es e = an at *
    clear L1 al hE
    go_upto_region 4 with fail
    generalize w1.alloc (.cells #[.int .i64 e.who, .int .i64 e.seq, .int .i64 e.op.kind, .int .i64 e.op.id, .int .i64 e.op.up, .int .i64 e.op.at_, .string e.op.txt] 42) = w2 at *
    generalize w1.heap.size = eb at *
    obtain ⟨x0, x1, x2, x3, x4, x5, x6⟩ := X2.cells
    go_wp2_with fail
    refine (HSA.out w2 L2).mono ?_
    rintro _ w3 ⟨wa, wk, rfl, own3, hb3⟩
    have L3 := L2.below hb3
    have X3 := X2.below hb3 X2.lt
    have W3 := entsAt_own own3
    clear L2 X2 own3 hb3 HSA x0 x1 x2 x3 x4 x5 x6
    obtain ⟨x0, x1, x2, x3, x4, x5, x6⟩ := X3.cells
    go_wp2_with fail
    refine (HIA.out w3 L3).mono ?_
    rintro _ w4 ⟨xa, xk, rfl, own4, hb4⟩
    have L4 := L3.below hb4
    have X4 := X3.below hb4 X3.lt
    have W4 := (W3.below hb4).mono hb4.size
    have Y4 := entsAt_own own4
    clear L3 X3 W3 own4 hb4 HIA x0 x1 x2 x3 x4 x5 x6
    go_wp2_with fail
    refine (lpLog_same w4.heap.size _ _ _ _ res w4 (Nat.le_refl _) Y4 W4 hrl).mono ?_
    rintro _ w5 ⟨rfl, hb5⟩
    have L5 := L4.below hb5
    have X5 := X4.below hb5 X4.lt
    have W5 := (W4.below hb5).mono hb5.size
    have Y5 := (Y4.below hb5).mono hb5.size
    clear L4 X4 W4 Y4 hb5
    have HO : Hid (∀ (x : World), Logs w x g oc es → Calls Tryd.prog 33 #[.slice (some ⟨g, 0, none⟩) es.length oc] x (RetBelow (.bool (logB es)) x)) := fun x hL => specLogOk_any x.heap.size _ _ _ x (Nat.le_refl _) hL.at_ hL.fit hL.cap.1 hL.cap.2
    have HE : Hid (∀ (x : World), Calls Tryd.prog 28 #[.agg #[.int .i64 e.who, .int .i64 e.seq, .int .i64 e.op.kind, .int .i64 e.op.id, .int .i64 e.op.up, .int .i64 e.op.at_, .string e.op.txt]] x (RetBelow (.bool (entB e)) x)) := fun x => specEntryOk_any e x HFE.out
    go_wp2_with fail
    refine (HO.out w5 L5).mono ?_
    rintro _ w6 ⟨rfl, hb6⟩
    have L6 := L5.below hb6
    have X6 := X5.below hb6 X5.lt
    have W6 := (W5.below hb6).mono hb6.size
    have Y6 := (Y5.below hb6).mono hb6.size
    clear L5 X5 W5 Y5 hb6 HO
    obtain ⟨x0, x1, x2, x3, x4, x5, x6⟩ := X6.cells
    cases hlg : logB es
    · go_wp2_with fail
      refine (lpLog_same w6.heap.size _ _ _ _ res w6 (Nat.le_refl _) Y6 W6 hrl).mono ?_
      rintro _ w7 ⟨rfl, hb7⟩
      have L7 := L6.below hb7
      go_wp2
      go_ret
      exact ⟨rfl, L7.low⟩
    · go_wp2_with fail
      refine (HE.out w6).mono ?_
      rintro _ w7 ⟨rfl, hb7⟩
      have L7 := L6.below hb7
      have X7 := X6.below hb7 X6.lt
      have W7 := (W6.below hb7).mono hb7.size
      have Y7 := (Y6.below hb7).mono hb7.size
      clear L6 X6 W6 Y6 hb7 HE x0 x1 x2 x3 x4 x5 x6
      obtain ⟨x0, x1, x2, x3, x4, x5, x6⟩ := X7.cells
      cases hen : entB e
      · go_wp2_with fail
        refine (lpLog_same w7.heap.size _ _ _ _ res w7 (Nat.le_refl _) Y7 W7 hrl).mono ?_
        rintro _ w8 ⟨rfl, hb8⟩
        have L8 := L7.below hb8
        go_wp2
        go_ret
        exact ⟨rfl, L8.low⟩
      · have HLG := Lib.hid hlg
        have HEN := Lib.hid hen
        have HOK : Hid (okAdd es e = true) := by unfold Hid okAdd; rw [hlg, hen]; rfl
        clear hlg hen W7
        have HLH := Lib.hid (lpHas_any w7.heap.size (some ⟨g, 0, none⟩) oc es e w7 (Nat.le_refl _) L7.at_ (by omega))
        go_wp2_with fail
        refine HLH.out.mono ?_
        rintro _ w8 ⟨rfl, hb8⟩
        have L8 := L7.below hb8
        have X8 := X7.below hb8 X7.lt
        have Y8 := (Y7.below hb8).mono hb8.size
        clear L7 X7 Y7 hb8 HLH x0 x1 x2 x3 x4 x5 x6
        have hel2 : es.length ≤ 1048576 := by omega
        cases hh : hasE es e
        · cases hnx : nextB es e
          · obtain ⟨r1, r2⟩ := HRS.out.2.1 HOK.out hh hnx
            subst r1
            subst r2
            have HSL := Lib.hid (fun (x : World) (hL : Logs w x g oc es) => implLogSeq_any x.heap.size (some ⟨g, 0, none⟩) oc es e.who x (Nat.le_refl _) hL.at_ hL.fit (hL.tab ht hz) HFE.out.who)
            have HLV : Hid (lseqI es e.who = (cntTo es e.who es.length : Int)) := by unfold Hid lseqI; rw [HLG.out]; rfl
            rw [HLV.out] at HSL
            have hcn := cntTo_le es e.who es.length
            have HNB : Hid (nextB es e = ((e.seq == (cntTo es e.who es.length : Int) + 1) && decide (es.length < 40))) := rfl
            generalize cntTo es e.who es.length = cn at *
            obtain ⟨x0, x1, x2, x3, x4, x5, x6⟩ := X8.cells
            have K0 := later_cell x0 X8.lt
            have K1 := later_cell x1 X8.lt
            clear x0 x1 x2 x3 x4 x5 x6 HLV
            have hwr : IntKind.i64.wrap ((cn : Int) + 1) = (cn : Int) + 1 := IntWalk.i64_in _ (by omega)
            cases hq : (e.seq == (cn : Int) + 1)
            · go_wp2_with fail
              refine wp_region_later (by kernel_rfl) (by kernel_rfl) ?_
              repeat (go_big_quiet_step ((go_at_call 35; exact later_of (HSL.out _ (L8.below (Later.h _))))))
              refine wpQuiet_nil ?_
              rintro V ⟨⟨_, hbn⟩, rfl⟩
              clear K0 K1 HSL
              have Lv := L8.below hbn
              have Yv := (Y8.below hbn).mono hbn.size
              go_wp2_with fail
              refine (lpLog_same _ _ _ _ _ es _ (Nat.le_refl _) Yv Lv.at_ hel2).mono ?_
              rintro _ wz ⟨rfl, hbz⟩
              have Lz := Lv.below hbz
              go_wp2
              go_ret
              exact ⟨rfl, Lz.low⟩
            · exfalso
              have q := HNB.out
              rw [hnx, hq] at q
              simp at q
              omega
          · obtain ⟨r1, r2⟩ := HRS.out.2.2 HOK.out hh hnx
            subst r1
            subst r2
            have HSL := Lib.hid (fun (x : World) (hL : Logs w x g oc es) => implLogSeq_any x.heap.size (some ⟨g, 0, none⟩) oc es e.who x (Nat.le_refl _) hL.at_ hL.fit (hL.tab ht hz) HFE.out.who)
            have HLV : Hid (lseqI es e.who = (cntTo es e.who es.length : Int)) := by unfold Hid lseqI; rw [HLG.out]; rfl
            rw [HLV.out] at HSL
            have hcn := cntTo_le es e.who es.length
            have HNB : Hid (nextB es e = ((e.seq == (cntTo es e.who es.length : Int) + 1) && decide (es.length < 40))) := rfl
            generalize cntTo es e.who es.length = cn at *
            obtain ⟨x0, x1, x2, x3, x4, x5, x6⟩ := X8.cells
            have K0 := later_cell x0 X8.lt
            have K1 := later_cell x1 X8.lt
            clear x0 x1 x2 x3 x4 x5 x6 HLV
            have hwr : IntKind.i64.wrap ((cn : Int) + 1) = (cn : Int) + 1 := IntWalk.i64_in _ (by omega)
            have hq : (e.seq == (cn : Int) + 1) = true ∧ es.length < 40 := by
              have q := HNB.out
              rw [hnx] at q
              simpa using q.symm
            have hl40 : (es.length : Int) < 40 := by omega
            have hl4b : decide ((es.length : Int) < 40) = true := by simpa using hl40
            obtain ⟨hq1, hl4⟩ := hq
            go_wp2_with fail
            refine wp_region_later (by kernel_rfl) (by kernel_rfl) ?_
            repeat (go_big_quiet_step ((go_at_call 35; exact later_of (HSL.out _ (L8.below (Later.h _))))))
            refine wpQuiet_nil ?_
            rintro V ⟨⟨_, hbn⟩, rfl⟩
            clear K0 K1 HSL hq1 HNB
            obtain ⟨i0', hi, hz0, hz1, hz2⟩ := info_parts infoEnt
            have Lv := L8.below hbn
            have Yv := (Y8.below hbn).mono hbn.size
            have Xv := X8.below hbn X8.lt
            have hle : (es ++ [e]).length = es.length + 1 := by simp
            have HV : Hid (∀ x : World, Below V.heap.size V x → x.cell? ⟨eb, 0, none⟩ = some (.int .i64 e.who) ∧ x.cell? ⟨eb, 1, none⟩ = some (.int .i64 e.seq) ∧ x.cell? ⟨eb, 2, none⟩ = some (.int .i64 e.op.kind) ∧ x.cell? ⟨eb, 3, none⟩ = some (.int .i64 e.op.id) ∧ x.cell? ⟨eb, 4, none⟩ = some (.int .i64 e.op.up) ∧ x.cell? ⟨eb, 5, none⟩ = some (.int .i64 e.op.at_) ∧ x.cell? ⟨eb, 6, none⟩ = some (.string e.op.txt)) := fun x hx => (Xv.below hx Xv.lt).cells
            obtain ⟨x0, x1, x2, x3, x4, x5, x6⟩ := Xv.cells
            have hbx := Xv.lt
            clear L8 X8 Y8
            have o1 := own_emptyE V.drew 42
            have o2 := o1.alloc (.cells #[.int .i64 e.who, .int .i64 e.seq, .int .i64 e.op.kind, .int .i64 e.op.id, .int .i64 e.op.up, .int .i64 e.op.at_, .string e.op.txt] 42)
            have o3 := own_mono (own_emptyE (V.drew.alloc (.cells #[.int .i64 e.who, .int .i64 e.seq, .int .i64 e.op.kind, .int .i64 e.op.id, .int .i64 e.op.up, .int .i64 e.op.at_, .string e.op.txt] 42)) 42) (show V.heap.size ≤ (V.drew.alloc (.cells #[.int .i64 e.who, .int .i64 e.seq, .int .i64 e.op.kind, .int .i64 e.op.id, .int .i64 e.op.up, .int .i64 e.op.at_, .string e.op.txt] 42)).heap.size by simp)
            have d1 : Below V.heap.size V (V.drew.alloc (.cells #[] 42)) := ((Below.refl _ _).drew).alloc (Nat.le_refl _) _
            have d2 : Below V.heap.size V ((V.drew.alloc (.cells #[] 42)).alloc (.cells #[.int .i64 e.who, .int .i64 e.seq, .int .i64 e.op.kind, .int .i64 e.op.id, .int .i64 e.op.up, .int .i64 e.op.at_, .string e.op.txt] 42)) := d1.alloc d1.size _
            have d3 : Below V.heap.size V ((V.drew.alloc (.cells #[.int .i64 e.who, .int .i64 e.seq, .int .i64 e.op.kind, .int .i64 e.op.id, .int .i64 e.op.up, .int .i64 e.op.at_, .string e.op.txt] 42)).alloc (.cells #[] 42)) := (((Below.refl _ _).drew).alloc (Nat.le_refl _) _).alloc (by simp) _
            have n0 : Hid ((cellsE es).length = es.length * 7) := cellsE_len es
            have nn := Lv.at_.news
            have hgv := Lv.hi
            have hre : ∀ X : World, Below V.heap.size V X → ∀ j u, (cellsE es)[j]? = some u → X.cell? ((⟨g, 0, none⟩ : Addr).add j) = some u := fun X hX j u hu => by
              have := nn j u hu
              rw [addr_add] at this ⊢
              rw [hX.cell (p := ⟨g, 0 + j, none⟩) hgv]; exact this
            have n1 := Lib.hid (hre _ d1)
            have n2 := Lib.hid (hre _ d2)
            have n3 := Lib.hid (hre _ d3)
            have m0 : Hid ((cellsE [e]).length = 1 * 7) := rfl
            have l2 : Hid (∀ j u, (cellsE [e])[j]? = some u → ((V.drew.alloc (.cells #[] 42)).alloc (.cells #[.int .i64 e.who, .int .i64 e.seq, .int .i64 e.op.kind, .int .i64 e.op.id, .int .i64 e.op.up, .int .i64 e.op.at_, .string e.op.txt] 42)).cell? ((⟨V.heap.size + 1, 0, none⟩ : Addr).add j) = some u) := fun j u hu => by simpa using elem_cells (V.drew.alloc (.cells #[] 42)) e j u hu
            have l3 : Hid (∀ j u, (cellsE [e])[j]? = some u → ((V.drew.alloc (.cells #[.int .i64 e.who, .int .i64 e.seq, .int .i64 e.op.kind, .int .i64 e.op.id, .int .i64 e.op.up, .int .i64 e.op.at_, .string e.op.txt] 42)).alloc (.cells #[] 42)).cell? ((⟨V.heap.size, 0, none⟩ : Addr).add j) = some u) := fun j u hu => by
              rw [World.cell?_alloc_lt _ _ _ (by rw [addr_add]; simp)]; exact elem_cells V.drew e j u hu
            have HLP : Hid (∀ (x : World) (pa : Option Addr) (pc : Nat), EntsAt x.heap.size x xa (es ++ [e]) → EntsAt x.heap.size x pa (es ++ [e]) → Calls Tryd.prog 32 #[.slice xa (es.length + 1) xk, .slice pa (es.length + 1) pc] x (RetBelow (.bool true) x)) := fun x pa pc h1 h2 => by
              have q := lpLog_same x.heap.size xa pa xk pc (es ++ [e]) x (Nat.le_refl _) h1 h2 (by rw [hle]; omega)
              rw [hle] at q; exact q
            have HLK : Hid (∀ (x : World), EntsAt x.heap.size x xa (es ++ [e]) → Tab x → Calls Tryd.prog 36 #[.slice xa (es.length + 1) xk] x (RetBelow (.bool true) x)) := fun x h1 h2 => by
              have q := implLogOk_any x.heap.size xa xk (es ++ [e]) x (Nat.le_refl _) h1 (snoc_fit HFL.out (by omega) HFE.out) h2
              rw [hle, logB_snoc HLG.out HEN.out hnx] at q; exact q
            have HLE := Lib.hid hle
            clear nn hre hle Xv
            go_wp2_with fail
            go_region_law (first
              | (refine step_append_ownG (by first | rfl | simp [Region.wanted, yielded]) (.tmp 93) (.tmp 94) 45 rfl V.heap.size 42 i0' (.agg #[.int .i64 0, .int .i64 0, .int .i64 0, .int .i64 0, .int .i64 0, .int .i64 0, .string ⟨#[]⟩]) 7 64 Tryd.underlying45 hi hz0 hz1 hz2 rfl (by decide) _ _ _ (by simp [Act.eval]) o1 ⟨g, 0, none⟩ es.length oc (cellsE es) (by simp [Act.eval]) n0.out n1.out (cellsE_plain _) (by unfold maxLen; omega) (by omega) d1.size ?_
                 intro v4 w4 own4 grow4
                 have hb4 : Below V.heap.size V w4 := d1.grown grow4 d1.size (own_block o1)
                 have own4' : w4.ownsRow V.heap.size 42 7 v4 es.length (cellsE es) := by simpa using own4
                 have L4 := True.intro
                 obtain ⟨y0, y1, y2, y3, y4, y5, y6⟩ := HV.out w4 hb4
                 obtain ⟨va, vc, rfl, _⟩ := own_slice own4')
              | (refine step_append_ownG (by first | rfl | simp [Region.wanted, yielded]) (.tmp 93) (.tmp 94) 45 rfl V.heap.size 42 i0' (.agg #[.int .i64 0, .int .i64 0, .int .i64 0, .int .i64 0, .int .i64 0, .int .i64 0, .string ⟨#[]⟩]) 7 64 Tryd.underlying45 hi hz0 hz1 hz2 rfl (by decide) _ _ _ (by simp [Act.eval]) o2 ⟨g, 0, none⟩ es.length oc (cellsE es) (by simp [Act.eval]) n0.out n2.out (cellsE_plain _) (by unfold maxLen; omega) (by omega) d2.size ?_
                 intro v4 w4 own4 grow4
                 have hb4 : Below V.heap.size V w4 := d2.grown grow4 d2.size (own_block o2)
                 have own4' : w4.ownsRow V.heap.size 42 7 v4 es.length (cellsE es) := by simpa using own4
                 have L2 : Hid (∀ j u, (cellsE [e])[j]? = some u → w4.cell? ((⟨V.heap.size + 1, 0, none⟩ : Addr).add j) = some u) := fun j u hu => grow4.cell (l2.out j u hu) (by rw [addr_add]; simp [Value.ownBlock])
                 obtain ⟨y0, y1, y2, y3, y4, y5, y6⟩ := HV.out w4 hb4
                 obtain ⟨va, vc, rfl, _⟩ := own_slice own4')
              | (refine step_append_ownG (by first | rfl | simp [Region.wanted, yielded]) (.tmp 93) (.tmp 94) 45 rfl V.heap.size 42 i0' (.agg #[.int .i64 0, .int .i64 0, .int .i64 0, .int .i64 0, .int .i64 0, .int .i64 0, .string ⟨#[]⟩]) 7 64 Tryd.underlying45 hi hz0 hz1 hz2 rfl (by decide) _ _ _ (by simp [Act.eval]) o3 ⟨g, 0, none⟩ es.length oc (cellsE es) (by simp [Act.eval]) n0.out n3.out (cellsE_plain _) (by unfold maxLen; omega) (by omega) d3.size ?_
                 intro v4 w4 own4 grow4
                 have hb4 : Below V.heap.size V w4 := d3.grown grow4 d3.size (own_block o3)
                 have own4' : w4.ownsRow V.heap.size 42 7 v4 es.length (cellsE es) := by simpa using own4
                 have L3 : Hid (∀ j u, (cellsE [e])[j]? = some u → w4.cell? ((⟨V.heap.size, 0, none⟩ : Addr).add j) = some u) := fun j u hu => grow4.cell (l3.out j u hu) (by rw [addr_add]; simp [Value.ownBlock])
                 obtain ⟨y0, y1, y2, y3, y4, y5, y6⟩ := HV.out w4 hb4
                 obtain ⟨va, vc, rfl, _⟩ := own_slice own4')
              | (refine step_append_ownG (by first | rfl | simp [Region.wanted, yielded]) (.tmp 95) (.tmp 97) 45 rfl V.heap.size 42 i0' (.agg #[.int .i64 0, .int .i64 0, .int .i64 0, .int .i64 0, .int .i64 0, .int .i64 0, .string ⟨#[]⟩]) 7 64 Tryd.underlying45 hi hz0 hz1 hz2 rfl (by decide) _ _ _ (by simp [Act.eval]) own4' ⟨V.heap.size + 1, 0, none⟩ 1 1 (cellsE [e]) (by simp [Act.eval]) m0.out L2.out (cellsE_plain _) (by unfold maxLen; omega) (by omega) hb4.size ?_
                 intro v5 w5 own5 grow5
                 have hb5 : Below V.heap.size V w5 := hb4.grown grow5 hb4.size (own_block own4')
                 have own5' : w5.ownsRow V.heap.size 42 7 v5 (es ++ [e]).length (cellsE (es ++ [e])) := (by rw [cellsE_append, show (es ++ [e]).length = es.length + 1 by simp]; exact own5)
                 have Y8 := (Yv.below hb5).mono hb5.size
                 have L8 := Lv.below hb5
                 obtain ⟨va5, vc5, rfl, hvc5⟩ := own_slice own5'
                 have P5 := entsAt_own own5')
              | (refine step_append_ownG (by first | rfl | simp [Region.wanted, yielded]) (.tmp 95) (.tmp 97) 45 rfl V.heap.size 42 i0' (.agg #[.int .i64 0, .int .i64 0, .int .i64 0, .int .i64 0, .int .i64 0, .int .i64 0, .string ⟨#[]⟩]) 7 64 Tryd.underlying45 hi hz0 hz1 hz2 rfl (by decide) _ _ _ (by simp [Act.eval]) own4' ⟨V.heap.size, 0, none⟩ 1 1 (cellsE [e]) (by simp [Act.eval]) m0.out L3.out (cellsE_plain _) (by unfold maxLen; omega) (by omega) hb4.size ?_
                 intro v5 w5 own5 grow5
                 have hb5 : Below V.heap.size V w5 := hb4.grown grow5 hb4.size (own_block own4')
                 have own5' : w5.ownsRow V.heap.size 42 7 v5 (es ++ [e]).length (cellsE (es ++ [e])) := (by rw [cellsE_append, show (es ++ [e]).length = es.length + 1 by simp]; exact own5)
                 have Y8 := (Yv.below hb5).mono hb5.size
                 have L8 := Lv.below hb5
                 obtain ⟨va5, vc5, rfl, hvc5⟩ := own_slice own5'
                 have P5 := entsAt_own own5')
              | (refine step_append_ownG (by first | rfl | simp [Region.wanted, yielded]) (.tmp 95) (.tmp 97) 45 rfl V.heap.size 42 i0' (.agg #[.int .i64 0, .int .i64 0, .int .i64 0, .int .i64 0, .int .i64 0, .int .i64 0, .string ⟨#[]⟩]) 7 64 Tryd.underlying45 hi hz0 hz1 hz2 rfl (by decide) _ _ _ (by simp [Act.eval]) (own4'.alloc (.cells #[.int .i64 e.who, .int .i64 e.seq, .int .i64 e.op.kind, .int .i64 e.op.id, .int .i64 e.op.up, .int .i64 e.op.at_, .string e.op.txt] 42)) ⟨w4.heap.size, 0, none⟩ 1 1 (cellsE [e]) (by simp [Act.eval]) m0.out (elem_cells w4 e) (cellsE_plain _) (by unfold maxLen; omega) (by omega) (hb4.alloc hb4.size (.cells #[.int .i64 e.who, .int .i64 e.seq, .int .i64 e.op.kind, .int .i64 e.op.id, .int .i64 e.op.up, .int .i64 e.op.at_, .string e.op.txt] 42)).size ?_
                 intro v5 w5 own5 grow5
                 have hb5 : Below V.heap.size V w5 := (hb4.alloc hb4.size (.cells #[.int .i64 e.who, .int .i64 e.seq, .int .i64 e.op.kind, .int .i64 e.op.id, .int .i64 e.op.up, .int .i64 e.op.at_, .string e.op.txt] 42)).grown grow5 (hb4.alloc hb4.size (.cells #[.int .i64 e.who, .int .i64 e.seq, .int .i64 e.op.kind, .int .i64 e.op.id, .int .i64 e.op.up, .int .i64 e.op.at_, .string e.op.txt] 42)).size (own_block own4')
                 have own5' : w5.ownsRow V.heap.size 42 7 v5 (es ++ [e]).length (cellsE (es ++ [e])) := (by rw [cellsE_append, show (es ++ [e]).length = es.length + 1 by simp]; exact own5)
                 have Y8 := (Yv.below hb5).mono hb5.size
                 have L8 := Lv.below hb5
                 obtain ⟨va5, vc5, rfl, hvc5⟩ := own_slice own5'
                 have P5 := entsAt_own own5')
              | (go_simp; go_at_call 32; refine (HLP.out _ _ _ Y8 P5).mono ?_; rintro _ w9 ⟨rfl, hb9⟩; have L9 := L8.below hb9; have Y9 := (Y8.below hb9).mono hb9.size)
              | (go_simp; go_at_call 36; refine (HLK.out _ Y9 (L9.tab ht hz)).mono ?_; rintro _ wz ⟨rfl, hbz⟩; have Lz := L9.below hbz))
            all_goals
              go_wp2
              go_ret
              exact ⟨by first | rfl | simp, Lz.low⟩
        · obtain ⟨r1, r2⟩ := HRS.out.1 HOK.out hh
          subst r1
          subst r2
          go_wp2_with fail
          refine (lpLog_same w8.heap.size _ _ _ _ es w8 (Nat.le_refl _) Y8 L8.at_ hel2).mono ?_
          rintro _ w9 ⟨rfl, hb9⟩
          have L9 := L8.below hb9
          go_wp2
          go_ret
          exact ⟨rfl, L9.low⟩
  · have i0 : ¬ (len : Int) ≤ 1048576 := by omega
    go_enter Tryd.func7, Tryd.ntmps7
    go_wp2
    go_ret
    exact ⟨rfl, Below.refl _ _⟩
end Go.Proofs.YtcaoojceeppibaaDoor
