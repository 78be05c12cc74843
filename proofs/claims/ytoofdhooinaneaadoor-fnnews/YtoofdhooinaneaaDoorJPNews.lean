/-
  The walk of the law FnNews out of the contracts. Conditions: the arguments read as bytes; the table 'creators' holds what its initialiser lays.
-/
import Derived.Test.YtoofdhooinaneaaDoorJPServerForm
import Derived.Test.YtoofdhooinaneaaDoorJDSrv4
namespace Go.Proofs.YtoofdhooinaneaaDoor
open Go.ChangeShapes Go.WideShapes Go.ChangeAt Go.RowKit Go.Joins

/-- append onto a row of the call's own, behind a guard that says yes. -/
theorem wpList_appendG {P : Program} {ops : Array Oper} {rest : List Oper} {o : Oper} {a : Act} {w : World} {Q : Exit → Act → World → Prop}
    (hw : Region.wanted o (yielded ops a.tmps) = true) (s x : Operand) (t : TypeId) (hop : o.op = Op.call { callee := Callee.builtin Builtin.append, args := #[s, x], argTypes := #[t, t] })
    (base : Nat) (e : TypeId) (i : TypeInfo) (z : Value) (size bytes : Nat) (h1 : P.underlying t = some (.slice e)) (h2 : P.info? e = some i) (h3 : i.zero = some z) (h4 : i.size = size) (h5 : i.bytes = bytes) (h6 : z.cells.size = size) (h7 : 0 < size)
    (v : Value) (k : Nat) (xs : List Value) (hs : a.eval s = v) (hown : w.ownsRow base e size v k xs) (ad : Addr) (m c : Nat) (news : List Value) (hx : a.eval x = .slice (some ad) m c) (hn : news.length = m * size)
    (hc : ∀ j u, news[j]? = some u → w.cell? (ad.add j) = some u) (h1c : ∀ u ∈ news, u.oneCell' = true) (b1 : k + m ≤ maxLen) (b2 : (k + m) * bytes ≤ 140737488355328) (b3 : base ≤ w.heap.size)
    (h : ∀ v' w', w'.ownsRow base e size v' (k + m) (xs ++ news) → w.grownBy w' v.ownBlock → wpList P ops Q rest (a.put o.dst v') w') : wpList P ops Q (o :: rest) a w := by
  refine wpList_step fun K hK => ?_
  rw [if_pos hw]
  obtain ⟨v', w', hrun, r1, r2, _⟩ := run_append_own (P := P) w base t o.type e i z size bytes h1 h2 h3 h4 h5 h6 h7 v k xs hown ad m c news hn hc h1c b1 b2 b3
  unfold Oper.wp
  simp [execOp, hop, resolve, invoke, builtin, hs, hx, hrun, Result.andThen]
  exact hK _ _ (h v' w' r1 r2)

/-- What ServerNews gives where it gives news: a row of its own. -/
def RetNO (L : List EntD) (n : Nat) (w : World) (r : Ending) (w' : World) : Prop := ∃ g c, r = .returned (.slice (some ⟨g, 0, none⟩) n c) ∧ n ≤ c ∧ OwnG w.heap.size w' g c L ∧ Below w.heap.size w w'
set_option maxRecDepth 100000 in
set_option maxHeartbeats 2000000 in
theorem implServerNews_own (b off cap : Nat) (es : List EntD) (s f : Nat) (w : World) (hbb : b < w.heap.size) (h : EntsAt w.heap.size w (some ⟨b, off, none⟩) es) (hf : EntsFit es) (ht : Tab w) (hok : newsOk ⟨es, s, true⟩ f = true) :
    Calls Tryd.prog 23 #[.agg #[.slice (some ⟨b, off, none⟩) es.length cap, .int .i64 s, .bool true], .int .i64 f] w (RetNO ((es.drop f).take (s - f)) (s - f) w) := by
  have HFO := Lib.hid hok
  obtain ⟨hsb0, _, _, hfs⟩ := newsOk_is.1 hok
  simp only [] at hfs
  have hfs' : f ≤ s := by omega
  clear hfs
  have hb0 : Below w.heap.size w (w.alloc (.cells #[.slice (some ⟨b, off, none⟩) es.length cap, .int .i64 s, .bool true] 43)) := (Below.refl _ _).alloc (Nat.le_refl _) _
  have X0 := Bx.new w 43 #[.slice (some ⟨b, off, none⟩) es.length cap, .int .i64 s, .bool true]
  have h0 := h.below hb0
  clear hok
  go_enter Tryd.func23, Tryd.ntmps23
  go_upto_region 1 with fail
  generalize (w.alloc (.cells #[.slice (some ⟨b, off, none⟩) es.length cap, .int .i64 s, .bool true] 43)) = w1 at *
  have HH := Lib.hid (hostOf_any b off cap es s true w1 (Nat.lt_of_lt_of_le hbb hb0.size) (h0.mono hb0.size) hf (ht.below hb0 ht.pos))
  obtain ⟨x0, x1, x2⟩ := X0.srv
  go_wp2_with fail
  refine HH.out.mono ?_
  rintro _ w2 ⟨b2, ⟨hsb, g, c, rfl, O2⟩ | ⟨hsb, rfl⟩⟩
  · have L2 := hb0.trans (b2.mono hb0.size)
    have H3 := Bx.new w2 92 #[.slice (some ⟨g, 0, none⟩) es.length c, .int .i64 s, .slice none 0 0, .bool true]
    have O3 := O2.alloc (.cells #[.slice (some ⟨g, 0, none⟩) es.length c, .int .i64 s, .slice none 0 0, .bool true] 92)
    have L3 := L2.alloc L2.size (.cells #[.slice (some ⟨g, 0, none⟩) es.length c, .int .i64 s, .slice none 0 0, .bool true] 92)
    have HSB := Lib.hid hsb
    clear hsb0 hsb x0 x1 x2 X0 O2 L2 b2 HH
    go_upto_region 2 with fail
    generalize w2.alloc (.cells #[.slice (some ⟨g, 0, none⟩) es.length c, .int .i64 s, .slice none 0 0, .bool true] 92) = w3 at *
    generalize w2.heap.size = B at *
    obtain ⟨z0, z1, z2, z3⟩ := H3.host
    obtain ⟨_, hr3, hr4⟩ := srv_iff.1 HSB.out
    simp only [] at hr3 hr4
    have HNS := Lib.hid (news_any w1.heap.size B g c es _ s f true w3 H3 O3 hf.1 (by omega) (by omega))
    have i5 : (f : Int) ≤ (s : Int) := by omega
    have hle : ((es.drop f).take (s - f)).length = s - f := by rw [List.length_take, List.length_drop]; omega
    clear O3 H3 hr4
    have i6 : 0 ≤ (f : Int) := by omega
    have HLE := Lib.hid hle
    clear hle
    go_wp2_with fail
    refine HNS.out.mono ?_
    rintro _ w4 ⟨g4, c4, rfl, O4, b4⟩
    have L4 := L3.trans (b4.mono L3.size)
    have HFF : Hid (RetNO ((es.drop f).take (s - f)) (s - f) w (.returned (.slice (some ⟨g4, 0, none⟩) ((es.drop f).take (s - f)).length c4)) w4) := ⟨g4, c4, by rw [HLE.out], by have := O4.len; rw [HLE.out] at this; exact this, O4.mono L3.size, L4⟩
    clear HNS O4 HLE
    generalize (es.drop f).take (s - f) = L at *
    go_wp2
    go_ret
    exact HFF.out
  · rw [hsb0] at hsb; cases hsb

set_option maxRecDepth 100000 in
set_option maxHeartbeats 8000000 in
theorem fnNews_walk (w : World) (ht : Tab w) (a : Option Addr) (len cap : Nat) (hb : Bytes w a len cap) (a2 : Option Addr) (len2 cap2 : Nat) (_hb2 : Bytes w a2 len2 cap2) :
    Calls Tryd.prog 5 #[.slice a len cap, .slice a2 len2 cap2] w fun e w' => e = .returned (.bool true) ∧ Below w.heap.size w w' := by
  by_cases hlen : len ≤ 1048576 ∧ len2 ≤ 1048576
  · have i0 : (len : Int) ≤ 1048576 := by omega
    have i02 : (len2 : Int) ≤ 1048576 := by omega
    have HD := Lib.hid (drawServerNews_any a len cap w hb)
    clear hb
    go_enter Tryd.func5, Tryd.ntmps5
    go_wp2_with fail
    refine HD.out.mono ?_
    rintro _ w1 ⟨g, oc, es, sf, up, n, rfl, hsf, hnn, L1⟩
    obtain ⟨hn1, hn2⟩ := hnn
    obtain ⟨hs1, hs2⟩ := hsf
    clear HD
    have hel := L1.len
    have hoc := L1.cap
    have al := (Below.refl w1.heap.size w1).alloc (Nat.le_refl _) (.cells #[.slice (some ⟨g, 0, none⟩) es.length oc, .int .i64 sf, .bool up] 43)
    have A2 := Bx.new w1 43 #[.slice (some ⟨g, 0, none⟩) es.length oc, .int .i64 sf, .bool up]
    have L2 := L1.below al
    clear L1 al
    go_upto_region 4 with fail
    generalize w1.alloc (.cells #[.slice (some ⟨g, 0, none⟩) es.length oc, .int .i64 sf, .bool up] 43) = w2 at *
    generalize w1.heap.size = bs at *
    by_cases hok : newsOk ⟨es, sf, up⟩ n = true
    · obtain ⟨hsb, hup, hr1, hr2⟩ := newsOk_is.1 hok
      simp only [] at hup hr2
      subst hup
      obtain ⟨_, hr3, hr4⟩ := srv_iff.1 hsb
      simp only [] at hr3 hr4
      obtain ⟨s, rfl⟩ := Int.eq_ofNat_of_zero_le hr3
      obtain ⟨f, rfl⟩ := Int.eq_ofNat_of_zero_le hr1
      have i5 : f ≤ s := by omega
      have i6 : s ≤ es.length := by omega
      have HL : Hid (((es.drop f).take (s - f)).length = s - f) := by unfold Hid; rw [List.length_take, List.length_drop]; omega
      have HNN := Lib.hid (news_nat hok)
      have HN : Hid (∀ x : World, Logs w x g oc es → Calls Tryd.prog 23 #[.agg #[.slice (some ⟨g, 0, none⟩) es.length oc, .int .i64 s, .bool true], .int .i64 f] x (RetNO ((es.drop f).take (s - f)) (s - f) x)) := fun x hL => implServerNews_own g 0 oc es s f x hL.hi hL.at_ hL.fit (hL.tabS ht) hok
      have HSN : Hid (∀ x : World, Logs w x g oc es → Calls Tryd.prog 25 #[.agg #[.slice (some ⟨g, 0, none⟩) es.length oc, .int .i64 s, .bool true], .int .i64 f] x (fun r w' => ∃ a c, r = .returned (.slice a (s - f) c) ∧ GotE x.heap.size w' a ((es.drop f).take (s - f)) ∧ Below x.heap.size x w')) := fun x hL => by
        have q := specServerNews_any g 0 oc es s true f x hL.hi hL.at_ hL.fit hL.cap.1 hL.cap.2
        rw [HNN.out] at q
        refine q.mono ?_
        rintro r w' ⟨a, c, rfl, h1, h2⟩
        exact ⟨a, c, by rw [HL.out], h1, h2⟩
      have HK : Hid (∀ x : World, Logs w x g oc es → Calls Tryd.prog 26 #[.agg #[.slice (some ⟨g, 0, none⟩) es.length oc, .int .i64 s, .bool true]] x (RetBelow (.bool true) x)) := fun x hL => by
        have q := specServerOk_any x.heap.size (some ⟨g, 0, none⟩) oc es s true x (Nat.le_refl _) hL.at_ hL.fit hL.cap.1 hL.cap.2
        rw [hsb] at q; exact q
      have HLP : Hid (∀ (x : World) (p p' : Option Addr) (c c' : Nat), EntsAt x.heap.size x p ((es.drop f).take (s - f)) → EntsAt x.heap.size x p' ((es.drop f).take (s - f)) → Calls Tryd.prog 24 #[.slice p (s - f) c, .slice p' (s - f) c'] x (RetBelow (.bool true) x)) := fun x p p' c c' h1 h2 => by
        have q := lpLog_same x.heap.size p p' c c' ((es.drop f).take (s - f)) x (Nat.le_refl _) h1 h2 (by rw [HL.out]; omega)
        rw [HL.out] at q; exact q
      have HTW : Hid (∀ k, k ≤ s - f → newsOk ⟨es, s, true⟩ ((f + k : Nat) : Int) = true ∧ ((es.drop f).take (s - f)).take k ++ (es.drop (f + k)).take (s - (f + k)) = (es.drop f).take (s - f)) := fun k hk => by
        have hk' : k ≤ (newsL ⟨es, s, true⟩ f).length := by rw [HNN.out, HL.out]; exact hk
        have q := news_two hok hk'
        have q1 : newsOk ⟨es, s, true⟩ ((f + k : Nat) : Int) = true := by rw [Int.natCast_add]; exact q.1
        refine ⟨q1, ?_⟩
        have q2 := q.2
        rw [HNN.out, ← Int.natCast_add, news_nat q1] at q2
        exact q2
      have hnlt : ¬ ((f : Int) < 0) := by omega
      have hngt : ¬ ((s : Int) < (f : Int)) := by omega
      obtain ⟨x0, x1, x2⟩ := A2.srv
      clear hok hsb HNN hr1 hr2 hr3 hr4 hs1 hs2 hn1 hn2
      go_wp2_with fail
      refine (HN.out w2 L2).mono ?_
      rintro _ w3 ⟨gx, xc, rfl, hxc, O3, h3⟩
      have A3 := A2.below h3 A2.lt
      have L3 := L2.below h3
      clear A2 L2 h3 x0 x1 x2 HN
      obtain ⟨x0, x1, x2⟩ := A3.srv
      go_wp2_with fail
      refine (HSN.out w3 L3).mono ?_
      rintro _ w4 ⟨wa, wc, rfl, G4, h4⟩
      have A4 := A3.below h4 A3.lt
      have L4 := L3.below h4
      have O4 := O3.below h4 (Nat.le_refl _)
      clear A3 L3 O3 h4 x0 x1 x2 HSN
      obtain ⟨x0, x1, x2⟩ := A4.srv
      go_wp2_with fail
      refine (HLP.out w4 _ _ _ _ O4.ents G4.ents).mono ?_
      rintro _ w5 ⟨rfl, h5⟩
      have A5 := A4.below h5 A4.lt
      have L5 := L4.below h5
      have O5 := O4.below h5 (Nat.le_refl _)
      clear A4 L4 O4 G4 h5 x0 x1 x2
      obtain ⟨x0, x1, x2⟩ := A5.srv
      go_wp2_with fail
      refine (HK.out w5 L5).mono ?_
      rintro _ w6 ⟨rfl, h6⟩
      have A6 := A5.below h6 A5.lt
      have L6 := L5.below h6
      have O6 := O5.below h6 (Nat.le_refl _)
      clear A5 L5 O5 h6 x0 x1 x2 HK
      obtain ⟨x0, x1, x2⟩ := A6.srv
      have hk1 : len2 % (s - f + 1) ≤ s - f := Nat.le_of_lt_succ (Nat.mod_lt _ (by omega))
      have hw1 : IntKind.i64.wrap (((s - f : Nat) : Int) + 1) = ((s - f : Nat) : Int) + 1 := IntWalk.i64_in _ (by omega)
      have hz1 : ¬ (((s - f : Nat) : Int) + 1 = 0) := by omega
      have hz1b : ((((s - f : Nat) : Int) + 1) == 0) = false := by simpa using hz1
      have ht1 : ((len2 : Nat) : Int).tmod (((s - f : Nat) : Int) + 1) = ((len2 % (s - f + 1) : Nat) : Int) := by
        rw [Int.tmod_eq_emod_of_nonneg (by omega)]; rfl
      have hw2 : IntKind.i64.wrap ((len2 % (s - f + 1) : Nat) : Int) = ((len2 % (s - f + 1) : Nat) : Int) := IntWalk.i64_in _ (by omega)
      have hw3 : IntKind.i64.wrap ((f : Int) + ((len2 % (s - f + 1) : Nat) : Int)) = (f : Int) + ((len2 % (s - f + 1) : Nat) : Int) := IntWalk.i64_in _ (by omega)
      go_upto_region 10 with fail
      have hkI : ((len2 : Nat) : Int) % (((s - f : Nat) : Int) + 1) = ((len2 % (s - f + 1) : Nat) : Int) := rfl
      rw [hkI]
      clear hkI ht1 hw2 hz1 hz1b hw1
      generalize len2 % (s - f + 1) = k at *
      have HN2 : Hid (∀ x : World, Logs w x g oc es → Calls Tryd.prog 23 #[.agg #[.slice (some ⟨g, 0, none⟩) es.length oc, .int .i64 s, .bool true], .int .i64 ((f : Int) + (k : Int))] x (RetNO ((es.drop (f + k)).take (s - (f + k))) (s - (f + k)) x)) := fun x hL => by
        have q := implServerNews_own g 0 oc es s (f + k) x hL.hi hL.at_ hL.fit (hL.tabS ht) (HTW.out k hk1).1
        rw [Int.natCast_add] at q; exact q
      have HJ := Lib.hid (HTW.out k hk1).2
      have HLM : Hid (((es.drop (f + k)).take (s - (f + k))).length = s - (f + k)) := by unfold Hid; rw [List.length_take, List.length_drop]; omega
      have HLT : Hid ((((es.drop f).take (s - f)).take k).length = k) := by unfold Hid; rw [List.length_take, HL.out]; omega
      obtain ⟨o, ho, hpt⟩ : ∃ o, (if oc = f then some (⟨g, 0, none⟩ : Addr) else some ⟨g, f * 7, none⟩) = some ⟨g, o, none⟩ ∧ ∀ x : World, Logs w x g oc es → EntsAt x.heap.size x (some ⟨g, o, none⟩) ((es.drop f).take (s - f)) := by
        by_cases q : oc = f
        · exact ⟨0, if_pos q, fun x hL => .inl (by rw [List.length_take, List.length_drop]; omega)⟩
        · exact ⟨f * 7, if_neg q, fun x hL => by have q := hL.at_.part f (s - f); rw [Nat.zero_add] at q; exact q⟩
      have HPT := Lib.hid hpt
      have i7 : s ≤ oc := by omega
      clear HTW hpt
      generalize (es.drop (f + k)).take (s - (f + k)) = M at *
      generalize (es.drop f).take (s - f) = L at *
      go_wp2_with fail
      refine (HN2.out w6 L6).mono ?_
      rintro _ w7 ⟨gy, yc, rfl, hyc, Y7, h7⟩
      have A7 := A6.below h7 A6.lt
      have L7 := L6.below h7
      have O7 := O6.below h7 (Nat.le_refl _)
      clear A6 L6 O6 h7 x0 x1 x2 HN2 hw3 hnlt hngt
      obtain ⟨x0, x1, x2⟩ := A7.srv
      go_wp2_with fail
      refine (HLP.out w7 _ _ _ _ O7.ents (HPT.out w7 L7)).mono ?_
      rintro _ w8 ⟨rfl, h8⟩
      have L8 := L7.below h8
      have O8 := O7.below h8 (Nat.le_refl _)
      have Y8 := Y7.below h8 (Nat.le_refl _)
      clear A7 L7 O7 Y7 h8 x0 x1 x2 HPT ho
      obtain ⟨i0', hi, hz0, hz1, hz2⟩ := info_parts infoEnt
      have own0 := own_emptyE w8 52
      have d1 : Below w8.heap.size w8 (w8.alloc (.cells #[] 52)) := (Below.refl _ _).alloc (Nat.le_refl _) _
      have n1 := Lib.hid ((O8.below d1 (Nat.le_refl _)).ents.take k).news
      have m1 : Hid ((cellsE (L.take k)).length = k * 7) := by unfold Hid; rw [cellsE_len, HLT.out]
      have i8 : k ≤ xc := by omega
      go_wp2_with (at_builtin; refine wpList_appendG (by first | rfl | simp [Region.wanted, yielded]) (.tmp 78) (.tmp 81) 25 rfl w8.heap.size 52 i0' (.agg #[.int .i64 0, .int .i64 0, .int .i64 0, .int .i64 0, .int .i64 0, .int .i64 0, .string ⟨#[]⟩]) 7 64 Tryd.underlying25 hi hz0 hz1 hz2 rfl (by decide) _ _ _ rfl own0 ⟨gx, 0, none⟩ k _ (cellsE (L.take k)) rfl m1.out n1.out (cellsE_plain _) (by unfold maxLen; omega) (by omega) d1.size ?_)
      intro v4 w9 own4 grow4
      have own4' : w9.ownsRow w8.heap.size 52 7 v4 k (cellsE (L.take k)) := by simpa using own4
      have b9 : Below w8.heap.size w8 w9 := d1.grown grow4 d1.size (own_block own0)
      obtain ⟨va, vc, rfl, _⟩ := own_slice own4'
      have Y9 := Y8.below b9 (Nat.le_refl _)
      have n2 := Lib.hid Y9.ents.news
      have m2 : Hid ((cellsE M).length = (s - (f + k)) * 7) := by unfold Hid; rw [cellsE_len, HLM.out]
      clear own4 grow4 own0 d1 n1 m1 Y8 Y9
      go_wp2_with (at_builtin; refine wpList_appendG (by first | rfl | simp [Region.wanted, yielded]) (.tmp 82) (.tmp 83) 25 rfl w8.heap.size 52 i0' (.agg #[.int .i64 0, .int .i64 0, .int .i64 0, .int .i64 0, .int .i64 0, .int .i64 0, .string ⟨#[]⟩]) 7 64 Tryd.underlying25 hi hz0 hz1 hz2 rfl (by decide) _ _ _ rfl own4' ⟨gy, 0, none⟩ (s - (f + k)) _ (cellsE M) rfl m2.out n2.out (cellsE_plain _) (by unfold maxLen; omega) (by omega) b9.size ?_)
      intro v5 w10 own5 grow5
      have own5' : w10.ownsRow w8.heap.size 52 7 v5 (s - f) (cellsE L) := by
        have q := own5
        rw [← cellsE_append, HJ.out, show k + (s - (f + k)) = s - f by omega] at q; exact q
      have b10 : Below w8.heap.size w8 w10 := b9.grown grow5 b9.size (own_block own4')
      obtain ⟨va5, vc5, rfl, _⟩ := own_slice own5'
      have P5 : EntsAt w10.heap.size w10 va5 L := entsAt_own (cap := vc5) (by rw [HL.out]; exact own5')
      have L10 := L8.below b10
      have O10 := O8.below b10 (Nat.le_refl _)
      clear own5 grow5 own4' own5' n2 m2 L8 O8 b9 b10 hi hz0 hz1 hz2
      go_wp2_with fail
      refine (HLP.out w10 _ _ _ _ P5 O10.ents).mono ?_
      rintro _ w11 ⟨rfl, h11⟩
      have L11 := L10.below h11
      go_wp2
      go_ret
      exact ⟨rfl, L11.low⟩
    · have hne : newsOk ⟨es, sf, up⟩ n = false := by simpa using hok
      have HN : Hid (∀ x : World, Logs w x g oc es → Calls Tryd.prog 23 #[.agg #[.slice (some ⟨g, 0, none⟩) es.length oc, .int .i64 sf, .bool up], .int .i64 n] x (fun r w' => ∃ a c, r = .returned (.slice a 0 c) ∧ GotE x.heap.size w' a [] ∧ Below x.heap.size x w')) := fun x hL => by
        have q := implServerNews_any g 0 oc es sf up n x hL.hi hL.at_ hL.fit (hL.tabS ht)
        rw [news_no hne] at q; exact q
      have HSN : Hid (∀ x : World, Logs w x g oc es → Calls Tryd.prog 25 #[.agg #[.slice (some ⟨g, 0, none⟩) es.length oc, .int .i64 sf, .bool up], .int .i64 n] x (fun r w' => ∃ a c, r = .returned (.slice a 0 c) ∧ GotE x.heap.size w' a [] ∧ Below x.heap.size x w')) := fun x hL => by
        have q := specServerNews_any g 0 oc es sf up n x hL.hi hL.at_ hL.fit hL.cap.1 hL.cap.2
        rw [news_no hne] at q; exact q
      have HLP : Hid (∀ (x : World) (p p' : Option Addr) (c c' : Nat), Calls Tryd.prog 24 #[.slice p 0 c, .slice p' 0 c'] x (RetBelow (.bool true) x)) := fun x p p' c c' => lpLog_same x.heap.size p p' c c' [] x (Nat.le_refl _) (.inl rfl) (.inl rfl) (by simp)
      have HK : Hid (∀ x : World, Logs w x g oc es → Calls Tryd.prog 26 #[.agg #[.slice (some ⟨g, 0, none⟩) es.length oc, .int .i64 sf, .bool up]] x (RetBelow (.bool (srvB ⟨es, sf, up⟩)) x)) := fun x hL => specServerOk_any x.heap.size (some ⟨g, 0, none⟩) oc es sf up x (Nat.le_refl _) hL.at_ hL.fit hL.cap.1 hL.cap.2
      have HC : Hid (srvB ⟨es, sf, up⟩ = false ∨ (srvB ⟨es, sf, up⟩ = true ∧ n < 0) ∨ (srvB ⟨es, sf, up⟩ = true ∧ ¬ n < 0 ∧ sf < n) ∨ (srvB ⟨es, sf, up⟩ = true ∧ ¬ n < 0 ∧ ¬ sf < n ∧ up = false)) := by
        unfold Hid
        cases hs : srvB ⟨es, sf, up⟩
        · exact .inl rfl
        · by_cases q : n < 0
          · exact .inr (.inl ⟨rfl, q⟩)
          · by_cases q2 : sf < n
            · exact .inr (.inr (.inl ⟨rfl, q, q2⟩))
            · refine .inr (.inr (.inr ⟨rfl, q, q2, ?_⟩))
              cases up
              · rfl
              · exact absurd (newsOk_is.2 ⟨hs, rfl, by omega, show n ≤ sf by omega⟩) hok
      generalize srvB ⟨es, sf, up⟩ = sb at *
      obtain ⟨x0, x1, x2⟩ := A2.srv
      clear hok hne
      go_wp2_with fail
      refine (HN.out w2 L2).mono ?_
      rintro _ w3 ⟨xa, xc, rfl, _, h3⟩
      have A3 := A2.below h3 A2.lt
      have L3 := L2.below h3
      clear A2 L2 h3 x0 x1 x2 HN
      obtain ⟨x0, x1, x2⟩ := A3.srv
      go_wp2_with fail
      refine (HSN.out w3 L3).mono ?_
      rintro _ w4 ⟨wa, wc, rfl, _, h4⟩
      have A4 := A3.below h4 A3.lt
      have L4 := L3.below h4
      clear A3 L3 h4 x0 x1 x2
      obtain ⟨x0, x1, x2⟩ := A4.srv
      go_wp2_with fail
      refine (HLP.out w4 _ _ _ _).mono ?_
      rintro _ w5 ⟨rfl, h5⟩
      have A5 := A4.below h5 A4.lt
      have L5 := L4.below h5
      clear A4 L4 h5 x0 x1 x2
      obtain ⟨x0, x1, x2⟩ := A5.srv
      go_wp2_with fail
      refine (HK.out w5 L5).mono ?_
      rintro _ w6 ⟨rfl, h6⟩
      have A6 := A5.below h6 A5.lt
      have L6 := L5.below h6
      clear A5 L5 h6 x0 x1 x2 HK
      obtain ⟨x0, x1, x2⟩ := A6.srv
      have hc := HC.out
      clear HC
      rcases hc with rfl | ⟨rfl, q⟩ | ⟨rfl, q, q2⟩ | ⟨rfl, q, q2, rfl⟩
      · go_wp2_with fail
        refine (HSN.out w6 L6).mono ?_
        rintro _ w7 ⟨va, vc, rfl, _, h7⟩
        have L7 := L6.below h7
        clear A6 L6 h7 x0 x1 x2
        go_wp2_with fail
        refine (HLP.out w7 _ _ _ _).mono ?_
        rintro _ w8 ⟨rfl, h8⟩
        have L8 := L7.below h8
        go_wp2
        go_ret
        exact ⟨rfl, L8.low⟩
      · go_wp2_with fail
        refine (HSN.out w6 L6).mono ?_
        rintro _ w7 ⟨va, vc, rfl, _, h7⟩
        have L7 := L6.below h7
        clear A6 L6 h7 x0 x1 x2
        go_wp2_with fail
        refine (HLP.out w7 _ _ _ _).mono ?_
        rintro _ w8 ⟨rfl, h8⟩
        have L8 := L7.below h8
        go_wp2
        go_ret
        exact ⟨rfl, L8.low⟩
      · go_wp2_with fail
        refine (HSN.out w6 L6).mono ?_
        rintro _ w7 ⟨va, vc, rfl, _, h7⟩
        have L7 := L6.below h7
        clear A6 L6 h7 x0 x1 x2
        go_wp2_with fail
        refine (HLP.out w7 _ _ _ _).mono ?_
        rintro _ w8 ⟨rfl, h8⟩
        have L8 := L7.below h8
        go_wp2
        go_ret
        exact ⟨rfl, L8.low⟩
      · go_wp2
        go_ret
        exact ⟨rfl, L6.low⟩
  · by_cases h1 : len ≤ 1048576
    · have i0 : (len : Int) ≤ 1048576 := by omega
      have i1 : ¬ (len2 : Int) ≤ 1048576 := by omega
      go_enter Tryd.func5, Tryd.ntmps5
      go_wp2
      go_ret
      exact ⟨rfl, Below.refl _ _⟩
    have i0 : ¬ (len : Int) ≤ 1048576 := by omega
    go_enter Tryd.func5, Tryd.ntmps5
    go_wp2
    go_ret
    exact ⟨rfl, Below.refl _ _⟩
end Go.Proofs.YtoofdhooinaneaaDoor
