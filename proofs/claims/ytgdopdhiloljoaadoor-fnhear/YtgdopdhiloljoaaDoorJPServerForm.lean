/-
  The walk of the law FnServerForm out of the contracts. Conditions: the argument reads as bytes; the table 'creators' holds what its initialiser lays.
-/
import Derived.Test.YtgdopdhiloljoaaDoorJDSrv2
import Derived.Test.YtgdopdhiloljoaaDoorGV
namespace Go.Proofs.YtgdopdhiloljoaaDoor
open Go.ChangeShapes Go.WideShapes Go.ChangeAt Go.RowKit Go.Joins

theorem Logs.tabS {w w' : World} {g oc : Nat} {es : List EntD} (h : Logs w w' g oc es) (ht : Tab w) : Tab w' := ht.below h.low ht.pos
theorem implServerNew_any (w : World) : Calls Tryd.prog 40 #[] w (RetBelow (.agg #[.slice none 0 0, .int .i64 0, .bool true]) w) := by
  go_enter Tryd.func40, Tryd.ntmps40
  go_wp2
  exact bodyPost_ret (v := .agg #[.slice none 0 0, .int .i64 0, .bool true]) (by simp [results, Tryd.results40, go_sem]) rfl ⟨rfl, (Below.refl _ _).alloc (Nat.le_refl _) _⟩
theorem form_over (es : List EntD) (up : Bool) : srvB ⟨es, (es.length : Int) + 1, up⟩ = false := by
  rw [Bool.eq_false_iff]; intro h
  have := (srv_iff.1 h).2.2
  simp only [] at this; omega
theorem form_neg (es : List EntD) (up : Bool) : srvB ⟨es, -1, up⟩ = false := by
  rw [Bool.eq_false_iff]; intro h
  have := (srv_iff.1 h).2.1
  simp only [] at this; omega
theorem form_cut {es : List EntD} {s : Nat} {up : Bool} (h : srvB ⟨es, s, up⟩ = true) : srvB ⟨es.take s, s, up⟩ = true := by
  rw [srv_iff] at h ⊢
  simp only [] at h ⊢
  refine ⟨logB_take h.1 (by omega), by omega, ?_⟩
  rw [List.length_take]; omega
theorem form_new : srvB ⟨[], 0, true⟩ = true := by decide
theorem fit_take {es : List EntD} {k : Nat} (h : EntsFit es) (hk : k ≤ es.length) : EntsFit (es.take k) := by
  refine ⟨by rw [List.length_take]; have := h.1; omega, fun i hi => ?_⟩
  rw [List.length_take] at hi
  rw [eat_take (by omega)]; exact h.2 i (by omega)
set_option maxRecDepth 100000 in
set_option maxHeartbeats 4000000 in
theorem fnServerForm_walk (w : World) (ht : Tab w) (a : Option Addr) (len cap : Nat) (hb : Bytes w a len cap) :
    Calls Tryd.prog 9 #[.slice a len cap] w fun e w' => e = .returned (.bool true) ∧ Below w.heap.size w w' := by
  by_cases hlen : len ≤ 1048576
  · have i0 : (len : Int) ≤ 1048576 := by omega
    have HD := Lib.hid (drawServerOk_any a len cap w hb)
    clear hb
    go_enter Tryd.func9, Tryd.ntmps9
    go_wp2_with fail
    refine HD.out.mono ?_
    rintro _ w1 ⟨g, oc, es, sf, up, rfl, hsf, L1⟩
    clear HD
    have HI : Hid (∀ x : World, Logs w x g oc es → ∀ q : Int, Calls Tryd.prog 27 #[.agg #[.slice (some ⟨g, 0, none⟩) es.length oc, .int .i64 q, .bool up]] x (RetBelow (.bool (srvB ⟨es, q, up⟩)) x)) := fun x hL q => implServerOk_any x.heap.size _ _ es q up x (Nat.le_refl _) hL.at_ hL.fit (hL.tabS ht)
    have HS : Hid (∀ x : World, Logs w x g oc es → Calls Tryd.prog 23 #[.agg #[.slice (some ⟨g, 0, none⟩) es.length oc, .int .i64 sf, .bool up]] x (RetBelow (.bool (srvB ⟨es, sf, up⟩)) x)) := fun x hL => specServerOk_any x.heap.size _ _ es sf up x (Nat.le_refl _) hL.at_ hL.fit hL.cap.1 hL.cap.2
    have al := (Below.refl w1.heap.size w1).alloc (Nat.le_refl _) (.cells #[.slice (some ⟨g, 0, none⟩) es.length oc, .int .i64 sf, .bool up] 35)
    have A2 := Bx.new w1 35 #[.slice (some ⟨g, 0, none⟩) es.length oc, .int .i64 sf, .bool up]
    have L2 := L1.below al
    have hel := L1.len
    have hoc := L1.cap
    clear L1 al
    go_upto_region 4 with fail
    generalize w1.alloc (.cells #[.slice (some ⟨g, 0, none⟩) es.length oc, .int .i64 sf, .bool up] 35) = w2 at *
    generalize w1.heap.size = b3 at *
    obtain ⟨x0, x1, x2⟩ := A2.srv
    go_wp2_with fail
    refine (HI.out w2 L2 sf).mono ?_
    rintro _ w3 ⟨rfl, h3⟩
    have A3 := A2.below h3 A2.lt
    have L3 := L2.below h3
    clear A2 L2 h3 x0 x1 x2
    obtain ⟨x0, x1, x2⟩ := A3.srv
    go_wp2_with fail
    refine (HS.out w3 L3).mono ?_
    rintro _ w4 ⟨rfl, h4⟩
    have A4 := A3.below h4 A3.lt
    have L4 := L3.below h4
    clear A3 L3 h4 x0 x1 x2
    obtain ⟨x0, x1, x2⟩ := A4.srv
    cases hsb : srvB ⟨es, sf, up⟩
    · go_wp2_with fail
      refine (HS.out w4 L4).mono ?_
      rintro _ w5 ⟨rfl, h5⟩
      rw [hsb]
      have L5 := L4.below h5
      go_wp2
      go_ret
      exact ⟨rfl, L5.low⟩
    · obtain ⟨_, s0, s1⟩ := srv_iff.1 hsb
      simp only [] at s0 s1
      obtain ⟨s, rfl⟩ := Int.eq_ofNat_of_zero_le s0
      have HSB := Lib.hid hsb
      have HC1 := Lib.hid (form_over es up)
      have HC2 := Lib.hid (form_neg es up)
      have HC3 := Lib.hid (form_cut hsb)
      have HFT := Lib.hid (fit_take L4.fit (show s ≤ es.length by omega))
      clear hsb HS
      have hsl : (es.take s).length = s := by rw [List.length_take]; omega
      have HSL := Lib.hid hsl
      clear hsl
      have i1 : s ≤ es.length := by omega
      have i2 : s ≤ oc := by omega
      -- three boxes
      have B5 := Bx.new w4 35 #[.slice (some ⟨g, 0, none⟩) es.length oc, .int .i64 (s : Int), .bool up]
      have a5 := (Below.refl w4.heap.size w4).alloc (Nat.le_refl _) (.cells #[.slice (some ⟨g, 0, none⟩) es.length oc, .int .i64 (s : Int), .bool up] 35)
      have A5 := A4.below a5 A4.lt
      have L5 := L4.below a5
      have h45 : b3 < w4.heap.size := A4.lt
      have hg4 : g < w4.heap.size := L4.hi
      clear A4 L4 a5
      go_upto_region 8 with fail
      generalize w4.alloc (.cells #[.slice (some ⟨g, 0, none⟩) es.length oc, .int .i64 (s : Int), .bool up] 35) = w5 at *
      generalize w4.heap.size = b5 at *
      clear x0 x1 x2
      obtain ⟨x0, x1, x2⟩ := A5.srv
      obtain ⟨z0, z1, z2⟩ := B5.srv
      have f1 := B5.frozen 1
      have B6 : Bx (w5.setCell ⟨b5, 1, none⟩ (.int .i64 ((es.length : Int) + 1))) b5 35 #[.slice (some ⟨g, 0, none⟩) es.length oc, .int .i64 ((es.length : Int) + 1), .bool up] := B5.put 1 _
      have A6 := A5.other (j := 1) (show b3 ≠ b5 by omega) (.int .i64 ((es.length : Int) + 1))
      have hwb5 : w.heap.size ≤ b5 := Nat.le_trans L5.lo (Nat.le_of_lt hg4)
      have L6 := L5.putL (k := 1) hwb5 (show g ≠ b5 by omega) (.int .i64 ((es.length : Int) + 1))
      clear A5 B5 L5
      go_upto_region 9 with fail
      generalize w5.setCell ⟨b5, 1, none⟩ (.int .i64 ((es.length : Int) + 1)) = w6 at *
      clear x0 x1 x2 z0 z1 z2 f1
      obtain ⟨x0, x1, x2⟩ := A6.srv
      have a7 := (Below.refl w6.heap.size w6).alloc (Nat.le_refl _) (.cells #[.slice (some ⟨g, 0, none⟩) es.length oc, .int .i64 (s : Int), .bool up] 35)
      have C7 := Bx.new w6 35 #[.slice (some ⟨g, 0, none⟩) es.length oc, .int .i64 (s : Int), .bool up]
      have A7 := A6.below a7 A6.lt
      have B7 := B6.below a7 B6.lt
      have L7 := L6.below a7
      have h67 : b5 < w6.heap.size := B6.lt
      have h37 : b3 < w6.heap.size := A6.lt
      have hg7 : g < w6.heap.size := L6.hi
      clear A6 B6 L6 a7
      go_upto_region 10 with fail
      generalize w6.alloc (.cells #[.slice (some ⟨g, 0, none⟩) es.length oc, .int .i64 (s : Int), .bool up] 35) = w7 at *
      generalize w6.heap.size = b7 at *
      clear x0 x1 x2
      obtain ⟨z0, z1, z2⟩ := C7.srv
      have f1 := C7.frozen 1
      have C8 : Bx (w7.setCell ⟨b7, 1, none⟩ (.int .i64 (-1))) b7 35 #[.slice (some ⟨g, 0, none⟩) es.length oc, .int .i64 (-1), .bool up] := C7.put 1 _
      have A8 := A7.other (j := 1) (show b3 ≠ b7 by omega) (.int .i64 (-1))
      have B8 := B7.other (j := 1) (show b5 ≠ b7 by omega) (.int .i64 (-1))
      have L8 := L7.putL (k := 1) (show w.heap.size ≤ b7 by omega) (show g ≠ b7 by omega) (.int .i64 (-1))
      clear A7 B7 C7 L7
      go_upto_region 11 with fail
      generalize w7.setCell ⟨b7, 1, none⟩ (.int .i64 (-1)) = w8 at *
      clear z0 z1 z2 f1
      obtain ⟨x0, x1, x2⟩ := A8.srv
      have a9 := (Below.refl w8.heap.size w8).alloc (Nat.le_refl _) (.cells #[.slice (some ⟨g, 0, none⟩) es.length oc, .int .i64 (s : Int), .bool up] 35)
      have D9 := Bx.new w8 35 #[.slice (some ⟨g, 0, none⟩) es.length oc, .int .i64 (s : Int), .bool up]
      have A9 := A8.below a9 A8.lt
      have B9 := B8.below a9 B8.lt
      have C9 := C8.below a9 C8.lt
      have L9 := L8.below a9
      have h89 : b7 < w8.heap.size := C8.lt
      have h39 : b3 < w8.heap.size := A8.lt
      have h59 : b5 < w8.heap.size := B8.lt
      have hg9 : g < w8.heap.size := L8.hi
      clear A8 B8 C8 L8 a9
      go_upto_region 12 with fail
      generalize w8.alloc (.cells #[.slice (some ⟨g, 0, none⟩) es.length oc, .int .i64 (s : Int), .bool up] 35) = w9 at *
      generalize w8.heap.size = b9 at *
      clear x0 x1 x2
      obtain ⟨x0, x1, x2⟩ := A9.srv
      obtain ⟨z0, z1, z2⟩ := D9.srv
      have f0 := D9.frozen 0
      have Da : Bx (w9.setCell ⟨b9, 0, none⟩ (.slice (some ⟨g, 0, none⟩) s oc)) b9 35 #[.slice (some ⟨g, 0, none⟩) s oc, .int .i64 (s : Int), .bool up] := D9.put 0 _
      have Ba := B9.other (j := 0) (show b5 ≠ b9 by omega) (.slice (some ⟨g, 0, none⟩) s oc)
      have Ca := C9.other (j := 0) (show b7 ≠ b9 by omega) (.slice (some ⟨g, 0, none⟩) s oc)
      have La := L9.putL (k := 0) (show w.heap.size ≤ b9 by omega) (show g ≠ b9 by omega) (.slice (some ⟨g, 0, none⟩) s oc)
      clear A9 B9 C9 D9 L9
      go_upto_region 13 with fail
      generalize w9.setCell ⟨b9, 0, none⟩ (.slice (some ⟨g, 0, none⟩) s oc) = wa at *
      clear x0 x1 x2 z0 z1 z2 f0
      obtain ⟨x0, x1, x2⟩ := Ba.srv
      go_wp2_with fail
      refine (HI.out wa La _).mono ?_
      rintro _ wb ⟨rfl, hb1⟩
      rw [HC1.out]
      have Cb := Ca.below hb1 Ca.lt
      have Db := Da.below hb1 Da.lt
      have Lb := La.below hb1
      clear Ba Ca Da La hb1 x0 x1 x2
      obtain ⟨x0, x1, x2⟩ := Cb.srv
      go_wp2_with fail
      refine (HI.out wb Lb _).mono ?_
      rintro _ wc ⟨rfl, hc1⟩
      rw [HC2.out]
      have Dc := Db.below hc1 Db.lt
      have Lc := Lb.below hc1
      clear Cb Db Lb hc1 x0 x1 x2
      obtain ⟨x0, x1, x2⟩ := Dc.srv
      have HZ := Lib.hid (implServerOk_any wc.heap.size (some ⟨g, 0, none⟩) oc (es.take s) s up wc (Nat.le_refl _) (Lc.at_.take s) HFT.out (Lc.tabS ht))
      rw [HSL.out, HC3.out] at HZ
      go_wp2_with fail
      refine HZ.out.mono ?_
      rintro _ wd ⟨rfl, hd1⟩
      have Ld := Lc.below hd1
      clear Dc Lc hd1 x0 x1 x2 HZ
      go_wp2_with fail
      refine (implServerNew_any wd).mono ?_
      rintro _ we ⟨rfl, he1⟩
      have Le := Ld.below he1
      clear Ld he1
      go_wp2_with fail
      refine (implServerOk_any we.heap.size none 0 [] 0 true we (Nat.le_refl _) (.inl rfl) ⟨Nat.zero_le _, fun i hi => by simp at hi⟩ (Le.tabS ht)).mono ?_
      rintro _ wf ⟨rfl, hf1⟩
      rw [form_new]
      have Lf := Le.below hf1
      go_wp2
      go_ret
      exact ⟨rfl, Lf.low⟩
  · have i0 : ¬ (len : Int) ≤ 1048576 := by omega
    go_enter Tryd.func9, Tryd.ntmps9
    go_wp2
    go_ret
    exact ⟨rfl, Below.refl _ _⟩
end Go.Proofs.YtgdopdhiloljoaaDoor
