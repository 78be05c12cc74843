/-
  The walk of the law FnEntryForm out of the contracts. Conditions: the arguments read as bytes; the table 'creators' holds what its initialiser lays.
-/
import Derived.Test.YtcaoojceeppibaaDoorGR
import Derived.Test.YtcaoojceeppibaaDoorGM
namespace Go.Proofs.YtcaoojceeppibaaDoor
open Go.ChangeShapes Go.WideShapes Go.ChangeAt Go.RowKit Go.Joins

theorem i64_zero : I64 0 := ⟨by decide, by decide⟩
theorem bad_who {s : Int} {o : OpD} : entB ⟨0, s, o⟩ = false := by
  have : inB (⟨0, s, o⟩ : EntD).who 1 3 = false := by show inB 0 1 3 = false; decide
  unfold entB; rw [this]; rfl
theorem bad_seq {a : Int} {o : OpD} : entB ⟨a, 0, o⟩ = false := by
  have : inB (⟨a, 0, o⟩ : EntD).seq 1 40 = false := by show inB 0 1 40 = false; decide
  unfold entB; rw [this]; simp
theorem bad_op {a s : Int} : entB ⟨a, s, ⟨0, 0, 0, 0, ⟨#[]⟩⟩⟩ = false := by
  have : opokB (⟨a, s, ⟨0, 0, 0, 0, ⟨#[]⟩⟩⟩ : EntD).op = false := by show opokB ⟨0, 0, 0, 0, ⟨#[]⟩⟩ = false; decide
  unfold entB; rw [this]; simp
theorem for_who {e : EntD} (h : entB e = true) {d : Int} (h1 : 1 ≤ d) (h3 : d ≤ 3) : entB ⟨d, e.seq, e.op⟩ = (!(e.op.kind == 1) || (d == e.who)) := by
  have hh := h
  simp only [entB, Bool.and_eq_true] at hh
  have hin : inB (⟨d, e.seq, e.op⟩ : EntD).who 1 3 = true := (inB_iff _ _ _).2 ⟨h1, h3⟩
  unfold entB
  rw [hin]
  show (true && inB e.seq 1 40 && opokB e.op && mineB ⟨d, e.seq, e.op⟩) = _
  rw [hh.1.1.2, hh.1.2]
  simp only [Bool.and_self, Bool.true_and]
  have hm := hh.2
  unfold mineB at hm ⊢
  cases hk : (e.op.kind == 1)
  · rfl
  · rw [hk] at hm
    simp only [Bool.not_true, Bool.false_or, beq_iff_eq] at hm
    show (whoI e.op.id == d) = (d == e.who)
    rw [hm]
    rw [Bool.eq_iff_iff]
    simp only [beq_iff_eq]
    exact ⟨fun q => q.symm, fun q => q.symm⟩
set_option maxRecDepth 100000 in
set_option maxHeartbeats 8000000 in
theorem fnEntryForm_walk (w : World) (ht : Tab w) (a : Option Addr) (len cap : Nat) (hb : Bytes w a len cap) (a2 : Option Addr) (len2 cap2 : Nat) (hb2 : Bytes w a2 len2 cap2) :
    Calls Tryd.prog 6 #[.slice a len cap, .slice a2 len2 cap2] w fun r w' => r = .returned (.bool true) ∧ Below w.heap.size w w' := by
  have hz := ht.pos
  have hm2 := hb2.1
  have hm3 := hb2.2.1
  unfold maxLen at hm3
  by_cases hlen : len ≤ 1048576
  · have i0 : (len : Int) ≤ 1048576 := by omega
    by_cases hlen2 : len2 ≤ 1048576
    · have i02 : (len2 : Int) ≤ 1048576 := by omega
      have HD := Lib.hid (drawEntryOk_any a len cap w w.heap.size (Nat.le_refl _) hb.1 hb.2.1 hb.2.2)
      clear hb hb2
      go_enter Tryd.func6, Tryd.ntmps6
      go_wp2_with fail
      refine HD.out.mono ?_
      rintro _ w1 ⟨e, hE, rfl, b1⟩
      have HI : Hid (∀ (x : World) (f : EntD), Below w.heap.size w x → EFit f → Calls Tryd.prog 27 #[.agg #[.int .i64 f.who, .int .i64 f.seq, .int .i64 f.op.kind, .int .i64 f.op.id, .int .i64 f.op.up, .int .i64 f.op.at_, .string f.op.txt]] x (RetBelow (.bool (entB f)) x)) := fun x f hx hf => implEntryOk_any f x (ht.below hx hz) hf
      have HS : Hid (∀ (x : World), Calls Tryd.prog 28 #[.agg #[.int .i64 e.who, .int .i64 e.seq, .int .i64 e.op.kind, .int .i64 e.op.id, .int .i64 e.op.up, .int .i64 e.op.at_, .string e.op.txt]] x (RetBelow (.bool (entB e)) x)) := fun x => specEntryOk_any e x hE.fit
      have HFE := Lib.hid hE.fit
      have al : Below w1.heap.size w1 (w1.alloc (.cells #[.int .i64 e.who, .int .i64 e.seq, .int .i64 e.op.kind, .int .i64 e.op.id, .int .i64 e.op.up, .int .i64 e.op.at_, .string e.op.txt] 42)) := (Below.refl _ _).alloc (Nat.le_refl _) _
      have b2 := b1.trans (al.mono b1.size)
      have X2 := EBx.new w1 e
      have hwb := hE.who
      clear hE b1 al
      go_upto_region 4 with fail
      generalize w1.alloc (.cells #[.int .i64 e.who, .int .i64 e.seq, .int .i64 e.op.kind, .int .i64 e.op.id, .int .i64 e.op.up, .int .i64 e.op.at_, .string e.op.txt] 42) = w2 at *
      generalize w1.heap.size = eb at *
      obtain ⟨x0, x1, x2, x3, x4, x5, x6⟩ := X2.cells
      go_wp2_with fail
      refine (HI.out w2 e b2 HFE.out).mono ?_
      rintro _ w3 ⟨rfl, hb3⟩
      have X3 := X2.below hb3 X2.lt
      have b3 := b2.trans (hb3.mono b2.size)
      clear X2 b2 hb3 x0 x1 x2 x3 x4 x5 x6
      obtain ⟨x0, x1, x2, x3, x4, x5, x6⟩ := X3.cells
      go_wp2_with fail
      refine (HS.out w3).mono ?_
      rintro _ w2 ⟨rfl, hb4⟩
      have X2 := X3.below hb4 X3.lt
      have b2 := b3.trans (hb4.mono b3.size)
      clear X3 b3 hb4 x0 x1 x2 x3 x4 x5 x6
      obtain ⟨x0, x1, x2, x3, x4, x5, x6⟩ := X2.cells
      cases hen : entB e
      · rw [hen] at HS
        go_wp2_with fail
        refine (HS.out w2).mono ?_
        rintro _ w5 ⟨rfl, hb5⟩
        go_wp2
        go_ret
        exact ⟨rfl, b2.trans (hb5.mono b2.size)⟩
      · have hw := ent_who hen
        have HEN := Lib.hid hen
        have heb := X2.lt
        have heb1 : eb < w2.heap.size + 1 := by omega
        have heb2 : eb < w2.heap.size + 1 + 1 := by omega
        have heb3 : eb < w2.heap.size + 1 + 1 + 1 := by omega
        have nb0 : ¬ eb = w2.heap.size := by omega
        have nb1 : ¬ eb = w2.heap.size + 1 := by omega
        have nb2 : ¬ eb = w2.heap.size + 1 + 1 := by omega
        have hd1 : 1 ≤ ((e.who + (len2 : Int) % 2) % 3 + 1) := by omega
        have hd3 : ((e.who + (len2 : Int) % 2) % 3 + 1) ≤ 3 := by omega
        have m0 : 0 ≤ (len2 : Int) % 2 := by omega
        have m1 : (len2 : Int) % 2 ≤ 1 := by omega
        have bA : Below w2.heap.size w2 ((((w2.alloc (.cells #[.int .i64 0, .int .i64 e.seq, .int .i64 e.op.kind, .int .i64 e.op.id, .int .i64 e.op.up, .int .i64 e.op.at_, .string e.op.txt] 42)).alloc (.cells #[.int .i64 e.who, .int .i64 0, .int .i64 e.op.kind, .int .i64 e.op.id, .int .i64 e.op.up, .int .i64 e.op.at_, .string e.op.txt] 42)).alloc (.cells #[.int .i64 e.who, .int .i64 e.seq, .int .i64 0, .int .i64 0, .int .i64 0, .int .i64 0, .string ⟨#[]⟩] 42)).alloc (.cells #[.int .i64 ((e.who + (len2 : Int) % 2) % 3 + 1), .int .i64 e.seq, .int .i64 e.op.kind, .int .i64 e.op.id, .int .i64 e.op.up, .int .i64 e.op.at_, .string e.op.txt] 42)) := ((((Below.refl _ _).alloc (Nat.le_refl _) _).alloc (by simp) _).alloc (by simp; omega) _).alloc (by simp; omega) _
        have s1 : (w2.alloc (.cells #[.int .i64 0, .int .i64 e.seq, .int .i64 e.op.kind, .int .i64 e.op.id, .int .i64 e.op.up, .int .i64 e.op.at_, .string e.op.txt] 42)).heap.size = w2.heap.size + 1 := by simp
        have s2 : ((w2.alloc (.cells #[.int .i64 0, .int .i64 e.seq, .int .i64 e.op.kind, .int .i64 e.op.id, .int .i64 e.op.up, .int .i64 e.op.at_, .string e.op.txt] 42)).alloc (.cells #[.int .i64 e.who, .int .i64 0, .int .i64 e.op.kind, .int .i64 e.op.id, .int .i64 e.op.up, .int .i64 e.op.at_, .string e.op.txt] 42)).heap.size = w2.heap.size + 1 + 1 := by simp
        have s3 : (((w2.alloc (.cells #[.int .i64 0, .int .i64 e.seq, .int .i64 e.op.kind, .int .i64 e.op.id, .int .i64 e.op.up, .int .i64 e.op.at_, .string e.op.txt] 42)).alloc (.cells #[.int .i64 e.who, .int .i64 0, .int .i64 e.op.kind, .int .i64 e.op.id, .int .i64 e.op.up, .int .i64 e.op.at_, .string e.op.txt] 42)).alloc (.cells #[.int .i64 e.who, .int .i64 e.seq, .int .i64 0, .int .i64 0, .int .i64 0, .int .i64 0, .string ⟨#[]⟩] 42)).heap.size = w2.heap.size + 1 + 1 + 1 := by simp
        have P1 : EBx (w2.alloc (.cells #[.int .i64 0, .int .i64 e.seq, .int .i64 e.op.kind, .int .i64 e.op.id, .int .i64 e.op.up, .int .i64 e.op.at_, .string e.op.txt] 42)) w2.heap.size ⟨0, e.seq, e.op⟩ := EBx.new w2 ⟨0, e.seq, e.op⟩
        have P2 : EBx ((w2.alloc (.cells #[.int .i64 0, .int .i64 e.seq, .int .i64 e.op.kind, .int .i64 e.op.id, .int .i64 e.op.up, .int .i64 e.op.at_, .string e.op.txt] 42)).alloc (.cells #[.int .i64 e.who, .int .i64 0, .int .i64 e.op.kind, .int .i64 e.op.id, .int .i64 e.op.up, .int .i64 e.op.at_, .string e.op.txt] 42)) (w2.heap.size + 1) ⟨e.who, 0, e.op⟩ := by rw [← s1]; exact EBx.new _ (⟨e.who, 0, e.op⟩ : EntD)
        have P3 : EBx (((w2.alloc (.cells #[.int .i64 0, .int .i64 e.seq, .int .i64 e.op.kind, .int .i64 e.op.id, .int .i64 e.op.up, .int .i64 e.op.at_, .string e.op.txt] 42)).alloc (.cells #[.int .i64 e.who, .int .i64 0, .int .i64 e.op.kind, .int .i64 e.op.id, .int .i64 e.op.up, .int .i64 e.op.at_, .string e.op.txt] 42)).alloc (.cells #[.int .i64 e.who, .int .i64 e.seq, .int .i64 0, .int .i64 0, .int .i64 0, .int .i64 0, .string ⟨#[]⟩] 42)) (w2.heap.size + 1 + 1) ⟨e.who, e.seq, ⟨0, 0, 0, 0, ⟨#[]⟩⟩⟩ := by rw [← s2]; exact EBx.new _ (⟨e.who, e.seq, ⟨0, 0, 0, 0, ⟨#[]⟩⟩⟩ : EntD)
        have P4 : EBx ((((w2.alloc (.cells #[.int .i64 0, .int .i64 e.seq, .int .i64 e.op.kind, .int .i64 e.op.id, .int .i64 e.op.up, .int .i64 e.op.at_, .string e.op.txt] 42)).alloc (.cells #[.int .i64 e.who, .int .i64 0, .int .i64 e.op.kind, .int .i64 e.op.id, .int .i64 e.op.up, .int .i64 e.op.at_, .string e.op.txt] 42)).alloc (.cells #[.int .i64 e.who, .int .i64 e.seq, .int .i64 0, .int .i64 0, .int .i64 0, .int .i64 0, .string ⟨#[]⟩] 42)).alloc (.cells #[.int .i64 ((e.who + (len2 : Int) % 2) % 3 + 1), .int .i64 e.seq, .int .i64 e.op.kind, .int .i64 e.op.id, .int .i64 e.op.up, .int .i64 e.op.at_, .string e.op.txt] 42)) (w2.heap.size + 1 + 1 + 1) ⟨((e.who + (len2 : Int) % 2) % 3 + 1), e.seq, e.op⟩ := by rw [← s3]; exact EBx.new _ (⟨((e.who + (len2 : Int) % 2) % 3 + 1), e.seq, e.op⟩ : EntD)
        have Q1 : EBx ((((w2.alloc (.cells #[.int .i64 0, .int .i64 e.seq, .int .i64 e.op.kind, .int .i64 e.op.id, .int .i64 e.op.up, .int .i64 e.op.at_, .string e.op.txt] 42)).alloc (.cells #[.int .i64 e.who, .int .i64 0, .int .i64 e.op.kind, .int .i64 e.op.id, .int .i64 e.op.up, .int .i64 e.op.at_, .string e.op.txt] 42)).alloc (.cells #[.int .i64 e.who, .int .i64 e.seq, .int .i64 0, .int .i64 0, .int .i64 0, .int .i64 0, .string ⟨#[]⟩] 42)).alloc (.cells #[.int .i64 ((e.who + (len2 : Int) % 2) % 3 + 1), .int .i64 e.seq, .int .i64 e.op.kind, .int .i64 e.op.id, .int .i64 e.op.up, .int .i64 e.op.at_, .string e.op.txt] 42)) w2.heap.size ⟨0, e.seq, e.op⟩ := ((P1.below ((Below.refl _ _).alloc (Nat.le_refl _) _) P1.lt).below ((Below.refl _ _).alloc (Nat.le_refl _) _) (Nat.lt_trans P1.lt (by simp))).below ((Below.refl _ _).alloc (Nat.le_refl _) _) (Nat.lt_trans P1.lt (by simp))
        have Q2 : EBx ((((w2.alloc (.cells #[.int .i64 0, .int .i64 e.seq, .int .i64 e.op.kind, .int .i64 e.op.id, .int .i64 e.op.up, .int .i64 e.op.at_, .string e.op.txt] 42)).alloc (.cells #[.int .i64 e.who, .int .i64 0, .int .i64 e.op.kind, .int .i64 e.op.id, .int .i64 e.op.up, .int .i64 e.op.at_, .string e.op.txt] 42)).alloc (.cells #[.int .i64 e.who, .int .i64 e.seq, .int .i64 0, .int .i64 0, .int .i64 0, .int .i64 0, .string ⟨#[]⟩] 42)).alloc (.cells #[.int .i64 ((e.who + (len2 : Int) % 2) % 3 + 1), .int .i64 e.seq, .int .i64 e.op.kind, .int .i64 e.op.id, .int .i64 e.op.up, .int .i64 e.op.at_, .string e.op.txt] 42)) (w2.heap.size + 1) ⟨e.who, 0, e.op⟩ := (P2.below ((Below.refl _ _).alloc (Nat.le_refl _) _) P2.lt).below ((Below.refl _ _).alloc (Nat.le_refl _) _) (Nat.lt_trans P2.lt (by simp))
        have Q3 : EBx ((((w2.alloc (.cells #[.int .i64 0, .int .i64 e.seq, .int .i64 e.op.kind, .int .i64 e.op.id, .int .i64 e.op.up, .int .i64 e.op.at_, .string e.op.txt] 42)).alloc (.cells #[.int .i64 e.who, .int .i64 0, .int .i64 e.op.kind, .int .i64 e.op.id, .int .i64 e.op.up, .int .i64 e.op.at_, .string e.op.txt] 42)).alloc (.cells #[.int .i64 e.who, .int .i64 e.seq, .int .i64 0, .int .i64 0, .int .i64 0, .int .i64 0, .string ⟨#[]⟩] 42)).alloc (.cells #[.int .i64 ((e.who + (len2 : Int) % 2) % 3 + 1), .int .i64 e.seq, .int .i64 e.op.kind, .int .i64 e.op.id, .int .i64 e.op.up, .int .i64 e.op.at_, .string e.op.txt] 42)) (w2.heap.size + 1 + 1) ⟨e.who, e.seq, ⟨0, 0, 0, 0, ⟨#[]⟩⟩⟩ := P3.below ((Below.refl _ _).alloc (Nat.le_refl _) _) P3.lt
        have X4 := X2.below bA X2.lt
        have b4 := b2.trans (bA.mono b2.size)
        clear P1 P2 P3 s1 s2 s3 HS HD
        go_upto_region 15 with fail
        generalize ((((w2.alloc (.cells #[.int .i64 0, .int .i64 e.seq, .int .i64 e.op.kind, .int .i64 e.op.id, .int .i64 e.op.up, .int .i64 e.op.at_, .string e.op.txt] 42)).alloc (.cells #[.int .i64 e.who, .int .i64 0, .int .i64 e.op.kind, .int .i64 e.op.id, .int .i64 e.op.up, .int .i64 e.op.at_, .string e.op.txt] 42)).alloc (.cells #[.int .i64 e.who, .int .i64 e.seq, .int .i64 0, .int .i64 0, .int .i64 0, .int .i64 0, .string ⟨#[]⟩] 42)).alloc (.cells #[.int .i64 ((e.who + (len2 : Int) % 2) % 3 + 1), .int .i64 e.seq, .int .i64 e.op.kind, .int .i64 e.op.id, .int .i64 e.op.up, .int .i64 e.op.at_, .string e.op.txt] 42)) = w4 at *
        have HV := Lib.hid (for_who HEN.out hd1 hd3)
        generalize ((e.who + (len2 : Int) % 2) % 3 + 1) = d at *
        have HF1 : Hid (EFit ⟨0, e.seq, e.op⟩) := ⟨i64_zero, HFE.out.seq, HFE.out.op⟩
        have HF2 : Hid (EFit ⟨e.who, 0, e.op⟩) := ⟨HFE.out.who, i64_zero, HFE.out.op⟩
        have HF3 : Hid (EFit ⟨e.who, e.seq, ⟨0, 0, 0, 0, ⟨#[]⟩⟩⟩) := ⟨HFE.out.who, HFE.out.seq, i64_zero, i64_zero, i64_zero, by show (⟨#[]⟩ : ByteArray).size ≤ maxLen; decide⟩
        have HF4 : Hid (EFit ⟨d, e.seq, e.op⟩) := ⟨⟨by show _ ≤ d; omega, by show d ≤ _; omega⟩, HFE.out.seq, HFE.out.op⟩
        have HC1 : Hid (∀ x : Later w4, Calls Tryd.prog 27 #[.agg #[.int .i64 0, .int .i64 e.seq, .int .i64 e.op.kind, .int .i64 e.op.id, .int .i64 e.op.up, .int .i64 e.op.at_, .string e.op.txt]] x.x (RetBelow (.bool false) x.x)) := fun x => by
          have q := HI.out x.x ⟨0, e.seq, e.op⟩ (b4.trans (x.h.mono b4.size)) HF1.out
          rw [bad_who] at q; exact q
        have HC2 : Hid (∀ x : Later w4, Calls Tryd.prog 27 #[.agg #[.int .i64 e.who, .int .i64 0, .int .i64 e.op.kind, .int .i64 e.op.id, .int .i64 e.op.up, .int .i64 e.op.at_, .string e.op.txt]] x.x (RetBelow (.bool false) x.x)) := fun x => by
          have q := HI.out x.x ⟨e.who, 0, e.op⟩ (b4.trans (x.h.mono b4.size)) HF2.out
          rw [bad_seq] at q; exact q
        have HC3 : Hid (∀ x : Later w4, Calls Tryd.prog 27 #[.agg #[.int .i64 e.who, .int .i64 e.seq, .int .i64 0, .int .i64 0, .int .i64 0, .int .i64 0, .string ⟨#[]⟩]] x.x (RetBelow (.bool false) x.x)) := fun x => by
          have q := HI.out x.x ⟨e.who, e.seq, ⟨0, 0, 0, 0, ⟨#[]⟩⟩⟩ (b4.trans (x.h.mono b4.size)) HF3.out
          rw [bad_op] at q; exact q
        have HC4 : Hid (∀ x : Later w4, Calls Tryd.prog 27 #[.agg #[.int .i64 d, .int .i64 e.seq, .int .i64 e.op.kind, .int .i64 e.op.id, .int .i64 e.op.up, .int .i64 e.op.at_, .string e.op.txt]] x.x (RetBelow (.bool (!(e.op.kind == 1) || (d == e.who))) x.x)) := fun x => by
          have q := HI.out x.x ⟨d, e.seq, e.op⟩ (b4.trans (x.h.mono b4.size)) HF4.out
          rw [HV.out] at q; exact q
        obtain ⟨p0, p1, p2, p3, p4, p5, p6⟩ := Q1.cells
        obtain ⟨q0, q1, q2, q3, q4, q5, q6⟩ := Q2.cells
        obtain ⟨r0, r1, r2, r3, r4, r5, r6⟩ := Q3.cells
        obtain ⟨t0, t1, t2, t3, t4, t5, t6⟩ := P4.cells
        obtain ⟨v0, v1, v2, v3, v4, v5, v6⟩ := X4.cells
        simp only at p0 p1 p2 p3 p4 p5 p6 q0 q1 q2 q3 q4 q5 q6 r0 r1 r2 r3 r4 r5 r6 t0 t1 t2 t3 t4 t5 t6
        have Lp0 := later_cell p0 Q1.lt
        have Lp1 := later_cell p1 Q1.lt
        have Lp2 := later_cell p2 Q1.lt
        have Lp3 := later_cell p3 Q1.lt
        have Lp4 := later_cell p4 Q1.lt
        have Lp5 := later_cell p5 Q1.lt
        have Lp6 := later_cell p6 Q1.lt
        have Lq0 := later_cell q0 Q2.lt
        have Lq1 := later_cell q1 Q2.lt
        have Lq2 := later_cell q2 Q2.lt
        have Lq3 := later_cell q3 Q2.lt
        have Lq4 := later_cell q4 Q2.lt
        have Lq5 := later_cell q5 Q2.lt
        have Lq6 := later_cell q6 Q2.lt
        have Lr0 := later_cell r0 Q3.lt
        have Lr1 := later_cell r1 Q3.lt
        have Lr2 := later_cell r2 Q3.lt
        have Lr3 := later_cell r3 Q3.lt
        have Lr4 := later_cell r4 Q3.lt
        have Lr5 := later_cell r5 Q3.lt
        have Lr6 := later_cell r6 Q3.lt
        have Lt0 := later_cell t0 P4.lt
        have Lt1 := later_cell t1 P4.lt
        have Lt2 := later_cell t2 P4.lt
        have Lt3 := later_cell t3 P4.lt
        have Lt4 := later_cell t4 P4.lt
        have Lt5 := later_cell t5 P4.lt
        have Lt6 := later_cell t6 P4.lt
        have Lv0 := later_cell v0 X4.lt
        have Lv1 := later_cell v1 X4.lt
        have Lv2 := later_cell v2 X4.lt
        have Lv3 := later_cell v3 X4.lt
        have Lv4 := later_cell v4 X4.lt
        have Lv5 := later_cell v5 X4.lt
        have Lv6 := later_cell v6 X4.lt
        clear x0 x1 x2 x3 x4 x5 x6 p0 p1 p2 p3 p4 p5 p6 q0 q1 q2 q3 q4 q5 q6 r0 r1 r2 r3 r4 r5 r6 t0 t1 t2 t3 t4 t5 t6 v0 v1 v2 v3 v4 v5 v6 Q1 Q2 Q3 P4 X4 X2 HI HV HFE HF1 HF2 HF3 HF4
        by_cases hk : e.op.kind = 1
        · have hkb : (e.op.kind != 1) = false := by rw [hk]; rfl
          have HK : Hid ((!(e.op.kind == 1) || (d == e.who)) = (d == e.who)) := by unfold Hid; rw [hk]; rfl
          rw [HK.out] at HC4
          clear hk HK
          refine wp_region_later (by kernel_rfl) (by kernel_rfl) ?_
          repeat (go_big_quiet_step (first | (go_at_call 27; (with_reducible exact later_of (HC1.out _))) | (go_at_call 27; (with_reducible exact later_of (HC2.out _))) | (go_at_call 27; (with_reducible exact later_of (HC3.out _))) | (go_at_call 27; (with_reducible exact later_of (HC4.out _)))))
          refine wpQuiet_nil ?_
          rintro wn ⟨⟨_, hbn⟩, rfl⟩
          clear Lp0 Lp1 Lp2 Lp3 Lp4 Lp5 Lp6 Lq0 Lq1 Lq2 Lq3 Lq4 Lq5 Lq6 Lr0 Lr1 Lr2 Lr3 Lr4 Lr5 Lr6 Lt0 Lt1 Lt2 Lt3 Lt4 Lt5 Lt6 Lv0 Lv1 Lv2 Lv3 Lv4 Lv5 Lv6
          go_wp2
          go_ret
          exact ⟨by first | rfl | simp, b4.trans (hbn.mono b4.size)⟩
        · have hkb : (e.op.kind != 1) = true := by simpa using hk
          have HK : Hid ((!(e.op.kind == 1) || (d == e.who)) = true) := by unfold Hid; simp [hk]
          rw [HK.out] at HC4
          clear hk HK
          refine wp_region_later (by kernel_rfl) (by kernel_rfl) ?_
          repeat (go_big_quiet_step (first | (go_at_call 27; (with_reducible exact later_of (HC1.out _))) | (go_at_call 27; (with_reducible exact later_of (HC2.out _))) | (go_at_call 27; (with_reducible exact later_of (HC3.out _))) | (go_at_call 27; (with_reducible exact later_of (HC4.out _)))))
          refine wpQuiet_nil ?_
          rintro wn ⟨⟨_, hbn⟩, rfl⟩
          clear Lp0 Lp1 Lp2 Lp3 Lp4 Lp5 Lp6 Lq0 Lq1 Lq2 Lq3 Lq4 Lq5 Lq6 Lr0 Lr1 Lr2 Lr3 Lr4 Lr5 Lr6 Lt0 Lt1 Lt2 Lt3 Lt4 Lt5 Lt6 Lv0 Lv1 Lv2 Lv3 Lv4 Lv5 Lv6
          go_wp2
          go_ret
          exact ⟨by first | rfl | simp, b4.trans (hbn.mono b4.size)⟩
    · have i02 : ¬ (len2 : Int) ≤ 1048576 := by omega
      go_enter Tryd.func6, Tryd.ntmps6
      go_wp2
      go_ret
      exact ⟨rfl, Below.refl _ _⟩
  · have i0 : ¬ (len : Int) ≤ 1048576 := by omega
    go_enter Tryd.func6, Tryd.ntmps6
    go_wp2
    go_ret
    exact ⟨rfl, Below.refl _ _⟩
end Go.Proofs.YtcaoojceeppibaaDoor
