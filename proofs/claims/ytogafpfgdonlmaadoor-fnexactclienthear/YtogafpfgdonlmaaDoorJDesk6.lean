/-
  Contract of the program's (*desk).hearAll. Conditions: as the theorem says.
-/
import Derived.Test.YtogafpfgdonlmaaDoorJDesk5
namespace Go.Proofs.YtogafpfgdonlmaaDoor
open Go.ChangeShapes Go.WideShapes Go.ChangeAt Go.RowKit Go.Joins Go.Deep
set_option linter.unusedVariables false

set_option maxRecDepth 100000 in
set_option maxHeartbeats 4000000 in
theorem hearAll_some (B base : Nat) (cs : Array Value) (c : CliD) (f : Nat) (xa : Option Addr) (xc : Nat) (fr : Int) (b off cap : Nat) (l : List EntD) (w : World) (h : Bx w B 60 cs) (hd : DeskV cs c (.slice xa c.base.length xc) f) (hf : f + c.wait.length ≤ 41) (hfd : (f : Int) - 1 = c.done) (hs : 0 ≤ c.seen ∧ c.seen ≤ 40) (hG : Got base w xa c.base) (hx1 : c.base.length ≤ xc) (hx2 : xc ≤ maxLen) (hb : base ≤ w.heap.size) (htr : treeB c.base = true) (hl : EntsAt w.heap.size w (some ⟨b, off, none⟩) l) (hlf : EntsFit l) (hlb : entsB l = true) (hcap : l.length ≤ cap) (hcm : cap ≤ maxLen) (hfr : 0 ≤ fr ∧ fr ≤ 40) (ht : Tab w) (hB0 : 0 ≠ B) (hbB : b ≠ B) (q : fr ≤ c.seen) (q2 : fr + l.length ≤ 40) (hm : ¬ (l.length : Int) < c.seen - fr) :
    Calls Tryd.prog 38 #[.pointer (some ⟨B, 0, none⟩), .int .i64 fr, .slice (some ⟨b, off, none⟩) l.length cap] w (RetHA B base c fr l w) := by
  have hz := ht.pos
  have hfit : fitB c fr l = true := by unfold fitB; simp [q, q2]
  have HBq1 : Hid (∀ k, k < (newE c fr l).length → hstepB c (newE c fr l) k = false → hearableB c fr l = false) := fun k h1 h2 => by unfold hearableB; rw [hfit, hearTo_bad h1 h2]; rfl
  have HB2 : Hid (hearTo c (newE c fr l) (newE c fr l).length = true → hearableB c fr l = true) := fun g => by unfold hearableB; rw [hfit, g]; rfl
  have x1 := h.cell 1 hd.seen
  obtain ⟨s, hsx⟩ := Int.eq_ofNat_of_zero_le (show 0 ≤ c.seen - fr by omega)
  have hs1 : s ≤ l.length := by omega
  have hs2 : newE c fr l = l.drop s := by unfold newE; rw [hsx]; rfl
  have htn : (c.seen - fr).toNat = s := by omega
  obtain ⟨o, ho, hat⟩ := part_offE (j := s) (k := l.length - s) hl hcap
  rw [List.take_of_length_le (by simp)] at hat
  have HOP : Hid (∀ k, k < (l.drop s).length → entB (eat (l.drop s) k) = true ∧ EFit (eat (l.drop s) k)) := fun k hk => by
    rw [List.length_drop] at hk
    rw [eat_drop]
    exact ⟨ents_at hlb (by omega), hlf.2 _ (by omega)⟩
  have hll : (l.drop s).length = l.length - s := List.length_drop ..
  have HNE := Lib.hid hs2
  have HRT : Hid (∀ w', But B w.heap.size w w' → hearTo c (newE c fr l) (newE c fr l).length = true → (∃ cs' f' ya yc, Bx w' B 60 cs' ∧ DeskV cs' (heardC c (newE c fr l) (newE c fr l).length) (.slice ya (heardC c (newE c fr l) (newE c fr l).length).base.length yc) f' ∧ (f' : Int) - 1 = (heardC c (newE c fr l) (newE c fr l).length).done ∧ f' + (heardC c (newE c fr l) (newE c fr l).length).wait.length ≤ 41 ∧ Got base w' ya (heardC c (newE c fr l) (newE c fr l).length).base ∧ (heardC c (newE c fr l) (newE c fr l).length).base.length ≤ yc ∧ yc ≤ maxLen) → RetHA B base c fr l w (.returned (.bool true)) w') := fun w' g1 g2 g3 => ⟨g1, .inr ⟨HB2.out g2, rfl, g3⟩⟩
  have HRF : Hid (∀ w' k, But B w.heap.size w w' → k < (newE c fr l).length → hstepB c (newE c fr l) k = false → RetHA B base c fr l w (.returned (.bool false)) w') := fun w' k g1 g2 g3 => ⟨g1, .inl ⟨HBq1.out k g2 g3, rfl⟩⟩
  rw [hs2] at HRT HRF
  clear hs2 hfit HBq1 HB2
  generalize l.drop s = L at *
  have HLL : Hid (L.length = l.length - s) := hll
  clear hll
  have hlb2 : l.length ≤ 1048576 := hlf.1
  have hLb : L.length ≤ 1048576 := by have := HLL.out; omega
  unfold maxLen at hcm
  go_enter Tryd.func38, Tryd.ntmps38
  go_upto_region 5 with fail
  rw [← HLL.out]
  clear ho
  go_loopw [36] (fun t wr => ∃ (k : Nat) (cs' : Array Value) (f' : Nat) (ya : Option Addr) (yc : Nat), k ≤ L.length ∧ t = .int .i64 k ∧ Hid (hearTo c L k = true) ∧ Bx wr B 60 cs' ∧ DeskV cs' (heardC c L k) (.slice ya (heardC c L k).base.length yc) f' ∧ (f' : Int) - 1 = (heardC c L k).done ∧ f' + (heardC c L k).wait.length ≤ 41 ∧ Got base wr ya (heardC c L k).base ∧ (heardC c L k).base.length ≤ yc ∧ yc ≤ maxLen ∧ But B w.heap.size w wr) (fun t _ => L.length - (intOf t).toNat)
  case atStart => exact ⟨0, cs, f, xa, xc, Nat.zero_le _, rfl, hearTo_zero c L, h, by simpa [heardC, cntTo, treeFrom] using hd, by simpa [heardC, cntTo] using hfd, by simpa [heardC, cntTo] using hf, by simpa [heardC, treeFrom] using hG, by simpa [heardC, treeFrom] using hx1, hx2, But.refl _ _ _⟩
  case round =>
    obtain ⟨k, cs', f', ya, yc, hk, rfl, hT, H1, V1, hfd1, hf1, G1, hy1, hy2, A1⟩ := hrel
    clear x1
    by_cases hlt : k < L.length
    · obtain ⟨b', off', e', hbw, c0, c1, c2, c3, c4, c5, c6⟩ := (hat.butN A1 (Nat.le_refl _) hbB).at_ hlt
      cases e'
      have i1 : (k : Int) < (L.length : Int) := by omega
      obtain ⟨hent, hefit⟩ := HOP.out k hlt
      have htk : treeB (heardC c L k).base = true := treeFrom_ok htr (fun i hi => ent_opok (HOP.out i (by omega)).1)
      have hsk : 0 ≤ (heardC c L k).seen ∧ (heardC c L k).seen ≤ 1000 := by
        have h9 : L.length ≤ 1048576 := by have := HLL.out; omega
        have h8 : (L.length : Int) ≤ 40 := by have := HLL.out; omega
        show 0 ≤ c.seen + k ∧ c.seen + k ≤ 1000
        omega
      have E0 := Bx.new wr 55 #[.int .i64 (eat L k).who, .int .i64 (eat L k).seq, .int .i64 (eat L k).op.kind, .int .i64 (eat L k).op.id, .int .i64 (eat L k).op.up, .int .i64 (eat L k).op.at_, .string (eat L k).op.txt]
      have H3 := H1.alloc (.cells #[.int .i64 (eat L k).who, .int .i64 (eat L k).seq, .int .i64 (eat L k).op.kind, .int .i64 (eat L k).op.id, .int .i64 (eat L k).op.up, .int .i64 (eat L k).op.at_, .string (eat L k).op.txt] 55)
      have G3 := G1.below ((Below.refl wr.heap.size wr).alloc (Nat.le_refl _) (.cells #[.int .i64 (eat L k).who, .int .i64 (eat L k).seq, .int .i64 (eat L k).op.kind, .int .i64 (eat L k).op.id, .int .i64 (eat L k).op.up, .int .i64 (eat L k).op.at_, .string (eat L k).op.txt] 55)) (Nat.le_refl _)
      have A3 := A1.alloc A1.size (.cells #[.int .i64 (eat L k).who, .int .i64 (eat L k).seq, .int .i64 (eat L k).op.kind, .int .i64 (eat L k).op.id, .int .i64 (eat L k).op.up, .int .i64 (eat L k).op.at_, .string (eat L k).op.txt] 55)
      have HD : Hid (∀ x, Bx x B 60 cs' → Got base x ya (heardC c L k).base → base ≤ x.heap.size → Tab x → Calls Tryd.prog 54 #[.pointer (some ⟨B, 0, none⟩), .agg #[.int .i64 (eat L k).who, .int .i64 (eat L k).seq, .int .i64 (eat L k).op.kind, .int .i64 (eat L k).op.id, .int .i64 (eat L k).op.up, .int .i64 (eat L k).op.at_, .string (eat L k).op.txt]] x (RetH B base (heardC c L k) (eat L k) x)) := fun x g1 g2 g3 g4 => hear_desk B base cs' (heardC c L k) (eat L k) f' ya yc x g1 V1 hf1 hfd1 hsk g2 g3 htk (ent_opok hent) hefit.op g4 hB0
      have HH1 := Lib.hid (hear1_heard c L k)
      have HH2 := Lib.hid (okH_heard c L k)
      have HNX : Hid (hstepB c L k = true → hearTo c L (k + 1) = true) := fun g => by rw [hearTo_succ, hT.out, g]; rfl
      generalize eat L k = e at *
      go_upto_region 7 with fail
      generalize wr.alloc (.cells #[.int .i64 e.who, .int .i64 e.seq, .int .i64 e.op.kind, .int .i64 e.op.id, .int .i64 e.op.up, .int .i64 e.op.at_, .string e.op.txt] 55) = w3 at *
      clear c0 c1 c2 c3 c4 c5 c6 H1 G1 A1 hT
      have f0 := E0.cell 0 rfl
      have f1 := E0.cell 1 rfl
      have f2 := E0.cell 2 rfl
      have f3 := E0.cell 3 rfl
      have f4 := E0.cell 4 rfl
      have f5 := E0.cell 5 rfl
      have f6 := E0.cell 6 rfl
      have htw : Tab w3 := fun i hi => by rw [A3.cell (p := ⟨0, i, none⟩) hz hB0]; exact ht i hi
      go_wp2_with fail
      refine (HD.out w3 H3 G3 (Nat.le_trans hb A3.size) htw).mono ?_
      rintro _ w4 ⟨A4, hq⟩
      have A5 := A3.trans (A4.mono A3.size)
      rw [HH2.out, HH1.out] at hq
      clear f0 f1 f2 f3 f4 f5 f6 E0 H3 G3 A3 A4 HD htw V1
      rcases hq with ⟨hno, rfl⟩ | ⟨hyes, rfl, cs4, f4, za, zc, H4, V4, g1, g2, G4, g3, g4⟩
      · have HF := Lib.hid (HRF.out w4 k A5 hlt hno)
        go_wp2
        go_ret
        exact HF.out
      · have HP := Lib.hid (HNX.out hyes)
        go_wp2
        go_roundw
        case rel => exact ⟨k + 1, cs4, f4, za, zc, by omega, by go_num, HP, H4, V4, g1, g2, G4, g3, g4, A5⟩
        case measure => simp [intOf]; omega
    · obtain rfl : k = L.length := by omega
      have HF := Lib.hid (HRT.out wr A1 hT.out ⟨cs', f', ya, yc, H1, V1, hfd1, hf1, G1, hy1, hy2⟩)
      clear H1 V1 G1 A1 hT
      go_wp2
      go_ret
      exact HF.out
set_option maxRecDepth 100000 in
set_option maxHeartbeats 4000000 in
theorem hearAll_old (B base : Nat) (cs : Array Value) (c : CliD) (f : Nat) (xa : Option Addr) (xc : Nat) (fr : Int) (b off cap : Nat) (l : List EntD) (w : World) (h : Bx w B 60 cs) (hd : DeskV cs c (.slice xa c.base.length xc) f) (hf : f + c.wait.length ≤ 41) (hfd : (f : Int) - 1 = c.done) (hs : 0 ≤ c.seen ∧ c.seen ≤ 40) (hG : Got base w xa c.base) (hx1 : c.base.length ≤ xc) (hx2 : xc ≤ maxLen) (hb : base ≤ w.heap.size) (htr : treeB c.base = true) (hl : EntsAt w.heap.size w (some ⟨b, off, none⟩) l) (hlf : EntsFit l) (hlb : entsB l = true) (hcap : l.length ≤ cap) (hcm : cap ≤ maxLen) (hfr : 0 ≤ fr ∧ fr ≤ 40) (ht : Tab w) (hB0 : 0 ≠ B) (hbB : b ≠ B) (q : fr ≤ c.seen) (q2 : fr + l.length ≤ 40) (hm : (l.length : Int) < c.seen - fr) :
    Calls Tryd.prog 38 #[.pointer (some ⟨B, 0, none⟩), .int .i64 fr, .slice (some ⟨b, off, none⟩) l.length cap] w (RetHA B base c fr l w) := by
  have hN : newE c fr l = [] := by unfold newE; exact List.drop_eq_nil_of_le (by omega)
  have hok : hearableB c fr l = true := by unfold hearableB fitB; rw [hN]; simp [q, q2, hearTo_zero]
  have HRT : Hid (∀ wr, But B w.heap.size w wr → Bx wr B 60 cs → Got base wr xa c.base → RetHA B base c fr l w (.returned (.bool true)) wr) := fun wr g1 g2 g3 => by
    refine ⟨g1, .inr ⟨hok, rfl, cs, f, xa, xc, g2, ?_⟩⟩
    rw [hN]
    have e : heardC c [] ([] : List EntD).length = c := by simp [heardC, cntTo, treeFrom]
    rw [e]
    exact ⟨hd, hfd, hf, g3, hx1, hx2⟩
  have x1 := h.cell 1 hd.seen
  have hlb2 : l.length ≤ 1048576 := hlf.1
  obtain ⟨o, ho, hat⟩ := part_offE (j := l.length) (k := 0) hl hcap
  unfold maxLen at hcm
  clear hN hok hat
  go_enter Tryd.func38, Tryd.ntmps38
  go_upto_region 5 with fail
  go_loopw [36] (fun t wr => ∃ k : Nat, k ≤ 0 ∧ t = .int .i64 k ∧ Bx wr B 60 cs ∧ Got base wr xa c.base ∧ But B w.heap.size w wr) (fun t _ => 0 - (intOf t).toNat)
  case atStart => exact ⟨0, Nat.le_refl _, rfl, h, hG, But.refl _ _ _⟩
  case round =>
    obtain ⟨k, hk, rfl, H1, G1, A1⟩ := hrel
    obtain rfl : k = 0 := by omega
    have HF := Lib.hid (HRT.out wr A1 H1 G1)
    clear x1 H1 G1 A1
    go_wp2
    go_ret
    exact HF.out
theorem hearAll_desk (B base : Nat) (cs : Array Value) (c : CliD) (f : Nat) (xa : Option Addr) (xc : Nat) (fr : Int) (b off cap : Nat) (l : List EntD) (w : World) (h : Bx w B 60 cs) (hd : DeskV cs c (.slice xa c.base.length xc) f) (hf : f + c.wait.length ≤ 41) (hfd : (f : Int) - 1 = c.done) (hs : 0 ≤ c.seen ∧ c.seen ≤ 40) (hG : Got base w xa c.base) (hx1 : c.base.length ≤ xc) (hx2 : xc ≤ maxLen) (hb : base ≤ w.heap.size) (htr : treeB c.base = true) (hl : EntsAt w.heap.size w (some ⟨b, off, none⟩) l) (hlf : EntsFit l) (hlb : entsB l = true) (hcap : l.length ≤ cap) (hcm : cap ≤ maxLen) (hfr : 0 ≤ fr ∧ fr ≤ 40) (ht : Tab w) (hB0 : 0 ≠ B) (hbB : b ≠ B) :
    Calls Tryd.prog 38 #[.pointer (some ⟨B, 0, none⟩), .int .i64 fr, .slice (some ⟨b, off, none⟩) l.length cap] w (RetHA B base c fr l w) := by
  cases hft : fitB c fr l
  · exact hearAll_no B base cs c _ f fr _ cap l w h hd hlf.1 hfr hft
  · have q : fr ≤ c.seen ∧ fr + l.length ≤ 40 := by simpa [fitB] using hft
    by_cases hm : (l.length : Int) < c.seen - fr
    · exact hearAll_old B base cs c f xa xc fr b off cap l w h hd hf hfd hs hG hx1 hx2 hb htr hl hlf hlb hcap hcm hfr ht hB0 hbB q.1 q.2 hm
    · exact hearAll_some B base cs c f xa xc fr b off cap l w h hd hf hfd hs hG hx1 hx2 hb htr hl hlf hlb hcap hcm hfr ht hB0 hbB q.1 q.2 hm
end Go.Proofs.YtogafpfgdonlmaaDoor
