/-
  Contract of the program's deskOf. Conditions: as each theorem says.
-/
import Derived.Test.YtogafpfgdonlmaaDoorJDesk0
import Derived.Deep.RegionHeld3
namespace Go.Proofs.YtogafpfgdonlmaaDoor
open Go.ChangeShapes Go.WideShapes Go.ChangeAt Go.RowKit Go.Joins

set_option maxRecDepth 100000 in
set_option maxHeartbeats 4000000 in
theorem deskOf_any (c : CliD) (ba wa : Option Addr) (bc wc : Nat) (w : World) (h : CliAt w.heap.size w c ba bc wa wc) (hf : CliFit c) (ht : Tab w) :
    Calls Tryd.prog 25 #[.agg #[.int .i64 c.who, .int .i64 c.seen, .slice ba c.base.length bc, .slice wa c.wait.length wc, .int .i64 c.done, .int .i64 c.made]] w (RetDesk c w) := by
  have hz := ht.pos
  have hb0 : Below w.heap.size w ((w.alloc (.cells #[.int .i64 c.who, .int .i64 c.seen, .slice ba c.base.length bc, .slice wa c.wait.length wc, .int .i64 c.done, .int .i64 c.made] 33)).alloc (.cells Tryd.zeroCells60 60)) := ((Below.refl _ _).alloc (Nat.le_refl _) _).alloc (by simp) _
  have X0 := (Bx.new w 33 #[.int .i64 c.who, .int .i64 c.seen, .slice ba c.base.length bc, .slice wa c.wait.length wc, .int .i64 c.done, .int .i64 c.made]).alloc (.cells Tryd.zeroCells60 60)
  have Y0 := Bx.new (w.alloc (.cells #[.int .i64 c.who, .int .i64 c.seen, .slice ba c.base.length bc, .slice wa c.wait.length wc, .int .i64 c.done, .int .i64 c.made] 33)) 60 Tryd.zeroCells60
  have hs0 : (w.alloc (.cells #[.int .i64 c.who, .int .i64 c.seen, .slice ba c.base.length bc, .slice wa c.wait.length wc, .int .i64 c.done, .int .i64 c.made] 33)).heap.size = w.heap.size + 1 := by simp
  rw [hs0] at Y0
  clear hs0
  go_enter Tryd.func25, Tryd.ntmps25
  go_upto_region 1 with fail
  generalize ((w.alloc (.cells #[.int .i64 c.who, .int .i64 c.seen, .slice ba c.base.length bc, .slice wa c.wait.length wc, .int .i64 c.done, .int .i64 c.made] 33)).alloc (.cells Tryd.zeroCells60 60)) = w1 at *
  obtain ⟨x0, x1, x2, x3, x4, x5⟩ := X0.cli
  go_wp2_with fail
  refine (implClientOk_any w.heap.size c ba wa bc wc _ hb0.size (h.below hb0) hf (ht.below hb0 hz)).mono ?_
  rintro _ w2 ⟨rfl, b2⟩
  have X2 := X0.below b2 X0.lt
  have Y2 := Y0.below b2 Y0.lt
  have L2 := hb0.trans (b2.mono hb0.size)
  clear X0 Y0 x0 x1 x2 x3 x4 x5 b2
  cases hok : cliB c
  · have HOK := Lib.hid hok
    clear hok
    have hst := @run_storeDesk (w.heap.size + 1) Tryd.zeroCells60 Tryd.zeroCells60 w2 Y2 Tryd.zeroCells60_size Tryd.zeroCells60_size zero_mem
    have hld := @run_loadDesk (w.heap.size + 1) Tryd.zeroCells60 (w2.setRow (w.heap.size + 1) Tryd.zeroCells60) Y2.row Tryd.zeroCells60_size
    go_wp2
    exact bodyPost_ret (v := .tuple #[.agg Tryd.zeroCells60, .bool false]) (by simp [results, Tryd.results25, asAddr, hld]) rfl ⟨below_setRow L2 (by omega) _, .inl ⟨HOK.out, rfl⟩⟩
  · have HOK := Lib.hid hok
    obtain ⟨e1, e2, e3, e4, e5, e6⟩ := head_iff.1 (cli_iff.1 hok).1
    obtain ⟨bb, bo, rfl, hbb, _⟩ := h.rows.at_ (show 0 < c.base.length by have := (treeP_of e3).len; omega)
    have hlb := (tree_fits e3).1
    have h2 := (h.rows.below L2).mono L2.size
    have hbb2 := Nat.lt_of_lt_of_le hbb L2.size
    clear hok
    obtain ⟨x0, x1, x2, x3, x4, x5⟩ := X2.cli
    have X2d := X2.drew
    have X2a := X2d.alloc (.cells Tryd.zeroCells60 60)
    have Ya := Bx.new w2.drew 60 Tryd.zeroCells60
    have HCL := Lib.hid (slCloneR_some bb bo bc c.base w2.drew hbb2 h2 hlb)
    have al := (Below.refl w2.drew.heap.size w2.drew).alloc (Nat.le_refl _) (.cells Tryd.zeroCells60 60)
    have h2d : RowsAt w2.drew.heap.size w2.drew (some ⟨bb, bo, none⟩) c.base := h2
    have HCA := Lib.hid (slCloneR_some bb bo bc c.base (w2.drew.alloc (.cells Tryd.zeroCells60 60)) (Nat.lt_of_lt_of_le hbb2 al.size) ((h2d.below al).mono al.size) hlb)
    have HAL := Lib.hid al
    have hfold : ∀ cs : Array Value, Array.foldl (fun cs x => cs.setIfInBounds (3 + x.snd) x.fst) cs ((Tryd.zeroCells58.setIfInBounds 280 (.int .i64 (c.done + 1))).setIfInBounds 281 (.int .i64 (c.done + 1))).zipIdx 0 282 = deskRing cs (c.done + 1) := fun _ => rfl
    have hsz : ∀ cs : Array Value, (deskRing cs (c.done + 1)).size = cs.size := fun cs => (deskRing_at cs _).1
    have hdk : ∀ v : Value, (deskRing (((Tryd.zeroCells60.setIfInBounds 0 (.int .i64 c.who)).setIfInBounds 1 (.int .i64 c.seen)).setIfInBounds 2 v) (c.done + 1)).setIfInBounds 285 (.int .i64 c.made) = desk0 c v := fun _ => rfl
    have hd0s : ∀ v : Value, (desk0 c v).size = 286 := fun v => desk0_size c v
    have hst : ∀ (ad : Option Addr) (n k B : Nat) (W : World), Bx W B 60 Tryd.zeroCells60 → (storeCells ⟨B, 0, none⟩ (desk0 c (.slice ad n k)).toList).run Tryd.prog W = .ok () (W.setRow B (desk0 c (.slice ad n k))) := fun ad n k B W hW => run_storeDesk hW Tryd.zeroCells60_size (desk0_size _ _) (desk0_plain _ _ rfl)
    have hsw : w2.heap.size ≤ w2.heap.size := Nat.le_refl _
    have hx2 := X2.lt
    have X2k := Lib.hid X2
    clear al h2 h2d X2
    go_upto_region 4 with fail
    go_cut [5] (fun p wx => ∃ Bd g3 c3, p = .pointer (some ⟨Bd, 0, none⟩) ∧ Bx wx Bd 60 (desk0 c (.slice (some ⟨g3, 0, none⟩) c.base.length c3)) ∧ OwnR w2.heap.size wx g3 c3 c.base ∧ w2.heap.size ≤ Bd ∧ Below w2.heap.size w2 wx)
    case first =>
      have k0 := X2d.cli4
      have k1 := X2a.cli4
      go_region_held3 (fun x : World => x.cell? ⟨w.heap.size, 0, none⟩ = some (.int .i64 c.who) ∧ x.cell? ⟨w.heap.size, 1, none⟩ = some (.int .i64 c.seen) ∧ x.cell? ⟨w.heap.size, 2, none⟩ = some (.slice (some ⟨bb, bo, none⟩) c.base.length bc) ∧ x.cell? ⟨w.heap.size, 5, none⟩ = some (.int .i64 c.made)) (first | (with_reducible exact k0) | (with_reducible exact k1) | (with_reducible exact kb) | (with_reducible exact kc) | (with_reducible exact kd) | (exact k1)) (first
        | ((go_at_call 46; (refine (HCL.out).mono ?_); rintro _ w3 ⟨g3, c3, rfl, G3, b3⟩; have Xb := X2d.below b3 X2d.lt; have hxb := Xb.lt; have kb := Xb.cli4; have kc := (Xb.alloc (.cells Tryd.zeroCells60 60)).cli4; have Yb := Bx.new w3 60 Tryd.zeroCells60; have kd := ((Xb.alloc (.cells Tryd.zeroCells60 60)).otherRow (cs' := desk0 c (.slice (some ⟨g3, 0, none⟩) c.base.length c3)) (B' := w3.heap.size) (by omega)).cli4))
        | ((go_at_call 46; (refine (HCA.out).mono ?_); rintro _ w3 ⟨g3, c3, rfl, G3, b3⟩; have Xb := X2a.below b3 X2a.lt; have hxb := Xb.lt; have kb := Xb.cli4; have Yb : Bx w3 w2.heap.size 60 Tryd.zeroCells60 := Ya.below b3 Ya.lt; have kd := (Xb.otherRow (cs' := desk0 c (.slice (some ⟨g3, 0, none⟩) c.base.length c3)) (B' := w2.heap.size) (by omega)).cli4)))
      all_goals
        first
        | (have Q1 : Bx ((w3.alloc (.cells Tryd.zeroCells60 60)).setRow w3.heap.size (desk0 c (.slice (some ⟨g3, 0, none⟩) c.base.length c3))) w3.heap.size 60 (desk0 c (.slice (some ⟨g3, 0, none⟩) c.base.length c3)) := Yb.row
           have b4 : Below w2.heap.size w2 w3 := (Below.refl _ w2).drew.trans b3
           have b5 : Below w2.heap.size w2 ((w3.alloc (.cells Tryd.zeroCells60 60)).setRow w3.heap.size (desk0 c (.slice (some ⟨g3, 0, none⟩) c.base.length c3))) := below_setRow (b4.alloc b4.size _) b4.size _
           have G5 : OwnR w2.heap.size ((w3.alloc (.cells Tryd.zeroCells60 60)).setRow w3.heap.size (desk0 c (.slice (some ⟨g3, 0, none⟩) c.base.length c3))) g3 c3 c.base := G3.below (n := w3.heap.size) (below_setRow ((Below.refl w3.heap.size w3).alloc (Nat.le_refl _) _) (Nat.le_refl _) _) (Nat.le_refl _)
           have hb5 := b4.size
           generalize (w3.alloc (.cells Tryd.zeroCells60 60)).setRow w3.heap.size (desk0 c (.slice (some ⟨g3, 0, none⟩) c.base.length c3)) = w5 at *
           generalize w3.heap.size = B5 at *
           clear kb kc kd k0 k1 Yb G3 b3 Xb hxb HCL HCA hfold hsz hdk hd0s hst
           go_wp2
           go_meet
           exact ⟨B5, g3, c3, rfl, Q1, G5, hb5, b5⟩)
        | (have Q1 : Bx (w3.setRow w2.heap.size (desk0 c (.slice (some ⟨g3, 0, none⟩) c.base.length c3))) w2.heap.size 60 (desk0 c (.slice (some ⟨g3, 0, none⟩) c.base.length c3)) := Yb.row
           have b4 : Below w2.heap.size w2 w3 := ((Below.refl _ w2).drew.alloc (Nat.le_refl _) _).trans (b3.mono (by simp))
           have b5 : Below w2.heap.size w2 (w3.setRow w2.heap.size (desk0 c (.slice (some ⟨g3, 0, none⟩) c.base.length c3))) := below_setRow b4 (Nat.le_refl _) _
           have G5 : OwnR w2.heap.size (w3.setRow w2.heap.size (desk0 c (.slice (some ⟨g3, 0, none⟩) c.base.length c3))) g3 c3 c.base := (G3.mono (by simp)).rowB Yb (by decide) _
           have hb5 : w2.heap.size ≤ w2.heap.size := Nat.le_refl _
           generalize w3.setRow w2.heap.size (desk0 c (.slice (some ⟨g3, 0, none⟩) c.base.length c3)) = w5 at *
           clear kb kd k0 k1 Yb G3 b3 Xb hxb HCL HCA hfold hsz hdk hd0s hst
           go_wp2
           go_meet
           exact ⟨w2.heap.size, g3, c3, rfl, Q1, G5, hb5, b5⟩)
    case rest =>
      obtain ⟨Bd, g3, c3, rfl, Q4, G4, hBd, b4⟩ := hcut
      clear hfold hsz hdk hd0s hst HCL HCA X2d X2a Ya HAL x0 x1 x2 x3 x4 x5
      generalize hw4 : wc = w4 at *
      clear hw4
      have L4 := L2.trans (b4.mono L2.size)
      have Y4 := Y2.below b4 Y2.lt
      have X4 := X2k.out.below b4 X2k.out.lt
      have hBd1 : w.heap.size + 1 < Bd := Nat.lt_of_lt_of_le Y2.lt hBd
      clear Y2 X2k b4 hsw
      obtain ⟨x0, x1, x2, x3, x4, x5⟩ := X4.cli
      have hwl := h.wl
      have hlw := hf.wait.1
      have hdn : c.done.toNat + 1 + c.wait.length ≤ 41 := by omega
      have h0 := desk0_v c (.slice (some ⟨g3, 0, none⟩) c.base.length c3) rfl e4.1
      go_upto_region 6 with fail
      go_loopw [32] (fun t wr => ∃ (k : Nat) (cs : Array Value), k ≤ c.wait.length ∧ t = .int .i64 k ∧ Bx wr Bd 60 cs ∧ DeskV cs ⟨c.who, c.seen, c.base, c.wait.take k, c.done, c.made⟩ (.slice (some ⟨g3, 0, none⟩) c.base.length c3) (c.done.toNat + 1) ∧ OwnR w2.heap.size wr g3 c3 c.base ∧ Bx wr (w.heap.size + 1) 60 Tryd.zeroCells60 ∧ Below w.heap.size w wr) (fun t _ => c.wait.length - (intOf t).toNat)
      case atStart => exact ⟨0, _, Nat.zero_le _, rfl, Q4, h0, G4, Y4, L4⟩
      case round =>
        obtain ⟨k, cs, hk, rfl, Q, hV, G, Y, hb⟩ := hrel
        clear h0 Q4 G4 Y4 L4 X4 x0 x1 x2 x3 x4 x5
        have hr := h.ents.below hb
        by_cases hlt : k < c.wait.length
        · obtain ⟨b, off, hwa, hbB, c0, c1, c2, c3', c4, c5, c6⟩ := hr.at_ hlt
          have i1 : (k : Int) < (c.wait.length : Int) := by omega
          have htl : (c.wait.take k).length = k := by rw [List.length_take]; omega
          have htk : c.wait.take (k + 1) = c.wait.take k ++ [eat c.wait k] := by
            rw [List.take_succ_eq_append_getElem hlt]; simp [eat, hlt]
          have HTK := Lib.hid htk
          have HTL := Lib.hid htl
          clear htk htl hr
          have E0 := Bx.new wr 55 #[.int .i64 (eat c.wait k).who, .int .i64 (eat c.wait k).seq, .int .i64 (eat c.wait k).op.kind, .int .i64 (eat c.wait k).op.id, .int .i64 (eat c.wait k).op.up, .int .i64 (eat c.wait k).op.at_, .string (eat c.wait k).op.txt]
          have al := (Below.refl wr.heap.size wr).alloc (Nat.le_refl _) (.cells #[.int .i64 (eat c.wait k).who, .int .i64 (eat c.wait k).seq, .int .i64 (eat c.wait k).op.kind, .int .i64 (eat c.wait k).op.id, .int .i64 (eat c.wait k).op.up, .int .i64 (eat c.wait k).op.at_, .string (eat c.wait k).op.txt] 55)
          have Q1 := Q.alloc (.cells #[.int .i64 (eat c.wait k).who, .int .i64 (eat c.wait k).seq, .int .i64 (eat c.wait k).op.kind, .int .i64 (eat c.wait k).op.id, .int .i64 (eat c.wait k).op.up, .int .i64 (eat c.wait k).op.at_, .string (eat c.wait k).op.txt] 55)
          have Y1 := Y.alloc (.cells #[.int .i64 (eat c.wait k).who, .int .i64 (eat c.wait k).seq, .int .i64 (eat c.wait k).op.kind, .int .i64 (eat c.wait k).op.id, .int .i64 (eat c.wait k).op.up, .int .i64 (eat c.wait k).op.at_, .string (eat c.wait k).op.txt] 55)
          have G1 := G.alloc (.cells #[.int .i64 (eat c.wait k).who, .int .i64 (eat c.wait k).seq, .int .i64 (eat c.wait k).op.kind, .int .i64 (eat c.wait k).op.id, .int .i64 (eat c.wait k).op.up, .int .i64 (eat c.wait k).op.at_, .string (eat c.wait k).op.txt] 55)
          have L1 := hb.alloc hb.size (.cells #[.int .i64 (eat c.wait k).who, .int .i64 (eat c.wait k).seq, .int .i64 (eat c.wait k).op.kind, .int .i64 (eat c.wait k).op.id, .int .i64 (eat c.wait k).op.up, .int .i64 (eat c.wait k).op.at_, .string (eat c.wait k).op.txt] 55)
          generalize eat c.wait k = e at *
          subst hwa
          go_upto_region 8 with fail
          generalize wr.alloc (.cells #[.int .i64 e.who, .int .i64 e.seq, .int .i64 e.op.kind, .int .i64 e.op.id, .int .i64 e.op.up, .int .i64 e.op.at_, .string e.op.txt] 55) = w5 at *
          generalize wr.heap.size = B5 at *
          clear c0 c1 c2 c3' c4 c5 c6 Q Y G al
          have f0 := E0.cell 0 rfl
          have f1 := E0.cell 1 rfl
          have f2 := E0.cell 2 rfl
          have f3 := E0.cell 3 rfl
          have f4 := E0.cell 4 rfl
          have f5 := E0.cell 5 rfl
          have f6 := E0.cell 6 rfl
          have HP := Lib.hid (put_ring Bd cs _ _ _ e w5 Q1 hV (by show (c.wait.take k).length < 40; rw [HTL.out]; omega) (by omega))
          go_wp2_with fail
          refine HP.out.mono ?_
          rintro _ w6 ⟨rfl, cs', Q6, hV6, b6⟩
          rw [show (⟨c.who, c.seen, c.base, c.wait.take k, c.done, c.made⟩ : CliD).wait = c.wait.take k from rfl, ← HTK.out] at hV6
          have G6 := G1.butB Q1 (by decide) b6 (Nat.le_refl _)
          have Y6 := Y1.but b6 Y1.lt (by omega)
          have L6 := L1.trans ((b6.below (N := w.heap.size) (by omega) L1.size))
          clear f0 f1 f2 f3 f4 f5 f6 E0 Q1 Y1 G1 L1 HP hV hb
          go_wp2
          go_roundw
          case rel => exact ⟨k + 1, cs', by omega, by go_num, Q6, hV6, G6, Y6, L6⟩
          case measure => simp [intOf]; omega
        · obtain rfl : k = c.wait.length := by omega
          rw [List.take_length] at hV
          have hld := @run_loadDeskC Bd cs wr Q hV.size
          have hst := @run_storeDesk (w.heap.size + 1) Tryd.zeroCells60 cs wr Y Tryd.zeroCells60_size hV.size hV.plain
          have hlv := @run_loadDesk (w.heap.size + 1) cs (wr.setRow (w.heap.size + 1) cs) Y.row hV.size
          have hcs := hV.size
          have GF : Got w.heap.size (wr.setRow (w.heap.size + 1) cs) (some ⟨g3, 0, none⟩) c.base := (G.mono L2.size).got.rowB Y (by decide) _
          have LF := below_setRow hb (show w.heap.size ≤ w.heap.size + 1 by omega) cs
          have q1 := G.len
          have q2 := G.cap
          go_wp2_with (refine wpList_load_row rfl 60 _ rfl Bd rfl 60 cs (0, 0) _ Q Tryd.underlying60 rfl (by rw [deskSize, hcs]) ?_)
          exact bodyPost_ret (v := .tuple #[.agg cs, .bool true]) (by simp [results, Tryd.results25, asAddr, hlv]) rfl ⟨LF, .inr ⟨HOK.out, cs, some ⟨g3, 0, none⟩, c3, rfl, hV, GF, q1, q2⟩⟩
end Go.Proofs.YtogafpfgdonlmaaDoor
