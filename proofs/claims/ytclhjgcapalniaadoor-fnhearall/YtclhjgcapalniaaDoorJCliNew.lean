/-
  Contracts of the model's and the program's ClientNew. Conditions: as each theorem says.
-/
import Derived.Test.YtclhjgcapalniaaDoorJCliA
import Derived.Test.YtclhjgcapalniaaDoorGG
import Derived.Laws.Tables
import Derived.Laws.Rows
namespace Go.Proofs.YtclhjgcapalniaaDoor
open Go.ChangeShapes Go.WideShapes Go.ChangeAt Go.RowKit Go.Joins

theorem cliSize : (Tryd.prog.info? 51).map (·.size) = some 6 := by kernel_rfl
theorem Got.setRowN {base B : Nat} {w : World} {a : Option Addr} {rs : List RowD} (h : Got base w a rs) (hne : ∀ g, a = some ⟨g, 0, none⟩ → g ≠ B) (cs : Array Value) : Got base (w.setRow B cs) a rs := by
  rcases h with h | ⟨g, C, e, hg, f, h1, h2⟩
  · exact .inl h
  · exact .inr ⟨g, C, e, hg, f, h1.of_block (by simp [World.setRow, Array.getElem?_modify, show ¬ B = g from fun q => hne g e q.symm]), h2⟩
theorem below_setRowN {N B : Nat} {w w' : World} (h : Below N w w') (hB : N ≤ B) (cs : Array Value) : Below N w (w'.setRow B cs) :=
  ⟨h.os, h.tape, h.output, by have := h.size; simpa [World.setRow] using this, fun k hk => by
    rw [← h.block k hk]; simp [World.setRow, Array.getElem?_modify, show ¬ B = k by omega]⟩
def cliNew (who : Int) : CliD := if inB who 1 3 then ⟨who, 0, r3, [], 0, 0⟩ else zcli
theorem new_is {who : Int} (h : inB who 1 3 = true) : cliNew who = ⟨who, 0, r3, [], 0, 0⟩ := by simp [cliNew, h]
theorem new_no {who : Int} (h : inB who 1 3 = false) : cliNew who = zcli := by simp [cliNew, h]
theorem new_len (who : Int) : (cliNew who).base.length + (cliNew who).wait.length ≤ 3 := by
  cases h : inB who 1 3
  · rw [new_no h]; decide
  · rw [new_is h]; exact (by decide : r3.length + 0 ≤ 3)
set_option maxRecDepth 100000 in
set_option maxHeartbeats 2000000 in
theorem specClientNew_any (who : Int) (w : World) :
    Calls Tryd.prog 129 #[.int .i64 who] w (RetCliB (cliNew who) (inB who 1 3) (inB who 1 3) w) := by
  cases hin : inB who 1 3
  · have HIN := Lib.hid hin
    have HC := Lib.hid (new_no hin)
    clear hin
    have al := (Below.refl w.heap.size w).alloc (Nat.le_refl _) (.cells #[.int .i64 0, .int .i64 0, .slice none 0 0, .slice none 0 0, .int .i64 0, .int .i64 0] 51)
    have Y0 := Bx.new w 51 #[.int .i64 0, .int .i64 0, .slice none 0 0, .slice none 0 0, .int .i64 0, .int .i64 0]
    go_enter Tryd.func129, Tryd.ntmps129
    go_upto_region 1 with fail
    generalize w.alloc (.cells #[.int .i64 0, .int .i64 0, .slice none 0 0, .slice none 0 0, .int .i64 0, .int .i64 0] 51) = w1 at *
    go_wp2_with fail
    refine (l6In_any _ _ _ _).mono ?_
    rintro _ _ ⟨rfl, rfl⟩
    rw [HIN.out]
    obtain ⟨d0, d1, d2, d3, d4, d5⟩ := Y0.cli
    obtain ⟨y0, y1, y2, y3, y4, y5⟩ := Y0.cliF
    clear Y0
    go_wp2
    exact bodyPost_ret (v := .tuple #[.agg #[.int .i64 0, .int .i64 0, .slice none 0 0, .slice none 0 0, .int .i64 0, .int .i64 0], .bool false]) (by simp [results, Tryd.results129, go_sem, d0, d1, d2, d3, d4, d5]) rfl (retCliB_zero ⟨HC.out, rfl⟩ rfl (Nat.le_refl _) al _ _ _ _ _ _)
  · have HIN := Lib.hid hin
    have HC := Lib.hid (new_is hin)
    clear hin
    have al := (Below.refl w.heap.size w).alloc (Nat.le_refl _) (.cells #[.int .i64 0, .int .i64 0, .slice none 0 0, .slice none 0 0, .int .i64 0, .int .i64 0] 51)
    have Y0 := Bx.new w 51 #[.int .i64 0, .int .i64 0, .slice none 0 0, .slice none 0 0, .int .i64 0, .int .i64 0]
    go_enter Tryd.func129, Tryd.ntmps129
    go_upto_region 1 with fail
    generalize w.alloc (.cells #[.int .i64 0, .int .i64 0, .slice none 0 0, .slice none 0 0, .int .i64 0, .int .i64 0] 51) = w1 at *
    go_wp2_with fail
    refine (l6In_any _ _ _ _).mono ?_
    rintro _ _ ⟨rfl, rfl⟩
    rw [HIN.out]
    go_wp2_with fail
    refine (specNew_own w1).mono ?_
    rintro _ w2 ⟨ya, yc, rfl, own2, hyc, b2⟩
    obtain ⟨g, cap', hv, hgb, _⟩ := own_form own2 (by decide)
    cases hv
    have G2 := ownR_of own2
    have Y2 := Y0.below b2 Y0.lt
    have L2 := al.trans (b2.mono al.size)
    have h3 : r3.length = 3 := rfl
    have H3 := Lib.hid h3
    have hyl : w.heap.size < w1.heap.size := Y0.lt
    have hgw : w1.heap.size ≤ g := G2.lo
    have hgh : g < w2.heap.size := G2.hi
    clear Y0 al own2 b2 h3
    have Y3 := Y2.alloc (.cells #[] 64)
    have L3 := L2.alloc L2.size (.cells #[] 64)
    have G3 := G2.alloc (.cells #[] 64)
    have hs3 : (w2.alloc (.cells #[] 64)).heap.size = w2.heap.size + 1 := by simp
    have hge : w.heap.size < w2.heap.size := by omega
    have Y4 : Bx ((w2.alloc (.cells #[] 64)).setRow w.heap.size #[.int .i64 who, .int .i64 0, .slice (some ⟨g, 0, none⟩) 3 yc, .slice (some ⟨w2.heap.size, 0, none⟩) 0 0, .int .i64 0, .int .i64 0]) w.heap.size 51 #[.int .i64 who, .int .i64 0, .slice (some ⟨g, 0, none⟩) 3 yc, .slice (some ⟨w2.heap.size, 0, none⟩) 0 0, .int .i64 0, .int .i64 0] := setRow_heap _ _ _ _ _ _ Y3
    have hlv := run_loadVar_row (P := Tryd.prog) _ w.heap.size 51 51 #[.int .i64 who, .int .i64 0, .slice (some ⟨g, 0, none⟩) 3 yc, .slice (some ⟨w2.heap.size, 0, none⟩) 0 0, .int .i64 0, .int .i64 0] (0, 0) _ Y4 Tryd.underlying51 rfl (by rw [cliSize]; rfl)
    have G4 : Got w1.heap.size ((w2.alloc (.cells #[] 64)).setRow w.heap.size #[.int .i64 who, .int .i64 0, .slice (some ⟨g, 0, none⟩) 3 yc, .slice (some ⟨w2.heap.size, 0, none⟩) 0 0, .int .i64 0, .int .i64 0]) (some ⟨g, 0, none⟩) r3 := G3.got.setRowN (fun _ e => by cases e; omega) _
    have L4 := below_setRowN L3 (Nat.le_refl _) #[.int .i64 who, .int .i64 0, .slice (some ⟨g, 0, none⟩) 3 yc, .slice (some ⟨w2.heap.size, 0, none⟩) 0 0, .int .i64 0, .int .i64 0]
    have hs4 : ((w2.alloc (.cells #[] 64)).setRow w.heap.size #[.int .i64 who, .int .i64 0, .slice (some ⟨g, 0, none⟩) 3 yc, .slice (some ⟨w2.heap.size, 0, none⟩) 0 0, .int .i64 0, .int .i64 0]).heap.size = w2.heap.size + 1 := by simp [World.setRow]
    have C4 : CliGot w1.heap.size ((w2.alloc (.cells #[] 64)).setRow w.heap.size #[.int .i64 who, .int .i64 0, .slice (some ⟨g, 0, none⟩) 3 yc, .slice (some ⟨w2.heap.size, 0, none⟩) 0 0, .int .i64 0, .int .i64 0]) ⟨who, 0, r3, [], 0, 0⟩ (some ⟨g, 0, none⟩) yc (some ⟨w2.heap.size, 0, none⟩) 0 := ⟨G4, .inl rfl, G3.len, G3.cap, Nat.le_refl _, Nat.zero_le _⟩
    have HR : Hid (RetCliB (cliNew who) true true w (.returned (.tuple #[.agg #[.int .i64 who, .int .i64 0, .slice (some ⟨g, 0, none⟩) 3 yc, .slice (some ⟨w2.heap.size, 0, none⟩) 0 0, .int .i64 0, .int .i64 0], .bool true])) ((w2.alloc (.cells #[] 64)).setRow w.heap.size #[.int .i64 who, .int .i64 0, .slice (some ⟨g, 0, none⟩) 3 yc, .slice (some ⟨w2.heap.size, 0, none⟩) 0 0, .int .i64 0, .int .i64 0])) := by
      unfold Hid
      rw [HC.out]
      exact ⟨_, _, _, _, rfl, C4.base (by omega), fun _ => ⟨g, w2.heap.size, rfl, rfl, by omega, by rw [hs4]; omega, by omega, by rw [hs4]; omega⟩, L4⟩
    have hone : (#[.int .i64 who, .int .i64 0, .slice (some ⟨g, 0, none⟩) 3 yc, .slice (some ⟨w2.heap.size, 0, none⟩) 0 0, .int .i64 0, .int .i64 0] : Array Value).all (·.oneCell') = true := by simp [Value.oneCell']
    have HONE := Lib.hid hone
    clear Y2 G2 C4 hs3 hs4 G3 G4 L3 L4 hone
    go_wp2_with (refine wpList_store_row rfl 51 _ _ rfl w.heap.size #[.int .i64 who, .int .i64 0, .slice (some ⟨g, 0, none⟩) 3 yc, .slice (some ⟨w2.heap.size, 0, none⟩) 0 0, .int .i64 0, .int .i64 0] rfl rfl 51 #[.int .i64 0, .int .i64 0, .slice none 0 0, .slice none 0 0, .int .i64 0, .int .i64 0] Y3 (by rw [cliSize]; rfl) rfl HONE.out ?_)
    exact bodyPost_ret (v := .tuple #[.agg #[.int .i64 who, .int .i64 0, .slice (some ⟨g, 0, none⟩) 3 yc, .slice (some ⟨w2.heap.size, 0, none⟩) 0 0, .int .i64 0, .int .i64 0], .bool true]) (by simp [results, Tryd.results129, asAddr, hlv]) rfl HR.out
set_option maxRecDepth 100000 in
set_option maxHeartbeats 2000000 in
theorem implClientNew_any (who : Int) (w : World) :
    Calls Tryd.prog 27 #[.int .i64 who] w (RetCliB (cliNew who) false (inB who 1 3) w) := by
  cases hin : inB who 1 3
  · have HIN := Lib.hid hin
    have HC := Lib.hid (new_no hin)
    clear hin
    have al := (Below.refl w.heap.size w).alloc (Nat.le_refl _) (.cells #[.int .i64 0, .int .i64 0, .slice none 0 0, .slice none 0 0, .int .i64 0, .int .i64 0] 51)
    have Y0 := Bx.new w 51 #[.int .i64 0, .int .i64 0, .slice none 0 0, .slice none 0 0, .int .i64 0, .int .i64 0]
    go_enter Tryd.func27, Tryd.ntmps27
    go_upto_region 1 with fail
    generalize w.alloc (.cells #[.int .i64 0, .int .i64 0, .slice none 0 0, .slice none 0 0, .int .i64 0, .int .i64 0] 51) = w1 at *
    go_wp2_with fail
    refine (isClient_any _ _).mono ?_
    rintro _ _ ⟨rfl, rfl⟩
    rw [HIN.out]
    obtain ⟨d0, d1, d2, d3, d4, d5⟩ := Y0.cli
    obtain ⟨y0, y1, y2, y3, y4, y5⟩ := Y0.cliF
    clear Y0
    go_wp2
    exact bodyPost_ret (v := .tuple #[.agg #[.int .i64 0, .int .i64 0, .slice none 0 0, .slice none 0 0, .int .i64 0, .int .i64 0], .bool false]) (by simp [results, Tryd.results27, go_sem, d0, d1, d2, d3, d4, d5]) rfl (retCliB_zero ⟨HC.out, rfl⟩ rfl (Nat.le_refl _) al _ _ _ _ _ _)
  · have HIN := Lib.hid hin
    have HC := Lib.hid (new_is hin)
    clear hin
    have al := (Below.refl w.heap.size w).alloc (Nat.le_refl _) (.cells #[.int .i64 0, .int .i64 0, .slice none 0 0, .slice none 0 0, .int .i64 0, .int .i64 0] 51)
    have Y0 := Bx.new w 51 #[.int .i64 0, .int .i64 0, .slice none 0 0, .slice none 0 0, .int .i64 0, .int .i64 0]
    go_enter Tryd.func27, Tryd.ntmps27
    go_upto_region 1 with fail
    generalize w.alloc (.cells #[.int .i64 0, .int .i64 0, .slice none 0 0, .slice none 0 0, .int .i64 0, .int .i64 0] 51) = w1 at *
    go_wp2_with fail
    refine (isClient_any _ _).mono ?_
    rintro _ _ ⟨rfl, rfl⟩
    rw [HIN.out]
    go_wp2_with fail
    refine (implNew_own w1).mono ?_
    rintro _ w2 ⟨ya, yc, rfl, own2, hyc, b2⟩
    obtain ⟨g, cap', hv, hgb, _⟩ := own_form own2 (by decide)
    cases hv
    have G2 := ownR_of own2
    have Y2 := Y0.below b2 Y0.lt
    have L2 := al.trans (b2.mono al.size)
    have h3 : r3.length = 3 := rfl
    have H3 := Lib.hid h3
    have hyl : w.heap.size < w1.heap.size := Y0.lt
    have hgw : w1.heap.size ≤ g := G2.lo
    have hgh : g < w2.heap.size := G2.hi
    clear Y0 al own2 b2 h3
    obtain ⟨d0, d1, d2, d3, d4, d5⟩ := Y2.cli
    obtain ⟨y0, y1, y2, y3, y4, y5⟩ := Y2.cliF
    have C3 : CliGot w1.heap.size w2 ⟨who, 0, r3, [], 0, 0⟩ (some ⟨g, 0, none⟩) yc none 0 := ⟨G2.got, .inl rfl, G2.len, G2.cap, Nat.le_refl _, Nat.zero_le _⟩
    have HR : Hid (∀ v0 v1 v2 v3 v4 v5, RetCliB (cliNew who) false true w (.returned (.tuple #[.agg #[.int .i64 who, .int .i64 0, .slice (some ⟨g, 0, none⟩) 3 yc, .slice none 0 0, .int .i64 0, .int .i64 0], .bool true])) ((((((w2.setCell ⟨w.heap.size, 0, none⟩ v0).setCell ⟨w.heap.size, 1, none⟩ v1).setCell ⟨w.heap.size, 2, none⟩ v2).setCell ⟨w.heap.size, 3, none⟩ v3).setCell ⟨w.heap.size, 4, none⟩ v4).setCell ⟨w.heap.size, 5, none⟩ v5)) := fun v0 v1 v2 v3 v4 v5 => by
      rw [HC.out]
      exact ⟨_, _, _, _, rfl, (C3.base (by omega)).given6 (fun _ e => by cases e; omega) (fun _ e => by cases e) v0 v1 v2 v3 v4 v5, (fun h => by cases h), below_given6 L2 (Nat.le_refl _) v0 v1 v2 v3 v4 v5⟩
    clear Y2 G2 C3
    go_wp2
    have h3 := H3.out
    exact bodyPost_ret (v := .tuple #[.agg #[.int .i64 who, .int .i64 0, .slice (some ⟨g, 0, none⟩) 3 yc, .slice none 0 0, .int .i64 0, .int .i64 0], .bool true]) (by simp [results, Tryd.results27, go_sem, d0, d1, d2, d3, d4, d5, h3]) rfl (HR.out _ _ _ _ _ _)
end Go.Proofs.YtclhjgcapalniaaDoor
