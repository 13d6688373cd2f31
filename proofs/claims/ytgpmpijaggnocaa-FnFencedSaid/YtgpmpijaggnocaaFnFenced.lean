/-
  FnFenced: at every code the law that nothing of a drawn device is at risk when all lines are flushed and a fence comes, and that all is seen as it was, whatever is kept at a loss of power, returns true, and the code reads as before; no condition.
-/
import Derived.Test.YtgpmpijaggnocaaRows
import Derived.WalkKit
import Derived.WalkSpells
import Derived.WalkLawsBesides
import Derived.Handy
import Derived.Test.YtgpmpijaggnocaaDBoxF
import Derived.Lib.Strings
import Derived.Deep.RegionHeld3
import Derived.ProofKit
import Derived.OpenShut
import Derived.ShutString
import Derived.ChangeOld
import Derived.Below
namespace Go.Proofs.Ytgpmpijaggnocaa.fnFenced
open Go.ChangeShapes Go.WideShapes Go.ChangeAt Go.RowKit
open Go.ChangeMaps (open_string shut_string)
set_option linter.unusedVariables false
open wmath rd dev later

theorem own : ownKnob Try.prog.godebug = none := by kernel_rfl
theorem laidOut : laidOutB Try.prog = true := by kernel_rfl

/-- WHAT THE WALK IS TOLD OF A SLICE OF INTEGERS THAT CAME IN: it is nil; or it leads to a row of 'cap' cells, the numbers 'zs' (the first 'len' are its elements, the rest its spare room), each fitting its kind. -/
def IsRow (k : IntKind) (w : World) (a : Option Addr) (len cap : Nat) (zs : List Int) : Prop :=
  (a = none ∧ len = 0 ∧ cap = 0 ∧ zs = []) ∨
  ∃ x, a = some x ∧ len ≤ cap ∧ cap ≤ maxLen ∧ zs.length = cap ∧ (∀ i, i < zs.length → w.cell? (x.add i) = some (.int k (zs.getD i 0))) ∧ ∀ n ∈ zs, (Lit.int k n).wf = true

set_option maxHeartbeats 4000000 in
theorem walk (a0 : Option Addr) (len0 cap0 : Nat) (z0 : List Int) (w : World) (w0 : IsRow .u8 w a0 len0 cap0 z0) :
    Calls Try.prog 4 #[.slice a0 len0 cap0] w fun e w' => e = .returned (.bool true) ∧ Below w.heap.size w w' := by
  have c0 := code_of w0
  clear w0
  by_cases hb0 : 1048576 < len0
  · go_enter Try.func4, Try.ntmps4
    go_wp2_with fail
    refine (big_yes _ a0 len0 cap0 hb0).mono ?_
    rintro e w' ⟨rfl, rfl⟩
    go_wp2
    go_ret
    exact ⟨rfl, Below.refl _ _⟩
  have HC0 : Hid (RdCode w w.heap.size a0 len0) := c0
  clear c0
  go_enter Try.func4, Try.ntmps4
  go_wp2_with fail
  refine (big_no _ a0 len0 cap0 (by omega)).mono ?_
  rintro e w' ⟨rfl, rfl⟩
  have HBelw : Hid (Below w.heap.size w w) := Below.refl _ _
  go_wp2_with fail
  refine (draw_fence w a0 len0 cap0 (by omega) HC0.out).mono ?_
  rintro e v1 ⟨safe, ls, aa, cp, rfl, hsz, hl, hb⟩
  have HBelv1 : Hid (Below w.heap.size w v1) := hb
  clear hb
  have HSZ : Hid (Sized safe ls) := hsz
  clear hsz
  obtain ⟨v2, hX⟩ : ∃ X, X = v1.alloc (.cells #[.string safe, .slice aa ls.length cp] 26) := ⟨_, rfl⟩
  have HXv2 : Hid (v2 = v1.alloc (.cells #[.string safe, .slice aa ls.length cp] 26)) := hX
  have hb : Below v1.heap.size v1 v2 := by rw [hX]; exact (Below.refl _ _).alloc (Nat.le_refl _) _
  have HBelv2 : Hid (Below w.heap.size w v2) := HBelv1.out.trans (hb.mono HBelv1.out.size)
  have Hd : Hid (DBox v2 v1.heap.size safe aa cp ls) := by
    have h1 : DBox v2 v1.heap.size safe aa cp ls := by rw [hX]; exact .new safe cp _ hl
    exact h1
  clear hX hb hl
  obtain ⟨okb, hokb, hio, hso⟩ := iOkB safe ls HSZ.out
  have HIO : Hid (∀ (w : World) (a : Option Addr) (cap : Nat), Lines w a ls → _) := hio
  have HSO : Hid (∀ (w : World) (a : Option Addr) (cap : Nat), Lines w a ls → _) := hso
  clear hio hso
  have HLI : Hid (∀ n : Later v2, Calls _ _ _ n.world _) := fun n => HIO.out n.world aa cp (Hd.out.later n).lines
  have HLS : Hid (∀ n : Later v2, Calls _ _ _ n.world _) := fun n => HSO.out n.world aa cp (Hd.out.later n).lines
  have hne := some_later v2
  cases okb with
  | true =>
    have hdo := hokb.1 rfl
    have HDO : Hid (DevOk safe ls) := hdo
    have hs8 : safe.size ≤ 8192 := hdo.2.2.1
    have hs64 : safe.size % 64 = 0 := hdo.1
    have HFA : Hid (∀ k : Int, DevOk safe (flushTo ls k) → DevOk safe (flushTo ls (k + 1))) := fun k h => by rw [← flushTo_succ]; exact flush_ok h k
    have HZ : Hid (flushTo ls 0 = ls) := flushTo_zero hdo
    have HALL : Hid (fenceL (flushTo ls ((safe.size / 64 : Nat) : Int)) = [] ∧ fenceS safe (flushTo ls ((safe.size / 64 : Nat) : Int)) = seenStr safe ls) := flushTo_all hdo
    clear hdo hokb
    have d0 := Hd.out.c0
    have d1 := Hd.out.c1
    have Ld0 := fun n : Later v2 => Later.cell d0 n
    have Ld1 := fun n : Later v2 => Later.cell d1 n
    go_wp2_with (rw [← HXv2.out])
    clear d0 d1
    refine region_later (by kernel_rfl) (by kernel_rfl) ?_
    repeat (go_big_quiet_step (first | (go_at_call 16; exact later_of (HLI.out _)) | (go_at_call 18; exact later_of (HLS.out _))))
    refine wpQuiet_nil ?_
    intro w' hw'
    obtain ⟨nn, rfl⟩ := hw'
    have hb := nn.below
    generalize nn.world = u1 at hb ⊢
    clear Ld0 Ld1 HLI HLS hne HIO HSO
    have HBelu1 : Hid (Below w.heap.size w u1) := HBelv2.out.trans (hb.mono HBelv2.out.size)
    have Hd : Hid (DBox u1 v1.heap.size safe aa cp ls) := Hd.out.below hb
    clear hb
    have hl : Lines u1 aa ls := Hd.out.lines
    have hlt := lines_lt hl
    obtain ⟨X, hX⟩ : ∃ X, X = u1.alloc (.cells #[.string safe, .slice aa ls.length cp] 26) := ⟨_, rfl⟩
    have HX : Hid (X = u1.alloc (.cells #[.string safe, .slice aa ls.length cp] 26)) := hX
    have hb : Below u1.heap.size u1 X := by rw [hX]; exact (Below.refl _ _).alloc (Nat.le_refl _) _
    have HE0 : Hid (DBox X u1.heap.size safe aa cp ls) := by
      have h1 : DBox X u1.heap.size safe aa cp ls := by rw [hX]; exact .new safe cp _ hl
      exact h1
    have HFR0 : Hid (∀ k, X.frozen? ⟨u1.heap.size, k, none⟩ = false) := by
      have h1 : ∀ k, X.frozen? ⟨u1.heap.size, k, none⟩ = false := fun k => by rw [hX]; exact World.frozen?_alloc_new _ _ _ _
      exact h1
    have HDX : Hid (DBox X v1.heap.size safe aa cp ls) := Hd.out.below hb
    have HBX : Hid (Below w.heap.size w X) := HBelu1.out.trans (hb.mono HBelu1.out.size)
    have HDF : Hid (∀ b off, aa = some ⟨b, off, none⟩ → 0 < ls.length → b ≠ u1.heap.size) := fun b off e hp => by have := hlt b off e hp; omega
    have hDE : v1.heap.size < u1.heap.size := World.block_lt_of_cell? u1 _ Hd.out.c0
    have hEw : w.heap.size ≤ u1.heap.size := HBelu1.out.size
    clear hX hb hl hlt
    have d0 := Hd.out.c0
    have d1 := Hd.out.c1
    have x0 := HE0.out.c0
    have x1 := HE0.out.c1
    have y0 := HDX.out.c0
    have y1 := HDX.out.c1
    go_wp2_with (rw [← HX.out])
    clear d0 d1 x0 x1 y0 y1 Hd HX
    generalize hEE : u1.heap.size = E at HE0 HFR0 HDF hDE hEw ⊢
    generalize hDD : v1.heap.size = D at HDX hDE ⊢
    clear hEE hDD
    go_loopw [5] (fun i wr => ∃ k : Nat, 64 * k ≤ safe.size ∧ i = .int .i64 (k : Int) ∧ ∃ aa' cp', DBox wr E safe aa' cp' (flushTo ls (k : Int)) ∧ (∀ b off, aa' = some ⟨b, off, none⟩ → 0 < (flushTo ls (k : Int)).length → b ≠ E) ∧ DBox wr D safe aa cp ls ∧ (∀ j, wr.frozen? ⟨E, j, none⟩ = false) ∧ DevOk safe (flushTo ls (k : Int)) ∧ Below w.heap.size w wr) (fun i _ => 200 - (intOf i).toNat)
    case atStart => exact ⟨0, by omega, rfl, aa, cp, by show DBox _ _ _ _ _ (flushTo ls 0); rw [HZ.out]; exact HE0.out, by show ∀ b off, aa = some ⟨b, off, none⟩ → 0 < (flushTo ls 0).length → b ≠ E; rw [HZ.out]; exact HDF.out, HDX.out, HFR0.out, by show DevOk safe (flushTo ls 0); rw [HZ.out]; exact HDO.out, HBX.out⟩
    case round =>
      obtain ⟨k, hk, rfl, aa', cp', hbe, hfe, hbd, hfr, hdk, hbw⟩ := hrel
      have HE : Hid (DBox wr E safe aa' cp' (flushTo ls (k : Int))) := hbe
      have HD : Hid (DBox wr D safe aa cp ls) := hbd
      have HFR : Hid (∀ j, wr.frozen? ⟨E, j, none⟩ = false) := hfr
      have HDK : Hid (DevOk safe (flushTo ls (k : Int))) := hdk
      have HBW : Hid (Below w.heap.size w wr) := hbw
      have hEs : E < wr.heap.size := World.block_lt_of_cell? wr _ hbe.c0
      clear hbe hfe hbd hfr hdk hbw
      have x0 := HE.out.c0
      have x1 := HE.out.c1
      have y0 := HD.out.c0
      by_cases hlt : 64 * (k : Int) < (safe.size : Int)
      · obtain ⟨L, hL⟩ : ∃ L, L = flushTo ls ((k : Int) + 1) := ⟨_, rfl⟩
        have HL : Hid (L = flushTo ls ((k : Int) + 1)) := hL
        have HC : Hid (Calls Try.prog 19 #[.agg #[.string safe, .slice aa' (flushTo ls (k : Int)).length cp'], .int .i64 (k : Int)] wr (Back safe L true wr)) := by
          have h1 := iFlush wr safe aa' cp' (flushTo ls (k : Int)) (k : Int) HE.out.lines HDK.out (by omega) (by omega)
          rw [flushTo_succ, ← hL] at h1
          exact h1
        have HDL : Hid (DevOk safe L) := by
          have h1 : DevOk safe L := by rw [hL]; exact HFA.out _ HDK.out
          exact h1
        clear hL
        generalize flushTo ls (k : Int) = Lk at HC x1 HE
        go_wp2_with fail
        refine HC.out.mono ?_
        rintro e w2 ⟨a2, c2, rfl, hl2, hf2, hb2⟩
        obtain ⟨Y, hY⟩ : ∃ Y, Y = w2.alloc (.cells #[.string safe, .slice a2 L.length c2] 26) := ⟨_, rfl⟩
        have HY : Hid (Y = w2.alloc (.cells #[.string safe, .slice a2 L.length c2] 26)) := hY
        have hbY : Below w2.heap.size w2 Y := by rw [hY]; exact (Below.refl _ _).alloc (Nat.le_refl _) _
        have HN : Hid (DBox Y w2.heap.size safe a2 c2 L) := by
          have h1 : DBox Y w2.heap.size safe a2 c2 L := by rw [hY]; exact .new safe c2 _ hl2
          exact h1
        have hbr : Below wr.heap.size wr Y := hb2.trans (hbY.mono hb2.size)
        have HEY : Hid (DBox Y E safe aa' cp' Lk) := HE.out.below hbr
        have HDY : Hid (DBox Y D safe aa cp ls) := HD.out.below hbr
        have HFY : Hid (∀ j, Y.frozen? ⟨E, j, none⟩ = false) := fun j => by rw [hbr.frozen (p := ⟨E, j, none⟩) hEs]; exact HFR.out j
        have HBY : Hid (Below w.heap.size w Y) := HBW.out.trans (hbr.mono HBW.out.size)
        have HFAR : Hid (∀ b off, a2 = some ⟨b, off, none⟩ → 0 < L.length → b ≠ E) := fun b off e hp => by have := hf2 b off e hp; omega
        have hnE : w2.heap.size ≠ E := by have := hb2.size; omega
        clear hY hbY hbr hl2 hf2 hb2 x0 x1 y0
        have n0 := HN.out.c0
        have n1 := HN.out.c1
        have e0 := HEY.out.c0
        have e1 := HEY.out.c1
        have g0 := HFY.out 0
        have g1 := HFY.out 1
        go_wp2_with (rw [← HY.out])
        go_roundw
        case rel =>
          obtain ⟨p0, p1⟩ := set2_cells HEY.out.c0 HEY.out.c1 (.string safe) (.slice a2 L.length c2)
          refine ⟨k + 1, by omega, by go_num, a2, c2, ?_, ?_, ?_, ?_, ?_, ?_⟩
          · rw [show ((k + 1 : Nat) : Int) = (k : Int) + 1 by omega, ← HL.out]; exact ⟨p0, p1, lines_set2 HN.out.lines HFAR.out _ _⟩
          · rw [show ((k + 1 : Nat) : Int) = (k : Int) + 1 by omega, ← HL.out]; exact HFAR.out
          · exact HDY.out.set (by omega) HDF.out _ _
          · exact fun j => by rw [set2_frozen]; exact HFY.out j
          · rw [show ((k + 1 : Nat) : Int) = (k : Int) + 1 by omega, ← HL.out]; exact HDL.out
          · exact (HBY.out.setCell (p := ⟨E, 0, none⟩) hEw _).setCell (p := ⟨E, 1, none⟩) hEw _
        case measure => simp [intOf]; omega
      · obtain rfl : k = safe.size / 64 := by omega
        obtain ⟨st, hst⟩ : ∃ s, s = seenStr safe ls := ⟨_, rfl⟩
        obtain ⟨z0, hz0⟩ : ∃ L : List Ln, L = [] := ⟨_, rfl⟩
        have hdo := fence_ok HDK.out
        have hcf := iFence wr safe aa' cp' _ HE.out.lines HDK.out
        rw [HALL.out.1, HALL.out.2, ← hst, ← hz0] at hdo
        rw [HALL.out.1, HALL.out.2, ← hst, ← hz0] at hcf
        have HCF : Hid (Calls _ _ _ wr _) := hcf
        have HDO2 : Hid (DevOk st z0) := hdo
        have HSD : Hid (∀ (w : World) (a : Option Addr) (cap : Nat), Lines w a ls → Calls Try.prog 10 #[.agg #[.string safe, .slice a ls.length cap]] w fun e w' => e = .returned (.string st) ∧ Below w.heap.size w w') := fun w a cap h => by rw [hst]; exact sSeen w safe a cap ls h HDO.out
        have HSE : Hid (∀ (w : World) (a : Option Addr) (cap : Nat), Lines w a z0 → Calls Try.prog 14 #[.agg #[.string st, .slice a z0.length cap]] w fun e w' => e = .returned (.string st) ∧ Below w.heap.size w w') := fun w a cap h => by have q := iSeen w st a cap z0 h HDO2.out; rw [show seenStr st z0 = st by rw [hz0]; rfl] at q; exact q
        have HSR : Hid (∀ (w : World) (a : Option Addr) (cap : Nat), Lines w a z0 → Calls Try.prog 21 #[.agg #[.string st, .slice a z0.length cap]] w fun e w' => ∃ aa cp, e = .returned (.slice aa 0 cp) ∧ Below w.heap.size w w') := fun w a cap h => by have q := iRisk w st a cap z0 h HDO2.out; rw [show (riskL st z0).length = 0 by rw [hz0]; rfl] at q; exact q
        have HSC : Hid (∀ (w : World) (a : Option Addr) (cap : Nat) (kb : Option Addr) (kc : Nat) (ks : List Int), ks.length ≤ 9 → Lines w a z0 → Nums w kb ks → Calls Try.prog 22 #[.agg #[.string st, .slice a z0.length cap], .slice kb ks.length kc] w fun e w' => e = .returned (.agg #[.string st, .slice none 0 0]) ∧ Below w.heap.size w w') := fun w a cap kb kc ks hk h hn => by have q := iCrash w st a cap z0 kb kc ks (by omega) h hn HDO2.out; rw [show crashStr st z0 ks = st by rw [hz0]; rfl] at q; exact q
        have hz1 : ((z0.length : Int) == 0) = true := by rw [hz0]; rfl
        have hss : (st.toList == st.toList) = true := by simp
        clear hst hz0 hdo hcf
        generalize flushTo ls ((safe.size / 64 : Nat) : Int) = Lk at HCF x1 HE
        go_wp2_with fail
        refine HCF.out.mono ?_
        rintro e w2 ⟨a2, c2, rfl, hl2, hf2, hb2⟩
        have HE2 : Hid (DBox w2 E safe aa' cp' Lk) := HE.out.below hb2
        have HD2 : Hid (DBox w2 D safe aa cp ls) := HD.out.below hb2
        have HF2 : Hid (∀ j, w2.frozen? ⟨E, j, none⟩ = false) := fun j => by rw [hb2.frozen (p := ⟨E, j, none⟩) hEs]; exact HFR.out j
        have hB2 : Below w.heap.size w w2 := HBW.out.trans (hb2.mono HBW.out.size)
        obtain ⟨Y, hY⟩ : ∃ Y, Y = (w2.setCell ⟨E, 0, none⟩ (.string st)).setCell ⟨E, 1, none⟩ (.slice a2 z0.length c2) := ⟨_, rfl⟩
        have HY : Hid (Y = (w2.setCell ⟨E, 0, none⟩ (.string st)).setCell ⟨E, 1, none⟩ (.slice a2 z0.length c2)) := hY
        have HEY : Hid (DBox Y E st a2 c2 z0) := by
          have h1 : DBox Y E st a2 c2 z0 := by
            obtain ⟨p0, p1⟩ := set2_cells HE2.out.c0 HE2.out.c1 (.string st) (.slice a2 z0.length c2)
            rw [hY]
            exact ⟨p0, p1, lines_set2 hl2 (fun b off e hp => by have := hf2 b off e hp; omega) _ _⟩
          exact h1
        have HDY : Hid (DBox Y D safe aa cp ls) := by
          have h1 : DBox Y D safe aa cp ls := by rw [hY]; exact HD2.out.set (by omega) HDF.out _ _
          exact h1
        have HBY : Hid (Below w.heap.size w Y) := by
          have h1 : Below w.heap.size w Y := by rw [hY]; exact (hB2.setCell (p := ⟨E, 0, none⟩) hEw _).setCell (p := ⟨E, 1, none⟩) hEw _
          exact h1
        clear hY hl2 hf2 hb2 hB2 x0 x1 y0
        have e0 := HE2.out.c0
        have e1 := HE2.out.c1
        have g0 := HF2.out 0
        have g1 := HF2.out 1
        have n0 := HDY.out.c0
        have n1 := HDY.out.c1
        go_wp2_with (rw [← HY.out])
        refine (HSD.out Y aa cp HDY.out.lines).mono ?_
        rintro e w3 ⟨rfl, hb⟩
        have HQ0 : Hid (DBox w3.drew E st a2 c2 z0) := (HEY.out.below hb).drew
        have HB0 : Hid (Below w.heap.size w w3.drew) := (HBY.out.trans (hb.mono HBY.out.size)).drew
        have m0 := (HEY.out.below hb).c0
        have m1 := (HEY.out.below hb).c1
        clear e0 e1 g0 g1 n0 n1 hb
        have hff := field_first st
        go_wp2
        clear m0 m1
        go_region_held3 (fun w' => w'.cell? ⟨E, 0, none⟩ = some (.string st) ∧ w'.cell? ⟨E, 1, none⟩ = some (.slice a2 z0.length c2)) (first | exact ⟨HQ4.out.c0, HQ4.out.c1⟩ | exact ⟨HQ3.out.c0, HQ3.out.c1⟩ | exact ⟨HQ2.out.c0, HQ2.out.c1⟩ | exact ⟨HQ1.out.c0, HQ1.out.c1⟩ | exact ⟨HQ0.out.c0, HQ0.out.c1⟩) (first | (go_at_call 21; refine (HSR.out _ a2 c2 HQ0.out.lines).mono ?_; rintro e q1 ⟨aa5, cp5, rfl, hb⟩; have HQ1 : Hid (DBox q1 E st a2 c2 z0) := HQ0.out.below hb; have HB1 : Hid (Below w.heap.size w q1) := HB0.out.trans (hb.mono HB0.out.size); clear hb) | (go_at_call 14; refine (HSE.out _ a2 c2 HQ1.out.lines).mono ?_; rintro e q2 ⟨rfl, hb⟩; have HQ2 : Hid (DBox q2 E st a2 c2 z0) := HQ1.out.below hb; have HB2 : Hid (Below w.heap.size w q2) := HB1.out.trans (hb.mono HB1.out.size); clear hb) | (go_at_call 23; refine (keepOf_any _ a0 len0 cap0 (by omega) (HC0.out.below HB2.out HB2.out.size)).mono ?_; rintro e q3 ⟨ks, kb, kc, rfl, hk9, hnk, hb⟩; have HQ3 : Hid (DBox q3 E st a2 c2 z0) := HQ2.out.below hb; have HB3 : Hid (Below w.heap.size w q3) := HB2.out.trans (hb.mono HB2.out.size); have HNK : Hid (Nums q3 kb ks) := hnk; have HK9 : Hid (ks.length ≤ 9) := hk9; clear hnk hk9; clear hb) | (go_at_call 22; refine (HSC.out _ a2 c2 kb kc ks HK9.out HQ3.out.lines HNK.out).mono ?_; rintro e q4 ⟨rfl, hb⟩; have HQ4 : Hid (DBox q4 E st a2 c2 z0) := HQ3.out.below hb; have HB4 : Hid (Below w.heap.size w q4) := HB3.out.trans (hb.mono HB3.out.size); clear hb))
        all_goals
          go_wp2
          go_ret
          exact ⟨rfl, HB4.out⟩
  | false =>
    clear hokb
    have d0 := Hd.out.c0
    have d1 := Hd.out.c1
    have Ld0 := fun n : Later v2 => Later.cell d0 n
    have Ld1 := fun n : Later v2 => Later.cell d1 n
    go_wp2_with (rw [← HXv2.out])
    clear d0 d1
    refine region_later (by kernel_rfl) (by kernel_rfl) ?_
    repeat (go_big_quiet_step (first | (go_at_call 16; exact later_of (HLI.out _)) | (go_at_call 18; exact later_of (HLS.out _))))
    refine wpQuiet_nil ?_
    intro w' hw'
    obtain ⟨nn, rfl⟩ := hw'
    have hb := nn.below
    generalize nn.world = u1 at hb ⊢
    clear Ld0 Ld1 HLI HLS hne
    have HBelu1 : Hid (Below w.heap.size w u1) := HBelv2.out.trans (hb.mono HBelv2.out.size)
    have Hd : Hid (DBox u1 v1.heap.size safe aa cp ls) := Hd.out.below hb
    clear hb
    have hne := some_later u1
    have HLI : Hid (∀ n : Later u1, Calls _ _ _ n.world _) := fun n => HIO.out n.world aa cp (Hd.out.later n).lines
    have HLS : Hid (∀ n : Later u1, Calls _ _ _ n.world _) := fun n => HSO.out n.world aa cp (Hd.out.later n).lines
    have d0 := Hd.out.c0
    have d1 := Hd.out.c1
    have Ld0 := fun n : Later u1 => Later.cell d0 n
    have Ld1 := fun n : Later u1 => Later.cell d1 n
    go_wp2
    clear d0 d1
    refine region_later (by kernel_rfl) (by kernel_rfl) ?_
    repeat (go_big_quiet_step (first | (go_at_call 16; exact later_of (HLI.out _)) | (go_at_call 18; exact later_of (HLS.out _))))
    refine wpQuiet_nil ?_
    intro w' hw'
    obtain ⟨nn, rfl⟩ := hw'
    have hb := nn.below
    generalize nn.world = u2 at hb ⊢
    clear Ld0 Ld1
    have HBelu2 : Hid (Below w.heap.size w u2) := HBelu1.out.trans (hb.mono HBelu1.out.size)
    have Hd : Hid (DBox u2 v1.heap.size safe aa cp ls) := Hd.out.below hb
    go_wp2
    go_ret
    exact ⟨rfl, HBelu2.out⟩

set_option maxRecDepth 100000 in
theorem lifted (os : Os) (started : os.Started) (H : Type) (enc : TypeId × Value → H) :
    ReturnsInHanded {} Try.checked os 4 .any (Rows.fnFencedSpec.pre6 enc Try.prog Try.f4 Rows.fnFencedRow.domain false) (Rows.fnFencedSpec.post enc Try.prog Try.f4 false true false false) := by
  refine returnsInHanded_of_change (C := Try.checked) own started (by kernel_rfl) Try.func4
    (ChangeSpec.witness6 (enc := enc) (C := Try.checked) false ⟨#[], #[.slice none 0 0], []⟩ 8 (by kernel_rfl) (by kernel_rfl) (by kernel_rfl) (by kernel_rfl)) ?_
  intro W base args ds gs before hval0 hW hcnd _
  have hval : ∀ (j : Nat) t v, Try.f4.params[j]? = some t → args[j]? = some v → Value.okWide Try.prog W .any base t v := hval0
  have hW' := hW
  obtain ⟨p, q, hA0, hV, rfl, hfz, hnd⟩ := hW
  have hA : DataW.TrodAll enc Try.prog W 0 (fun _ => true) true Try.f4.params.toList args.toList ds p := hA0
  rw [Try.params4] at hA hval
  obtain ⟨v0, vs0, d0, ds0, p0, q0, hargs, rfl, rfl, h0, r0⟩ := trodAll_cons hA
  obtain ⟨rfl, rfl, rfl⟩ := trodAll_nil r0
  obtain rfl : args = #[v0] := by cases args; simp_all
  obtain ⟨rfl, rfl⟩ := trodVars_none hV
  obtain ⟨a0, len0, cap0, rfl⟩ := okWide_slice Try.underlying22 (hval 0 22 v0 rfl rfl)
  have k0 := h0
  have lt0 : ∀ x ∈ p0, x.block < W.heap.size := by obtain ⟨m, hm⟩ := k0; exact DataW.trod_lt m _ _ _ hm
  obtain ⟨z0, w0⟩ : ∃ zs, IsRow .u8 W a0 len0 cap0 zs := by
    obtain ⟨fuel, hf⟩ := h0
    rcases open_ints Try.underlying22 Try.underlying5 (by kernel_rfl) hf with ⟨hcs, _⟩ | ⟨x, l, c, zs, hcs, _, hl, hm, hz, _, hcell, hwz⟩
    · simp [Value.cells] at hcs
      obtain ⟨rfl, rfl, rfl⟩ := hcs
      exact ⟨[], .inl ⟨rfl, rfl, rfl, rfl⟩⟩
    · simp [Value.cells] at hcs
      obtain ⟨rfl, rfl, rfl⟩ := hcs
      exact ⟨zs, .inr ⟨_, rfl, hl, hm, by simpa using hz, hcell, hwz⟩⟩
  clear hA0 hval0
  refine (walk a0 len0 cap0 z0 W w0).mono fun e W' ⟨he, bel⟩ => ?_
  subst he
  exact ⟨_, rfl, _, _, _, [], _, [], hW', trodAll_mk1 (shut_bool Try.underlying4 _), (trodAll_cons_mk (Below.trod laidOut (by kernel_rfl) (of_decide_eq_true (by kernel_rfl)) k0 bel lt0) trodAll_mk0), rfl, bel.frame _, fun h => by cases h⟩

theorem over : Rows.fnFencedRow.holds Try.pinned (OpenSpec.ofChange Rows.fnFencedSpec) :=
  OpenClaim.holds_of_wide 4 Try.f4 rfl rfl rfl rfl rfl rfl rfl ⟨rfl, rfl, rfl, rfl, rfl⟩ rfl rfl rfl rfl rfl (by kernel_rfl) Try.func4 (by kernel_rfl)
    (of_decide_eq_true (by kernel_rfl)) (by unfold Func.isWrapper; first | (rw [if_pos (by decide +kernel)]; kernel_rfl) | (rw [if_neg (by decide +kernel)]; exact ⟨rfl, rfl⟩))
    (fun os started H enc _ => lifted os started H enc)

theorem proved : Rows.FnFencedSaid := over
#print axioms proved
end Go.Proofs.Ytgpmpijaggnocaa.fnFenced
