/-
  What the program's Store returns: the lines with one of them changed, or with one more, in new memory; nothing that was there is written.
-/
import Derived.Test.YtgpmpijaggnocaaStore2
namespace Go.Proofs.Ytgpmpijaggnocaa.dev
open Go.RowKit Go.Maps
open bb later

set_option maxHeartbeats 4000000 in
theorem impl_store_no (w : World) (safe : ByteArray) (a : Option Addr) (cap : Nat) (ls : List Ln) (at_ : Int) (d : ByteArray) (hd : d.size ≤ 1048576) (hat : at_ < 9223372036854775808) (hs : safe.size ≤ 1048576) (hn : ls.length ≤ 1048576) (hl : Lines w a ls) (hz : ∀ i (hi : i < ls.length), ls[i].data.size ≤ 1048576 ∧ ls[i].sent.size ≤ 1048576) (hbad : ¬ (DevOk safe ls ∧ Fits safe at_ (d.size : Int))) :
    Calls Try.prog 11 #[.agg #[.string safe, .slice a ls.length cap], .int .i64 at_, .string d] w fun e w' => e = .returned (.tuple #[.agg #[.string ⟨#[]⟩, .slice none 0 0], .bool false]) ∧ Below w.heap.size w w' := by
  obtain ⟨W, hW⟩ : ∃ W, W = start w safe (.slice a ls.length cap) := ⟨_, rfl⟩
  have HS : Hid (Start w W safe (.slice a ls.length cap)) := by rw [hW]; exact start_is _ _ _
  have HW : Hid (W = (w.alloc (.cells #[.string safe, .slice a ls.length cap] 26)).alloc (.cells #[.string ⟨#[]⟩, .slice none 0 0] 26)) := hW
  have HC : Hid (Calls _ _ _ _ _) := impl_ok W safe a cap ls hs hn (hl.below HS.out.below) hz
  have HH : Hid (¬ Fits safe at_ (d.size : Int) → ∀ w, Calls _ _ _ w _) := fun h w => inOne_no w safe (.slice a ls.length cap) at_ (d.size : Int) hs (by omega) hat h
  clear hl hz hW hat
  go_enter Try.func11, Try.ntmps11
  go_wp2_with fail
  rw [← HW.out]
  refine HC.out.mono ?_
  rintro e w2 ⟨b, rfl, hb, hb2⟩
  have HB2 : Hid (Below W.heap.size W w2) := hb2
  cases b with
  | false =>
    clear hb hb2 hbad
    obtain E := HS.out.ended HB2.out
    have q0 := E.at0; have q1 := E.at1
    have t0 := HS.out.res0 w2 HB2.out; have t1 := HS.out.res1 w2 HB2.out; have y0 := HS.out.fro0 w2 HB2.out; have y1 := HS.out.fro1 w2 HB2.out
    have HE : Hid (Ended w w2) := E
    clear E
    go_wp2
    refine bodyPost_ret (v := .tuple #[.agg #[.string ⟨#[]⟩, .slice none 0 0], .bool false]) (by simp [results, Try.results11, go_sem, q0, q1]) rfl ?_
    exact ⟨rfl, HE.out.below _ _⟩
  | true =>
    have hnf : ¬ Fits safe at_ (d.size : Int) := fun q => hbad ⟨hb.1 rfl, q⟩
    clear hb hb2 hbad
    have n0 := HS.out.arg0 w2 HB2.out; have n1 := HS.out.arg1 w2 HB2.out
    go_wp2_with fail
    refine (HH.out hnf _).mono ?_
    rintro e w3 ⟨rfl, hb3⟩
    have HB3 : Hid (Below W.heap.size W w3) := HB2.out.trans (hb3.mono HB2.out.size)
    clear hb3 n0 n1
    obtain E := HS.out.ended HB3.out
    have q0 := E.at0; have q1 := E.at1
    have t0 := HS.out.res0 w3 HB3.out; have t1 := HS.out.res1 w3 HB3.out; have y0 := HS.out.fro0 w3 HB3.out; have y1 := HS.out.fro1 w3 HB3.out
    have HE : Hid (Ended w w3) := E
    clear E
    go_wp2
    refine bodyPost_ret (v := .tuple #[.agg #[.string ⟨#[]⟩, .slice none 0 0], .bool false]) (by simp [results, Try.results11, go_sem, q0, q1]) rfl ?_
    exact ⟨rfl, HE.out.below _ _⟩
set_option maxHeartbeats 8000000 in
theorem impl_store (w : World) (safe : ByteArray) (a : Option Addr) (cap : Nat) (ls : List Ln) (A : Int) (p o : Nat) (d : ByteArray) (hA : A = ((64 * p + o : Nat) : Int)) (hs : safe.size ≤ 1048576) (hn : ls.length ≤ 1048576) (hl : Lines w a ls) (hz : ∀ i (hi : i < ls.length), ls[i].data.size ≤ 1048576 ∧ ls[i].sent.size ≤ 1048576) (hok : DevOk safe ls) (hp : p < safe.size / 64) (hd0 : 1 ≤ d.size) (hd1 : o + d.size ≤ 64) :
    Calls Try.prog 11 #[.agg #[.string safe, .slice a ls.length cap], .int .i64 A, .string d] w fun e w' => ∃ u, e = .returned (.tuple #[.agg #[.string safe, u], .bool true]) ∧ w'.ownsRow w.heap.size 46 3 u (storeL safe ls p o d).length (cellsOfLines (storeL safe ls p o d)) ∧ Below w.heap.size w w' := by
  obtain ⟨W, hW⟩ : ∃ W, W = start w safe (.slice a ls.length cap) := ⟨_, rfl⟩
  have HS : Hid (Start w W safe (.slice a ls.length cap)) := by rw [hW]; exact start_is _ _ _
  have HW : Hid (W = (w.alloc (.cells #[.string safe, .slice a ls.length cap] 26)).alloc (.cells #[.string ⟨#[]⟩, .slice none 0 0] 26)) := hW
  have HC : Hid (Calls _ _ _ _ _) := impl_ok W safe a cap ls hs hn (hl.below HS.out.below) hz
  have hfit : Fits safe A (d.size : Int) := ⟨by omega, by omega, by omega, by omega, by omega⟩
  have HH : Hid (∀ w, Calls _ _ _ w _) := fun w => inOne_yes w safe (.slice a ls.length cap) A (d.size : Int) hs hfit
  have HLC : Hid (∀ w, Calls _ _ _ w _) := fun w => lineCount_any w safe (.slice a ls.length cap) hs
  have HLP : Hid (∀ w', Below W.heap.size W w' → Calls _ _ _ w' _) := fun w' h => linesByPlace_any w' safe a cap ls hn ((hl.below HS.out.below).below h) hok
  have HSL : Hid (∀ w, Calls _ _ _ w _) := fun w => safeLine_any w safe (.slice a ls.length cap) p hs (by omega)
  have hsz64 : (safeAt safe p).size = 64 := by unfold safeAt; rw [ByteArray.size_extract]; omega
  have HOK : Hid (DevOk safe ls) := hok
  have hcn : safe.size / 64 ≤ 1048576 := by omega
  have hwf : (Lit.int .i64 (p : Int)).wf = true := wf_small (p : Int) (by omega) (by omega)
  have HCN : Hid (safe.size / 64 ≤ 1048576) := hcn
  have hpl : (p : Int) < ((safe.size / 64 : Nat) : Int) := by omega
  have a0 : 0 ≤ A := by omega
  have a1 : A ≤ 1048576 := by omega
  have e1 : A / 64 = (p : Int) := by omega
  have e2 : A % 64 = (o : Int) := by omega
  have hlm : ls.length < maxLen := by unfold maxLen; omega
  have HPL : Hid ((p : Int) < ((safe.size / 64 : Nat) : Int)) := hpl
  have g1 : (0 : Int) ≤ (o : Int) := by omega
  have g2 : (o : Int) + (d.size : Int) ≤ 64 := by omega
  clear hl hz hW hok hcn hA hp hfit hpl
  go_enter Try.func11, Try.ntmps11
  go_wp2_with fail
  rw [← HW.out]
  refine HC.out.mono ?_
  rintro e w2 ⟨b, rfl, hb, hb2⟩
  have hbt : b = true := hb.2 HOK.out
  subst hbt
  have HB2 : Hid (Below W.heap.size W w2) := hb2
  clear hb hb2
  have n0 := HS.out.arg0 w2 HB2.out; have n1 := HS.out.arg1 w2 HB2.out
  go_wp2_with fail
  refine (HH.out _).mono ?_
  rintro e w3 ⟨rfl, hb3⟩
  have HB3 : Hid (Below W.heap.size W w3) := HB2.out.trans (hb3.mono HB2.out.size)
  clear hb3 n0 n1
  have n0 := HS.out.arg0 w3 HB3.out; have n1 := HS.out.arg1 w3 HB3.out
  go_wp2_with fail
  rw [e1, e2]
  clear e1 e2
  refine (HLP.out w3 HB3.out).mono ?_
  rintro e w4 ⟨m, rfl, hm, hmp, hb4⟩
  have HB4 : Hid (Below W.heap.size W w4) := HB3.out.trans (hb4.mono HB3.out.size)
  have HM : Hid (MapIs w4 m ls.length (byPlace ls)) := hmp
  have hmW : W.heap.size ≤ m := Nat.le_trans HB3.out.size hm
  clear hb4 hmp n0 n1 hm
  have HIO : Hid (∀ w', MapIs w' m (ls.length + 1) (upd (byPlace ls) (p : Int) (some (storeNew safe ls p o d))) → Calls _ _ _ w' _) := fun w' h => linesInOrder_any w' m (ls.length + 1) _ (safe.size / 64) HCN.out h
  rw [store_order HOK.out p o d HPL.out (upd (byPlace ls) (p : Int) (some (storeNew safe ls p o d))) (fun q => rfl)] at HIO
  cases hfp : byPlace ls (p : Int) with
  | some l =>
    have hfp2 : findAt ls (p : Int) = some l := by rw [← byPlace_find (ok_pairwise HOK.out)]; exact hfp
    obtain ⟨hlp, hld⟩ := find_ok HOK.out hfp2
    have hnew : storeNew safe ls p o d = ⟨l.place, withAt l.data o d, l.sent⟩ := by unfold storeNew; rw [hfp2]
    obtain ⟨pl, dt, sn⟩ := l
    simp only at hlp hld hnew
    subst hlp
    have HNW : Hid (storeNew safe ls p o d = ⟨(p : Int), withAt dt o d, sn⟩) := hnew
    have HWE : Hid (dt.extract 0 o ++ d ++ dt.extract (o + d.size) dt.size = withAt dt o d) := withAt_eq dt o d
    have g3 : (o : Int) ≤ (dt.size : Int) := by omega
    have g4 : (o : Int) + (d.size : Int) ≤ (dt.size : Int) := by omega
    have g5 : (dt.extract 0 o).size = o := by simp; omega
    have g6 : (dt.extract (o + d.size) dt.size).size = dt.size - (o + d.size) := by simp
    have g7 : (dt.extract 0 o).size + d.size ≤ 1048576 := by omega
    have g8 : (dt.extract 0 o ++ d).size + (dt.extract (o + d.size) dt.size).size ≤ 1048576 := by rw [ByteArray.size_append]; omega
    obtain ⟨X0, hX0⟩ : ∃ X, X = (w4.alloc (.cells #[.int .i64 (p : Int), .string (withAt dt o d), .string sn] 46)).drew := ⟨_, rfl⟩
    have hBX0 : Below w4.heap.size w4 X0 := by rw [hX0]; exact ((Below.refl _ _).alloc (Nat.le_refl _) _).drew
    have HBX0 : Hid (Below W.heap.size W X0) := HB4.out.trans (hBX0.mono HB4.out.size)
    have HMX0 : Hid (MapIs X0 m ls.length (byPlace ls)) := HM.out.below hBX0
    have x0 : X0.cell? ⟨w4.heap.size, 0, none⟩ = some (.int .i64 (p : Int)) := by rw [hX0]; show (w4.alloc _).cell? _ = _; rw [World.cell?_alloc_new]; rfl
    have x1 : X0.cell? ⟨w4.heap.size, 1, none⟩ = some (.string (withAt dt o d)) := by rw [hX0]; show (w4.alloc _).cell? _ = _; rw [World.cell?_alloc_new]; rfl
    have x2 : X0.cell? ⟨w4.heap.size, 2, none⟩ = some (.string sn) := by rw [hX0]; show (w4.alloc _).cell? _ = _; rw [World.cell?_alloc_new]; rfl
    have HX0 : Hid (X0 = (w4.alloc (.cells #[.int .i64 (p : Int), .string (withAt dt o d), .string sn] 46)).drew) := hX0
    clear hX0 hBX0 hfp2 hnew hld
    go_wp2_with (at_lookup; refine at_get_some _ rfl _ _ rfl m ls.length _ rfl HM.out _ _ hfp rfl hwf ?_)
    go_region
    rw [HWE.out, ← HX0.out]
    clear g1 g2 g3 g4 g5 g6 g7 g8 a0 a1
    generalize withAt dt o d = nd at x1 HNW
    go_wp2_with (at_mapUpdate; refine at_put _ rfl _ _ _ rfl m ls.length _ rfl HMX0.out hlm (p : Int) ⟨(p : Int), nd, sn⟩ rfl rfl hwf ?_; intro X hmX hgX)
    have HMX : Hid (MapIs X m (ls.length + 1) (upd (byPlace ls) (p : Int) (some (storeNew safe ls p o d)))) := by
      show MapIs X m (ls.length + 1) (upd (byPlace ls) (p : Int) (some (storeNew safe ls p o d)))
      rw [HNW.out]; exact hmX
    have HBX : Hid (Below W.heap.size W X) := HBX0.out.trans (below_of_grown hgX HBX0.out.size hmW)
    clear hmX hgX x0 x1 x2 HNW
    have HBd : Hid (Below W.heap.size W X.drew) := HBX.out.drew
    have HStep : Hid (∀ w5, Below X.drew.heap.size X.drew w5 → Below W.heap.size W w5 ∧ MapIs w5 m (ls.length + 1) (upd (byPlace ls) (p : Int) (some (storeNew safe ls p o d)))) := fun w5 h =>
      ⟨HBd.out.trans (h.mono HBd.out.size), HMX.out.below (show Below X.heap.size X w5 from ⟨h.os, h.tape, h.output, h.size, h.block⟩)⟩
    go_region_held3 (fun w' => w'.cell? ⟨w.heap.size, 0, none⟩ = some (.string safe) ∧ w'.cell? ⟨w.heap.size, 1, none⟩ = some (.slice a ls.length cap))
      (first | exact HS.out.args HBd.out | exact HS.out.args h5 | exact HS.out.args h6 | exact HS.out.args2 h6 _ _)
      (first | (go_at_call 41; refine (HLC.out X.drew).mono ?_; rintro e w5 ⟨rfl, hb5⟩; have h5 := (HStep.out w5 hb5).1) | (go_at_call 40; refine (HIO.out w5 (HStep.out w5 hb5).2).mono ?_; rintro e w6 ⟨u, rfl, hown, hb6⟩; obtain ⟨aa, cp, rfl⟩ := row_shape hown; have h6 : Below W.heap.size W w6 := h5.trans (hb6.mono h5.size); have t0 := HS.out.res0 w6 h6; have t1 := HS.out.res1 w6 h6; have y0 := HS.out.fro0 w6 h6; have y1 := HS.out.fro1 w6 h6))
    all_goals
      have HRK : Hid (_) := row_kept (w := w) (by rw [← HS.out.size]; exact h5.size) hown
      have HE : Hid (Ended w w6) := HS.out.ended h6
      have q0 := HE.out.at0; have q1 := HE.out.at1
      clear hown hb5 hb6 h5 h6
      go_wp2
      refine bodyPost_ret (v := .tuple #[.agg #[.string safe, .slice aa (storeL safe ls p o d).length cp], .bool true]) (by simp [results, Try.results11, go_sem, q0, q1]) rfl ?_
      exact ⟨_, rfl, HRK.out _ _, HE.out.below _ _⟩
  | none =>
    have hfp2 : findAt ls (p : Int) = none := by rw [← byPlace_find (ok_pairwise HOK.out)]; exact hfp
    have HNW : Hid (storeNew safe ls p o d = ⟨(p : Int), withAt (safeAt safe p) o d, ⟨#[]⟩⟩) := by
      show storeNew safe ls p o d = _
      unfold storeNew; rw [hfp2]
    generalize safeAt safe p = dt at HSL HNW hsz64
    have HWE : Hid (dt.extract 0 o ++ d ++ dt.extract (o + d.size) dt.size = withAt dt o d) := withAt_eq dt o d
    have g3 : (o : Int) ≤ (dt.size : Int) := by omega
    have g4 : (o : Int) + (d.size : Int) ≤ (dt.size : Int) := by omega
    have g5 : (dt.extract 0 o).size = o := by simp; omega
    have g6 : (dt.extract (o + d.size) dt.size).size = dt.size - (o + d.size) := by simp
    have g7 : (dt.extract 0 o).size + d.size ≤ 1048576 := by omega
    have g8 : (dt.extract 0 o ++ d).size + (dt.extract (o + d.size) dt.size).size ≤ 1048576 := by rw [ByteArray.size_append]; omega
    obtain ⟨Z, hZ⟩ : ∃ X, X = w4.alloc (.cells #[.int .i64 0, .string ⟨#[]⟩, .string ⟨#[]⟩] 46) := ⟨_, rfl⟩
    have hBZ : Below w4.heap.size w4 Z := by rw [hZ]; exact (Below.refl _ _).alloc (Nat.le_refl _) _
    have HBZ : Hid (Below W.heap.size W Z) := HB4.out.trans (hBZ.mono HB4.out.size)
    have HMZ : Hid (MapIs Z m ls.length (byPlace ls)) := HM.out.below hBZ
    have k0 : Z.cell? ⟨w4.heap.size, 0, none⟩ = some (.int .i64 0) := by rw [hZ, World.cell?_alloc_new]; rfl
    have k1 : Z.cell? ⟨w4.heap.size, 1, none⟩ = some (.string ⟨#[]⟩) := by rw [hZ, World.cell?_alloc_new]; rfl
    have k2 : Z.cell? ⟨w4.heap.size, 2, none⟩ = some (.string ⟨#[]⟩) := by rw [hZ, World.cell?_alloc_new]; rfl
    have kf : ∀ i, Z.frozen? ⟨w4.heap.size, i, none⟩ = false := fun i => by rw [hZ]; exact World.frozen?_alloc_new _ _ _ _
    have hZs : w4.heap.size < Z.heap.size := by rw [hZ]; simp
    have HZ : Hid (Z = w4.alloc (.cells #[.int .i64 0, .string ⟨#[]⟩, .string ⟨#[]⟩] 46)) := hZ
    have n0 : (w4.alloc (.cells #[.int .i64 0, .string ⟨#[]⟩, .string ⟨#[]⟩] 46)).cell? ⟨w.heap.size, 0, none⟩ = some (.string safe) := by rw [← HZ.out]; exact HS.out.arg0 Z HBZ.out
    have n1 : (w4.alloc (.cells #[.int .i64 0, .string ⟨#[]⟩, .string ⟨#[]⟩] 46)).cell? ⟨w.heap.size, 1, none⟩ = some (.slice a ls.length cap) := by rw [← HZ.out]; exact HS.out.arg1 Z HBZ.out
    have hmg : w4.heap.size ≠ m := fun q => by
      obtain ⟨D, ho', _⟩ := HM.out
      have := ho'.lt
      omega
    clear hZ hBZ hfp2
    go_wp2_with (first | (at_lookup; refine at_get_none _ rfl _ _ rfl m ls.length _ rfl HM.out _ hfp rfl hwf ?_) | fail)
    rw [← HZ.out]
    refine (HSL.out _).mono ?_
    rintro e w5 ⟨rfl, hb5⟩
    have HB5 : Hid (Below W.heap.size W w5) := HBZ.out.trans (hb5.mono HBZ.out.size)
    have HM5 : Hid (MapIs w5 m ls.length (byPlace ls)) := HMZ.out.below hb5
    have q0 : w5.cell? ⟨w4.heap.size, 0, none⟩ = some (.int .i64 0) := by rw [hb5.cell (p := ⟨w4.heap.size, 0, none⟩) hZs]; exact k0
    have q1 : w5.cell? ⟨w4.heap.size, 1, none⟩ = some (.string ⟨#[]⟩) := by rw [hb5.cell (p := ⟨w4.heap.size, 1, none⟩) hZs]; exact k1
    have q2 : w5.cell? ⟨w4.heap.size, 2, none⟩ = some (.string ⟨#[]⟩) := by rw [hb5.cell (p := ⟨w4.heap.size, 2, none⟩) hZs]; exact k2
    have r0 : w5.frozen? ⟨w4.heap.size, 0, none⟩ = false := by rw [hb5.frozen (p := ⟨w4.heap.size, 0, none⟩) hZs]; exact kf 0
    have r1 : w5.frozen? ⟨w4.heap.size, 1, none⟩ = false := by rw [hb5.frozen (p := ⟨w4.heap.size, 1, none⟩) hZs]; exact kf 1
    have r2 : w5.frozen? ⟨w4.heap.size, 2, none⟩ = false := by rw [hb5.frozen (p := ⟨w4.heap.size, 2, none⟩) hZs]; exact kf 2
    obtain ⟨Y, hY⟩ : ∃ Y, Y = ((w5.setCell ⟨w4.heap.size, 0, none⟩ (.int .i64 (p : Int))).setCell ⟨w4.heap.size, 1, none⟩ (.string dt)).setCell ⟨w4.heap.size, 2, none⟩ (.string ⟨#[]⟩) := ⟨_, rfl⟩
    have hYg : w5.grownBy Y (some w4.heap.size) := by rw [hY]; exact grown_trans (grown_trans (grown_set _ _ _ _) (grown_set _ _ _ _)) (grown_set _ _ _ _)
    have hne : ∀ i j : Nat, i ≠ j → (⟨w4.heap.size, i, none⟩ : Addr) ≠ ⟨w4.heap.size, j, none⟩ := fun i j h q => by have := congrArg Addr.off q; simp at this; omega
    have y0 : Y.cell? ⟨w4.heap.size, 0, none⟩ = some (.int .i64 (p : Int)) := by
      rw [hY, World.cell?_setCell_other _ _ _ _ (hne 2 0 (by omega)), World.cell?_setCell_other _ _ _ _ (hne 1 0 (by omega))]
      exact World.cell?_setCell_same _ _ _ q0
    have y1 : Y.cell? ⟨w4.heap.size, 1, none⟩ = some (.string dt) := by
      rw [hY, World.cell?_setCell_other _ _ _ _ (hne 2 1 (by omega))]
      exact World.cell?_setCell_same _ _ _ (by rw [World.cell?_setCell_other _ _ _ _ (hne 0 1 (by omega))]; exact q1)
    have y2 : Y.cell? ⟨w4.heap.size, 2, none⟩ = some (.string ⟨#[]⟩) := by
      rw [hY]
      exact World.cell?_setCell_same _ _ _ (by rw [World.cell?_setCell_other _ _ _ _ (hne 1 2 (by omega)), World.cell?_setCell_other _ _ _ _ (hne 0 2 (by omega))]; exact q2)
    have yf : Y.frozen? ⟨w4.heap.size, 1, none⟩ = false := by rw [hY, World.frozen?_setCell, World.frozen?_setCell, World.frozen?_setCell]; exact r1
    have hw4 : W.heap.size ≤ w4.heap.size := HB4.out.size
    have HBY : Hid (Below W.heap.size W Y) := HB5.out.trans (below_of_grown hYg HB5.out.size hw4)
    have HMY : Hid (MapIs Y m ls.length (byPlace ls)) := HM5.out.kept hYg (by intro q; injection q with q; exact hmg q.symm)
    have HY : Hid (Y = ((w5.setCell ⟨w4.heap.size, 0, none⟩ (.int .i64 (p : Int))).setCell ⟨w4.heap.size, 1, none⟩ (.string dt)).setCell ⟨w4.heap.size, 2, none⟩ (.string ⟨#[]⟩)) := hY
    obtain ⟨V, hV⟩ : ∃ V, V = (Y.setCell ⟨w4.heap.size, 1, none⟩ (.string (withAt dt o d))).drew := ⟨_, rfl⟩
    have hVg : Y.grownBy V (some w4.heap.size) := by rw [hV]; have hq := grown_set Y w4.heap.size 1 (.string (withAt dt o d)); exact ⟨hq.os, hq.tape, hq.output, hq.size, hq.block⟩
    have v0 : V.cell? ⟨w4.heap.size, 0, none⟩ = some (.int .i64 (p : Int)) := by
      rw [hV]; show (Y.setCell _ _).cell? _ = _; rw [World.cell?_setCell_other _ _ _ _ (hne 1 0 (by omega))]; exact y0
    have v1 : V.cell? ⟨w4.heap.size, 1, none⟩ = some (.string (withAt dt o d)) := by
      rw [hV]; show (Y.setCell _ _).cell? _ = _; exact World.cell?_setCell_same _ _ _ y1
    have v2 : V.cell? ⟨w4.heap.size, 2, none⟩ = some (.string ⟨#[]⟩) := by
      rw [hV]; show (Y.setCell _ _).cell? _ = _; rw [World.cell?_setCell_other _ _ _ _ (hne 1 2 (by omega))]; exact y2
    have HBX0 : Hid (Below W.heap.size W V) := HBY.out.trans (below_of_grown hVg HBY.out.size hw4)
    have HMX0 : Hid (MapIs V m ls.length (byPlace ls)) := HMY.out.kept hVg (by intro q; injection q with q; exact hmg q.symm)
    have HV : Hid (V = (Y.setCell ⟨w4.heap.size, 1, none⟩ (.string (withAt dt o d))).drew) := hV
    clear hV hVg hY hYg hb5 k0 k1 k2 kf n0 n1 hne hsz64
    go_wp2_with (rw [← HY.out])
    go_region
    rw [HWE.out, ← HV.out]
    clear g1 g2 g3 g4 g5 g6 g7 g8 a0 a1 y0 y1 y2 yf q0 q1 q2 r0 r1 r2
    generalize withAt dt o d = nd at v1 HNW
    go_wp2_with (at_mapUpdate; refine at_put _ rfl _ _ _ rfl m ls.length _ rfl HMX0.out hlm (p : Int) ⟨(p : Int), nd, ⟨#[]⟩⟩ rfl rfl hwf ?_; intro X hmX hgX)
    have HMX : Hid (MapIs X m (ls.length + 1) (upd (byPlace ls) (p : Int) (some (storeNew safe ls p o d)))) := by
      show MapIs X m (ls.length + 1) (upd (byPlace ls) (p : Int) (some (storeNew safe ls p o d)))
      rw [HNW.out]; exact hmX
    have HBX : Hid (Below W.heap.size W X) := HBX0.out.trans (below_of_grown hgX HBX0.out.size hmW)
    clear hmX hgX v0 v1 v2 HNW
    have HBd : Hid (Below W.heap.size W X.drew) := HBX.out.drew
    have HStep : Hid (∀ w5, Below X.drew.heap.size X.drew w5 → Below W.heap.size W w5 ∧ MapIs w5 m (ls.length + 1) (upd (byPlace ls) (p : Int) (some (storeNew safe ls p o d)))) := fun w5 h =>
      ⟨HBd.out.trans (h.mono HBd.out.size), HMX.out.below (show Below X.heap.size X w5 from ⟨h.os, h.tape, h.output, h.size, h.block⟩)⟩
    go_region_held3 (fun w' => w'.cell? ⟨w.heap.size, 0, none⟩ = some (.string safe) ∧ w'.cell? ⟨w.heap.size, 1, none⟩ = some (.slice a ls.length cap))
      (first | exact HS.out.args HBd.out | exact HS.out.args h5 | exact HS.out.args h6 | exact HS.out.args2 h6 _ _)
      (first | (go_at_call 41; refine (HLC.out X.drew).mono ?_; rintro e w5 ⟨rfl, hb5⟩; have h5 := (HStep.out w5 hb5).1) | (go_at_call 40; refine (HIO.out w5 (HStep.out w5 hb5).2).mono ?_; rintro e w6 ⟨u, rfl, hown, hb6⟩; obtain ⟨aa, cp, rfl⟩ := row_shape hown; have h6 : Below W.heap.size W w6 := h5.trans (hb6.mono h5.size); have t0 := HS.out.res0 w6 h6; have t1 := HS.out.res1 w6 h6; have y0 := HS.out.fro0 w6 h6; have y1 := HS.out.fro1 w6 h6))
    all_goals
      have HRK : Hid (_) := row_kept (w := w) (by rw [← HS.out.size]; exact h5.size) hown
      have HE : Hid (Ended w w6) := HS.out.ended h6
      have q0 := HE.out.at0; have q1 := HE.out.at1
      clear hown hb5 hb6 h5 h6
      go_wp2
      refine bodyPost_ret (v := .tuple #[.agg #[.string safe, .slice aa (storeL safe ls p o d).length cp], .bool true]) (by simp [results, Try.results11, go_sem, q0, q1]) rfl ?_
      exact ⟨_, rfl, HRK.out _ _, HE.out.below _ _⟩
end Go.Proofs.Ytgpmpijaggnocaa.dev
