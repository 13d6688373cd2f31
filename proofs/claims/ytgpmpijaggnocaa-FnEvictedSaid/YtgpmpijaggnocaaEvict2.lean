/-
  What the program's Evict returns: the lines without one, and the text with its data, in new memory; nothing that was there is written.
-/
import Derived.Test.YtgpmpijaggnocaaEvict1
namespace Go.Proofs.Ytgpmpijaggnocaa.dev
open Go.RowKit Go.Maps
open bb later

set_option maxHeartbeats 4000000 in
theorem impl_evict_no (w : World) (safe : ByteArray) (a : Option Addr) (cap : Nat) (ls : List Ln) (p : Int) (hs : safe.size ≤ 1048576) (hn : ls.length ≤ 1048576) (hl : Lines w a ls) (hz : ∀ i (hi : i < ls.length), ls[i].data.size ≤ 1048576 ∧ ls[i].sent.size ≤ 1048576) (hbad : ¬ (DevOk safe ls ∧ 0 ≤ p ∧ p < ((safe.size / 64 : Nat) : Int))) :
    Calls Try.prog 27 #[.agg #[.string safe, .slice a ls.length cap], .int .i64 p] w fun e w' => e = .returned (.tuple #[.agg #[.string ⟨#[]⟩, .slice none 0 0], .bool false]) ∧ Below w.heap.size w w' := by
  obtain ⟨W, hW⟩ : ∃ W, W = start w safe (.slice a ls.length cap) := ⟨_, rfl⟩
  have HS : Hid (Start w W safe (.slice a ls.length cap)) := by rw [hW]; exact start_is _ _ _
  have HW : Hid (W = (w.alloc (.cells #[.string safe, .slice a ls.length cap] 26)).alloc (.cells #[.string ⟨#[]⟩, .slice none 0 0] 26)) := hW
  have HC : Hid (Calls _ _ _ _ _) := impl_ok W safe a cap ls hs hn (hl.below HS.out.below) hz
  have HH : Hid (∀ w, Calls _ _ _ w _) := fun w => hasLine_any w safe (.slice a ls.length cap) p hs
  clear hl hz hW
  go_enter Try.func27, Try.ntmps27
  go_wp2_with fail
  rw [← HW.out]
  refine HC.out.mono ?_
  rintro e w2 ⟨b, rfl, hb, hb2⟩
  have HB2 : Hid (Below W.heap.size W w2) := hb2
  cases b with
  | false =>
    clear hb hb2
    obtain E := HS.out.ended HB2.out
    have q0 := E.at0; have q1 := E.at1
    have t0 := HS.out.res0 w2 HB2.out; have t1 := HS.out.res1 w2 HB2.out; have y0 := HS.out.fro0 w2 HB2.out; have y1 := HS.out.fro1 w2 HB2.out
    have HE : Hid (Ended w w2) := E
    clear E
    go_wp2
    refine bodyPost_ret (v := .tuple #[.agg #[.string ⟨#[]⟩, .slice none 0 0], .bool false]) (by simp [results, Try.results27, go_sem, q0, q1]) rfl ?_
    exact ⟨rfl, HE.out.below _ _⟩
  | true =>
    have hrg : (decide (0 ≤ p) && decide (p < ((safe.size / 64 : Nat) : Int))) = false := by
      have := hb.1 rfl
      simp
      intro h0
      have : ¬ p < ((safe.size / 64 : Nat) : Int) := fun h1 => hbad ⟨this, h0, h1⟩
      omega
    rw [hrg] at HH
    clear hb hb2 hrg
    have n0 := HS.out.arg0 w2 HB2.out; have n1 := HS.out.arg1 w2 HB2.out
    go_wp2_with fail
    refine (HH.out _).mono ?_
    rintro e w3 ⟨rfl, hb3⟩
    have HB3 : Hid (Below W.heap.size W w3) := HB2.out.trans (hb3.mono HB2.out.size)
    clear hb3 n0 n1
    obtain E := HS.out.ended HB3.out
    have q0 := E.at0; have q1 := E.at1
    have t0 := HS.out.res0 w3 HB3.out; have t1 := HS.out.res1 w3 HB3.out; have y0 := HS.out.fro0 w3 HB3.out; have y1 := HS.out.fro1 w3 HB3.out
    have HE : Hid (Ended w w3) := E
    clear E
    go_wp2
    refine bodyPost_ret (v := .tuple #[.agg #[.string ⟨#[]⟩, .slice none 0 0], .bool false]) (by simp [results, Try.results27, go_sem, q0, q1]) rfl ?_
    exact ⟨rfl, HE.out.below _ _⟩
set_option maxHeartbeats 8000000 in
theorem impl_evict (w : World) (safe : ByteArray) (a : Option Addr) (cap : Nat) (ls : List Ln) (p : Int) (hs : safe.size ≤ 1048576) (hn : ls.length ≤ 1048576) (hl : Lines w a ls) (hz : ∀ i (hi : i < ls.length), ls[i].data.size ≤ 1048576 ∧ ls[i].sent.size ≤ 1048576) (hok : DevOk safe ls) (h0 : 0 ≤ p) (h1 : p < ((safe.size / 64 : Nat) : Int)) :
    Calls Try.prog 27 #[.agg #[.string safe, .slice a ls.length cap], .int .i64 p] w fun e w' => ∃ u, e = .returned (.tuple #[.agg #[.string (evictS safe ls p), u], .bool true]) ∧ w'.ownsRow w.heap.size 46 3 u (evictL ls p).length (cellsOfLines (evictL ls p)) ∧ Below w.heap.size w w' := by
  obtain ⟨W, hW⟩ : ∃ W, W = start w safe (.slice a ls.length cap) := ⟨_, rfl⟩
  have HS : Hid (Start w W safe (.slice a ls.length cap)) := by rw [hW]; exact start_is _ _ _
  have HW : Hid (W = (w.alloc (.cells #[.string safe, .slice a ls.length cap] 26)).alloc (.cells #[.string ⟨#[]⟩, .slice none 0 0] 26)) := hW
  have HC : Hid (Calls _ _ _ _ _) := impl_ok W safe a cap ls hs hn (hl.below HS.out.below) hz
  have hrg : (decide (0 ≤ p) && decide (p < ((safe.size / 64 : Nat) : Int))) = true := by simp; omega
  have HH : Hid (∀ w, Calls _ _ _ w _) := fun w => hasLine_any w safe (.slice a ls.length cap) p hs
  rw [hrg] at HH
  have HLC : Hid (∀ w, Calls _ _ _ w _) := fun w => lineCount_any w safe (.slice a ls.length cap) hs
  have HLP : Hid (∀ w', Below W.heap.size W w' → Calls _ _ _ w' _) := fun w' h => linesByPlace_any w' safe a cap ls hn ((hl.below HS.out.below).below h) hok
  have HOK : Hid (DevOk safe ls) := hok
  have hcn : safe.size / 64 ≤ 1048576 := by omega
  have hwf : (Lit.int .i64 p).wf = true := wf_small p h0 (by omega)
  have HCN : Hid (safe.size / 64 ≤ 1048576) := hcn
  have HP : Hid (0 ≤ p ∧ p < ((safe.size / 64 : Nat) : Int)) := ⟨h0, h1⟩
  clear hl hz hW hok hrg hcn h0 h1
  go_enter Try.func27, Try.ntmps27
  go_wp2_with fail
  rw [← HW.out]
  refine HC.out.mono ?_
  rintro e w2 ⟨b, rfl, hb, hb2⟩
  have hbt : b = true := hb.2 HOK.out
  subst hbt
  have HB2 : Hid (Below W.heap.size W w2) := hb2
  clear hb hb2
  have n0 := HS.out.arg0 w2 HB2.out; have n1 := HS.out.arg1 w2 HB2.out
  go_wp2_with fail
  refine (HH.out _).mono ?_
  rintro e w3 ⟨rfl, hb3⟩
  have HB3 : Hid (Below W.heap.size W w3) := HB2.out.trans (hb3.mono HB2.out.size)
  clear hb3 n0 n1
  have n0 := HS.out.arg0 w3 HB3.out; have n1 := HS.out.arg1 w3 HB3.out
  have hrt := run_told safe w3
  have htb := told_below w3 safe
  have hby := told_bytes w3 safe
  have hts := told_size w3 safe
  have hcp : safe.size ≤ capOf w3 safe := grownCap_ge _ _ _ _
  generalize told w3 safe = w3b at hrt htb hby hts
  generalize capOf w3 safe = cp at hrt hcp
  have HB3b : Hid (Below W.heap.size W w3b) := HB3.out.trans (htb.mono HB3.out.size)
  have HBy : Hid (Bytes w3b w3.heap.size safe.data.toList) := hby
  have hg3 : w3.heap.size < w3b.heap.size := by omega
  have k0 := HS.out.arg0 w3b HB3b.out; have k1 := HS.out.arg1 w3b HB3b.out
  clear htb hby hts
  go_wp2_with fail
  refine (HLP.out w3b HB3b.out).mono ?_
  rintro e w4 ⟨m, rfl, hm, hmp, hb4⟩
  have HB4 : Hid (Below W.heap.size W w4) := HB3b.out.trans (hb4.mono HB3b.out.size)
  have HM : Hid (MapIs w4 m ls.length (byPlace ls)) := hmp
  have HBy4 : Hid (Bytes w4 w3.heap.size safe.data.toList) := HBy.out.below hb4 hg3
  have hmW : W.heap.size ≤ m := Nat.le_trans HB3b.out.size hm
  have hmg : w3.heap.size < m := by omega
  have hWg : W.heap.size ≤ w3.heap.size := HB3.out.size
  have hg4 : w3.heap.size < w4.heap.size := Nat.lt_of_lt_of_le hg3 hb4.size
  clear hb4 hmp n0 n1 k0 k1 hm hrt HBy hg3
  have HWS := HS.out.size
  cases hfp : byPlace ls p with
  | none =>
    have HST : Hid (evictS safe ls p = safe) := by
      have := hfp
      rw [byPlace_find (ok_pairwise HOK.out)] at this
      show evictS safe ls p = safe
      unfold evictS
      rw [this]
    have HIO : Hid (∀ w', MapIs w' m ls.length (byPlace ls) → Calls _ _ _ w' _) := fun w' h => linesInOrder_any w' m ls.length (byPlace ls) (safe.size / 64) HCN.out h
    rw [evict_order HOK.out p _ (evict_none p hfp)] at HIO
    obtain ⟨X, hX⟩ : ∃ X, X = w4.alloc (.cells #[.int .i64 0, .string ⟨#[]⟩, .string ⟨#[]⟩] 46) := ⟨_, rfl⟩
    have hBX : Below w4.heap.size w4 X := by rw [hX]; exact (Below.refl _ _).alloc (Nat.le_refl _) _
    have HBX : Hid (Below W.heap.size W X) := HB4.out.trans (hBX.mono HB4.out.size)
    have HMX : Hid (MapIs X m ls.length (byPlace ls)) := HM.out.below hBX
    have HXB : Hid (Bytes X w3.heap.size safe.data.toList) := HBy4.out.below hBX hg4
    have hXg : w3.heap.size < X.heap.size := Nat.lt_of_lt_of_le hg4 hBX.size
    have HX : Hid (X = w4.alloc (.cells #[.int .i64 0, .string ⟨#[]⟩, .string ⟨#[]⟩] 46)) := hX
    have HTX : Hid (∀ w', Bytes w' w3.heap.size safe.data.toList → (convert 22 9 (.slice (some ⟨w3.heap.size, 0, none⟩) safe.size cp)).run Try.prog w' = .ok (.string (evictS safe ls p)) w') := fun w' h => by
      have := h.text cp
      rw [HST.out]
      simpa using this
    clear hX hBX
    go_wp2_with (at_lookup; refine at_get_none _ rfl _ _ rfl m ls.length _ rfl HM.out _ hfp rfl hwf ?_)
    rw [← HX.out]
    have HBd : Hid (Below W.heap.size W X.drew) := HBX.out.drew
    have HStep : Hid (∀ w5, Below X.drew.heap.size X.drew w5 → Below W.heap.size W w5 ∧ MapIs w5 m ls.length (byPlace ls) ∧ Bytes w5 w3.heap.size safe.data.toList) := fun w5 h =>
      ⟨HBd.out.trans (h.mono HBd.out.size), HMX.out.below (show Below X.heap.size X w5 from ⟨h.os, h.tape, h.output, h.size, h.block⟩), HXB.out.below (show Below X.heap.size X w5 from ⟨h.os, h.tape, h.output, h.size, h.block⟩) hXg⟩
    have HCS : Hid (∀ w', Below X.drew.heap.size X.drew w' → w'.cell? ⟨w.heap.size, 0, none⟩ = some (.string safe) ∧ w'.cell? ⟨w.heap.size, 1, none⟩ = some (.slice a ls.length cap) ∧ (convert 22 9 (.slice (some ⟨w3.heap.size, 0, none⟩) safe.size cp)).run Try.prog w' = .ok (.string (evictS safe ls p)) w') := fun w' h =>
      ⟨HS.out.arg0 w' (HStep.out w' h).1, HS.out.arg1 w' (HStep.out w' h).1, HTX.out w' (HStep.out w' h).2.2⟩
    have HCT : Hid (∀ w', Below X.drew.heap.size X.drew w' → ∀ S V : Value, ((w'.setCell ⟨w.heap.size + 1, 0, none⟩ S).setCell ⟨w.heap.size + 1, 1, none⟩ V).cell? ⟨w.heap.size, 0, none⟩ = some (.string safe) ∧ ((w'.setCell ⟨w.heap.size + 1, 0, none⟩ S).setCell ⟨w.heap.size + 1, 1, none⟩ V).cell? ⟨w.heap.size, 1, none⟩ = some (.slice a ls.length cap) ∧ (convert 22 9 (.slice (some ⟨w3.heap.size, 0, none⟩) safe.size cp)).run Try.prog ((w'.setCell ⟨w.heap.size + 1, 0, none⟩ S).setCell ⟨w.heap.size + 1, 1, none⟩ V) = .ok (.string (evictS safe ls p)) ((w'.setCell ⟨w.heap.size + 1, 0, none⟩ S).setCell ⟨w.heap.size + 1, 1, none⟩ V)) := fun w' h S V =>
      ⟨(HS.out.args2 (HStep.out w' h).1 S V).1, (HS.out.args2 (HStep.out w' h).1 S V).2, HTX.out _ (bytes_set2 (HStep.out w' h).2.2 (by omega) S V)⟩
    generalize hst : evictS safe ls p = st at HCS HCT
    have HQ : Hid (evictS safe ls p = st) := hst
    clear hst
    go_region_held3 (fun w' => w'.cell? ⟨w.heap.size, 0, none⟩ = some (.string safe) ∧ w'.cell? ⟨w.heap.size, 1, none⟩ = some (.slice a ls.length cap) ∧ (convert 22 9 (.slice (some ⟨w3.heap.size, 0, none⟩) safe.size cp)).run Try.prog w' = .ok (.string st) w')
      (first | exact HCS.out _ (Below.refl _ _) | exact HCS.out _ hb5 | exact HCS.out _ h56 | exact HCT.out _ h56 _ _)
      (first | (go_at_call 41; refine (HLC.out X.drew).mono ?_; rintro e w5 ⟨rfl, hb5⟩) | (go_at_call 40; refine (HIO.out w5 (HStep.out w5 hb5).2.1).mono ?_; rintro e w6 ⟨u, rfl, hown, hb6⟩; obtain ⟨aa, cp2, rfl⟩ := row_shape hown; have h56 : Below X.drew.heap.size X.drew w6 := hb5.trans (hb6.mono hb5.size); have h6 := (HStep.out w6 h56).1; have t0 := HS.out.res0 w6 h6; have t1 := HS.out.res1 w6 h6; have y0 := HS.out.fro0 w6 h6; have y1 := HS.out.fro1 w6 h6))
    all_goals
      have HRK : Hid (_) := row_kept (w := w) (by have := (HStep.out w5 hb5).1.size; omega) hown
      have HE : Hid (Ended w w6) := HS.out.ended h6
      have q0 := HE.out.at0; have q1 := HE.out.at1
      clear hown hb5 hb6 h56 h6
      go_wp2
      refine bodyPost_ret (v := .tuple #[.agg #[.string st, .slice aa (evictL ls p).length cp2], .bool true]) (by simp [results, Try.results27, go_sem, q0, q1]) rfl ?_
      exact ⟨_, by rw [HQ.out], HRK.out _ _, HE.out.below _ _⟩
  | some l =>
    obtain ⟨hlp, hld⟩ := find_ok HOK.out (by rw [← byPlace_find (ok_pairwise HOK.out)]; exact hfp)
    have hHP := HP.out
    obtain ⟨q, rfl⟩ := Int.eq_ofNat_of_zero_le hHP.1
    have h64 : 64 * q + 64 ≤ safe.size := by have := HOK.out.1; omega
    have HST : Hid (evictS safe ls (q : Int) = withAt safe (64 * q) l.data) := by
      have := hfp
      rw [byPlace_find (ok_pairwise HOK.out)] at this
      show evictS safe ls (q : Int) = _
      unfold evictS
      rw [this]
      rfl
    have HIO : Hid (∀ w', MapIs w' m ls.length (upd (byPlace ls) (q : Int) none) → Calls _ _ _ w' _) := fun w' h => linesInOrder_any w' m ls.length _ (safe.size / 64) HCN.out h
    rw [evict_order HOK.out (q : Int) _ (evict_upd ls (q : Int))] at HIO
    obtain ⟨pl, dt, sn⟩ := l
    simp only at HIO HST hlp hld
    obtain ⟨X0, hX0⟩ : ∃ X, X = w4.alloc (.cells #[.int .i64 pl, .string dt, .string sn] 46) := ⟨_, rfl⟩
    have hBX0 : Below w4.heap.size w4 X0 := by rw [hX0]; exact (Below.refl _ _).alloc (Nat.le_refl _) _
    have HBX0 : Hid (Below W.heap.size W X0) := HB4.out.trans (hBX0.mono HB4.out.size)
    have HMX0 : Hid (MapIs X0 m ls.length (byPlace ls)) := HM.out.below hBX0
    have HXB0 : Hid (Bytes X0 w3.heap.size safe.data.toList) := HBy4.out.below hBX0 hg4
    have hX0g : w3.heap.size < X0.heap.size := Nat.lt_of_lt_of_le hg4 hBX0.size
    have HX0 : Hid (X0 = w4.alloc (.cells #[.int .i64 pl, .string dt, .string sn] 46)) := hX0
    have x0 : X0.cell? ⟨w4.heap.size, 0, none⟩ = some (.int .i64 pl) := by rw [hX0, World.cell?_alloc_new]; rfl
    have x1 : X0.cell? ⟨w4.heap.size, 1, none⟩ = some (.string dt) := by rw [hX0, World.cell?_alloc_new]; rfl
    have x2 : X0.cell? ⟨w4.heap.size, 2, none⟩ = some (.string sn) := by rw [hX0, World.cell?_alloc_new]; rfl
    have hdl : dt.data.toList.length = 64 := by simpa using hld
    have hsl : safe.data.toList.length = safe.size := by simp
    have HPU : Hid (Calls _ _ _ _ _) := putLine_kept X0 w3.heap.size cp safe.data.toList q dt HXB0.out (by omega) (by omega) (by omega) (by omega)
    rw [hsl] at HPU
    have HX1 : Hid (Below W.heap.size W (X0.setCells w3.heap.size (64 * q) (cellsOfText dt)) ∧ MapIs (X0.setCells w3.heap.size (64 * q) (cellsOfText dt)) m ls.length (byPlace ls) ∧ Bytes (X0.setCells w3.heap.size (64 * q) (cellsOfText dt)) w3.heap.size (putAt safe.data.toList (64 * q) dt.data.toList) ∧ w3.heap.size < (X0.setCells w3.heap.size (64 * q) (cellsOfText dt)).heap.size) :=
      ⟨below_cells HBX0.out hWg _ _, HMX0.out.kept (grown_cells _ _ _ _) (by intro q; injection q with q; omega), bytes_splice HXB0.out _ _ (by omega), by rw [size_cells]; exact hX0g⟩
    have hpl2 : (putAt safe.data.toList (64 * q) dt.data.toList).length = safe.size := by rw [putAt_len _ _ _ (by omega)]; exact hsl
    have HTX : Hid (∀ w', Bytes w' w3.heap.size (putAt safe.data.toList (64 * q) dt.data.toList) → (convert 22 9 (.slice (some ⟨w3.heap.size, 0, none⟩) safe.size cp)).run Try.prog w' = .ok (.string (evictS safe ls (q : Int))) w') := fun w' h => by
      have := h.text cp
      rw [HST.out, withAt]
      rw [hpl2] at this
      exact this
    clear hX0 hBX0 hdl hsl hpl2 hHP hlp hld
    go_wp2_with (first | (at_lookup; refine at_get_some _ rfl _ _ rfl m ls.length _ rfl HM.out _ _ hfp rfl hwf ?_) | (rw [← HX0.out]) | fail)
    refine HPU.out.mono ?_
    rintro e X1 ⟨rfl, rfl⟩
    generalize X0.setCells w3.heap.size (64 * q) (cellsOfText dt) = X1 at HX1
    obtain ⟨y1, y2, y3, y4⟩ := HX1.out
    have HM1 : Hid (MapIs X1 m ls.length (byPlace ls)) := y2
    have HXB1 : Hid (Bytes X1 w3.heap.size (putAt safe.data.toList (64 * q) dt.data.toList)) := y3
    have HBX1 : Hid (Below W.heap.size W X1) := y1
    clear y1 y2 y3 x0 x1 x2
    go_wp2_with (at_delete; refine at_del _ rfl _ _ rfl m ls.length _ rfl HM1.out _ rfl hwf ?_; intro X hmX hgX)
    have HMX : Hid (MapIs X m ls.length (upd (byPlace ls) (q : Int) none)) := hmX
    have HBX : Hid (Below W.heap.size W X) := HBX1.out.trans (below_of_grown hgX HBX1.out.size hmW)
    have HXB : Hid (Bytes X w3.heap.size (putAt safe.data.toList (64 * q) dt.data.toList)) := bytes_grown HXB1.out hgX (by omega)
    have hXg : w3.heap.size < X.heap.size := Nat.lt_of_lt_of_le y4 hgX.size
    clear hmX hgX y4
    have HBd : Hid (Below W.heap.size W X.drew) := HBX.out.drew
    have HStep : Hid (∀ w5, Below X.drew.heap.size X.drew w5 → Below W.heap.size W w5 ∧ MapIs w5 m ls.length (upd (byPlace ls) (q : Int) none) ∧ Bytes w5 w3.heap.size (putAt safe.data.toList (64 * q) dt.data.toList)) := fun w5 h =>
      ⟨HBd.out.trans (h.mono HBd.out.size), HMX.out.below (show Below X.heap.size X w5 from ⟨h.os, h.tape, h.output, h.size, h.block⟩), HXB.out.below (show Below X.heap.size X w5 from ⟨h.os, h.tape, h.output, h.size, h.block⟩) hXg⟩
    have HCS : Hid (∀ w', Below X.drew.heap.size X.drew w' → w'.cell? ⟨w.heap.size, 0, none⟩ = some (.string safe) ∧ w'.cell? ⟨w.heap.size, 1, none⟩ = some (.slice a ls.length cap) ∧ (convert 22 9 (.slice (some ⟨w3.heap.size, 0, none⟩) safe.size cp)).run Try.prog w' = .ok (.string (evictS safe ls (q : Int))) w') := fun w' h =>
      ⟨HS.out.arg0 w' (HStep.out w' h).1, HS.out.arg1 w' (HStep.out w' h).1, HTX.out w' (HStep.out w' h).2.2⟩
    have HCT : Hid (∀ w', Below X.drew.heap.size X.drew w' → ∀ S V : Value, ((w'.setCell ⟨w.heap.size + 1, 0, none⟩ S).setCell ⟨w.heap.size + 1, 1, none⟩ V).cell? ⟨w.heap.size, 0, none⟩ = some (.string safe) ∧ ((w'.setCell ⟨w.heap.size + 1, 0, none⟩ S).setCell ⟨w.heap.size + 1, 1, none⟩ V).cell? ⟨w.heap.size, 1, none⟩ = some (.slice a ls.length cap) ∧ (convert 22 9 (.slice (some ⟨w3.heap.size, 0, none⟩) safe.size cp)).run Try.prog ((w'.setCell ⟨w.heap.size + 1, 0, none⟩ S).setCell ⟨w.heap.size + 1, 1, none⟩ V) = .ok (.string (evictS safe ls (q : Int))) ((w'.setCell ⟨w.heap.size + 1, 0, none⟩ S).setCell ⟨w.heap.size + 1, 1, none⟩ V)) := fun w' h S V =>
      ⟨(HS.out.args2 (HStep.out w' h).1 S V).1, (HS.out.args2 (HStep.out w' h).1 S V).2, HTX.out _ (bytes_set2 (HStep.out w' h).2.2 (by omega) S V)⟩
    generalize hst : evictS safe ls (q : Int) = st at HCS HCT
    have HQ : Hid (evictS safe ls (q : Int) = st) := hst
    clear hst
    go_region_held3 (fun w' => w'.cell? ⟨w.heap.size, 0, none⟩ = some (.string safe) ∧ w'.cell? ⟨w.heap.size, 1, none⟩ = some (.slice a ls.length cap) ∧ (convert 22 9 (.slice (some ⟨w3.heap.size, 0, none⟩) safe.size cp)).run Try.prog w' = .ok (.string st) w')
      (first | exact HCS.out _ (Below.refl _ _) | exact HCS.out _ hb5 | exact HCS.out _ h56 | exact HCT.out _ h56 _ _)
      (first | (go_at_call 41; refine (HLC.out X.drew).mono ?_; rintro e w5 ⟨rfl, hb5⟩) | (go_at_call 40; refine (HIO.out w5 (HStep.out w5 hb5).2.1).mono ?_; rintro e w6 ⟨u, rfl, hown, hb6⟩; obtain ⟨aa, cp2, rfl⟩ := row_shape hown; have h56 : Below X.drew.heap.size X.drew w6 := hb5.trans (hb6.mono hb5.size); have h6 := (HStep.out w6 h56).1; have t0 := HS.out.res0 w6 h6; have t1 := HS.out.res1 w6 h6; have y0 := HS.out.fro0 w6 h6; have y1 := HS.out.fro1 w6 h6))
    all_goals
      have HRK : Hid (_) := row_kept (w := w) (by have := (HStep.out w5 hb5).1.size; omega) hown
      have HE : Hid (Ended w w6) := HS.out.ended h6
      have q0 := HE.out.at0; have q1 := HE.out.at1
      clear hown hb5 hb6 h56 h6
      go_wp2
      refine bodyPost_ret (v := .tuple #[.agg #[.string st, .slice aa (evictL ls (q : Int)).length cp2], .bool true]) (by simp [results, Try.results27, go_sem, q0, q1]) rfl ?_
      exact ⟨_, by rw [HQ.out], HRK.out _ _, HE.out.below _ _⟩
end Go.Proofs.Ytgpmpijaggnocaa.dev
