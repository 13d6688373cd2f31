/-
  What the program's Flush returns: the lines with one of them sent, in new memory; nothing that was there is written.
-/
import Derived.Test.YtgpmpijaggnocaaFlush1
namespace Go.Proofs.Ytgpmpijaggnocaa.dev
open Go.RowKit Go.Maps
open later

def flushLn (p : Int) (l : Ln) : Ln := if l.place = p then ⟨l.place, l.data, l.data⟩ else l
def flushL (ls : List Ln) (p : Int) : List Ln := ls.map (flushLn p)
theorem flushLn_place (p : Int) (l : Ln) : (flushLn p l).place = l.place := by unfold flushLn; split <;> rfl
theorem flushL_len (ls : List Ln) (p : Int) : (flushL ls p).length = ls.length := by simp [flushL]
theorem flushL_find (ls : List Ln) (p q : Int) : findAt (flushL ls p) q = (findAt ls q).map (flushLn p) := by
  unfold findAt flushL
  rw [List.find?_map]
  congr 1
  have : ((fun l : Ln => l.place == q) ∘ flushLn p) = fun l => l.place == q := by
    funext l
    simp [flushLn_place]
  rw [this]
theorem flushL_sorted (ls : List Ln) (p : Int) (h : ls.Pairwise (fun a b => a.place < b.place)) : (flushL ls p).Pairwise (fun a b => a.place < b.place) := by
  unfold flushL
  rw [List.pairwise_map]
  exact h.imp fun h => by rw [flushLn_place, flushLn_place]; exact h
theorem place_ok {safe : ByteArray} {ls : List Ln} (h : DevOk safe ls) : ∀ l ∈ ls, 0 ≤ l.place ∧ l.place < ((safe.size / 64 : Nat) : Int) := by
  intro l hl
  obtain ⟨i, hi, rfl⟩ := List.getElem_of_mem hl
  have := h.2.2.2 i hi
  exact ⟨this.2.1, this.2.2.1⟩
theorem flush_order {safe : ByteArray} {ls : List Ln} (h : DevOk safe ls) (p : Int) (f : Int → Option Ln) (hf : ∀ q, f q = (byPlace ls q).map (flushLn p)) : inOrder f (safe.size / 64) = flushL ls p := by
  have hp := ok_pairwise h
  refine inOrder_all (flushL ls p) (flushL_sorted ls p hp) (fun l hl => ?_) f (fun q => ?_) _ (fun l hl => ?_)
  · obtain ⟨x, hx, rfl⟩ := List.mem_map.1 hl
    rw [flushLn_place]; exact (place_ok h x hx).1
  · rw [hf q, byPlace_find hp, flushL_find]
  · obtain ⟨x, hx, rfl⟩ := List.mem_map.1 hl
    rw [flushLn_place]; exact (place_ok h x hx).2
theorem flush_upd {safe : ByteArray} {ls : List Ln} (h : DevOk safe ls) (p : Int) (l : Ln) (hl : byPlace ls p = some l) : ∀ q, (upd (byPlace ls) p (some ⟨l.place, l.data, l.data⟩)) q = (byPlace ls q).map (flushLn p) := by
  intro q
  have hp := ok_pairwise h
  unfold upd
  by_cases e : q = p
  · subst e
    rw [if_pos rfl, hl]
    have : l.place = q := by
      rw [byPlace_find hp] at hl
      have := List.find?_some hl
      simpa using this
    simp [flushLn, this]
  · rw [if_neg e]
    cases hq : byPlace ls q with
    | none => rfl
    | some x =>
      have : x.place = q := by
        rw [byPlace_find hp] at hq
        have := List.find?_some hq
        simpa using this
      simp [flushLn, this, e]
theorem flush_none {safe : ByteArray} {ls : List Ln} (h : DevOk safe ls) (p : Int) (hl : byPlace ls p = none) : ∀ q, (byPlace ls) q = (byPlace ls q).map (flushLn p) := by
  intro q
  have hp := ok_pairwise h
  cases hq : byPlace ls q with
  | none => rfl
  | some x =>
    have : x.place = q := by
      rw [byPlace_find hp] at hq
      have := List.find?_some hq
      simpa using this
    have e : x.place ≠ p := fun e => by rw [← e, this, hq] at hl; cases hl
    simp [flushLn, e]

set_option maxHeartbeats 4000000 in
theorem impl_flush_no (w : World) (safe : ByteArray) (a : Option Addr) (cap : Nat) (ls : List Ln) (p : Int) (hs : safe.size ≤ 1048576) (hn : ls.length ≤ 1048576) (hl : Lines w a ls) (hz : ∀ i (hi : i < ls.length), ls[i].data.size ≤ 1048576 ∧ ls[i].sent.size ≤ 1048576) (hbad : ¬ (DevOk safe ls ∧ 0 ≤ p ∧ p < ((safe.size / 64 : Nat) : Int))) :
    Calls Try.prog 19 #[.agg #[.string safe, .slice a ls.length cap], .int .i64 p] w fun e w' => e = .returned (.tuple #[.agg #[.string ⟨#[]⟩, .slice none 0 0], .bool false]) ∧ Below w.heap.size w w' := by
  obtain ⟨W, hW⟩ : ∃ W, W = start w safe (.slice a ls.length cap) := ⟨_, rfl⟩
  have HS : Hid (Start w W safe (.slice a ls.length cap)) := by rw [hW]; exact start_is _ _ _
  have HW : Hid (W = (w.alloc (.cells #[.string safe, .slice a ls.length cap] 26)).alloc (.cells #[.string ⟨#[]⟩, .slice none 0 0] 26)) := hW
  have HC : Hid (Calls _ _ _ _ _) := impl_ok W safe a cap ls hs hn (hl.below HS.out.below) hz
  have HH : Hid (∀ w, Calls _ _ _ w _) := fun w => hasLine_any w safe (.slice a ls.length cap) p hs
  clear hl hz hW
  go_enter Try.func19, Try.ntmps19
  go_wp2_with fail
  rw [← HW.out]
  refine HC.out.mono ?_
  rintro e w2 ⟨b, rfl, hb, hb2⟩
  have HB2 : Hid (Below W.heap.size W w2) := hb2
  cases b with
  | false =>
    clear hb hb2
    obtain E := HS.out.ended HB2.out
    have q0 := E.at0; have q1 := E.at1
    have t0 := HS.out.res0 w2 HB2.out; have t1 := HS.out.res1 w2 HB2.out; have y0 := HS.out.fro0 w2 HB2.out; have y1 := HS.out.fro1 w2 HB2.out
    have HE : Hid (Ended w w2) := E
    clear E
    go_wp2
    refine bodyPost_ret (v := .tuple #[.agg #[.string ⟨#[]⟩, .slice none 0 0], .bool false]) (by simp [results, Try.results19, go_sem, q0, q1]) rfl ?_
    exact ⟨rfl, HE.out.below _ _⟩
  | true =>
    have hrg : (decide (0 ≤ p) && decide (p < ((safe.size / 64 : Nat) : Int))) = false := by
      have := hb.1 rfl
      simp
      intro h0
      have : ¬ p < ((safe.size / 64 : Nat) : Int) := fun h1 => hbad ⟨this, h0, h1⟩
      omega
    rw [hrg] at HH
    clear hb hb2 hrg
    have n0 := HS.out.arg0 w2 HB2.out; have n1 := HS.out.arg1 w2 HB2.out
    go_wp2_with fail
    refine (HH.out _).mono ?_
    rintro e w3 ⟨rfl, hb3⟩
    have HB3 : Hid (Below W.heap.size W w3) := HB2.out.trans (hb3.mono HB2.out.size)
    clear hb3 n0 n1
    obtain E := HS.out.ended HB3.out
    have q0 := E.at0; have q1 := E.at1
    have t0 := HS.out.res0 w3 HB3.out; have t1 := HS.out.res1 w3 HB3.out; have y0 := HS.out.fro0 w3 HB3.out; have y1 := HS.out.fro1 w3 HB3.out
    have HE : Hid (Ended w w3) := E
    clear E
    go_wp2
    refine bodyPost_ret (v := .tuple #[.agg #[.string ⟨#[]⟩, .slice none 0 0], .bool false]) (by simp [results, Try.results19, go_sem, q0, q1]) rfl ?_
    exact ⟨rfl, HE.out.below _ _⟩
set_option maxHeartbeats 8000000 in
theorem impl_flush (w : World) (safe : ByteArray) (a : Option Addr) (cap : Nat) (ls : List Ln) (p : Int) (hs : safe.size ≤ 1048576) (hn : ls.length ≤ 1048576) (hl : Lines w a ls) (hz : ∀ i (hi : i < ls.length), ls[i].data.size ≤ 1048576 ∧ ls[i].sent.size ≤ 1048576) (hok : DevOk safe ls) (h0 : 0 ≤ p) (h1 : p < ((safe.size / 64 : Nat) : Int)) :
    Calls Try.prog 19 #[.agg #[.string safe, .slice a ls.length cap], .int .i64 p] w fun e w' => ∃ u, e = .returned (.tuple #[.agg #[.string safe, u], .bool true]) ∧ w'.ownsRow w.heap.size 46 3 u (flushL ls p).length (cellsOfLines (flushL ls p)) ∧ Below w.heap.size w w' := by
  obtain ⟨W, hW⟩ : ∃ W, W = start w safe (.slice a ls.length cap) := ⟨_, rfl⟩
  have HS : Hid (Start w W safe (.slice a ls.length cap)) := by rw [hW]; exact start_is _ _ _
  have HW : Hid (W = (w.alloc (.cells #[.string safe, .slice a ls.length cap] 26)).alloc (.cells #[.string ⟨#[]⟩, .slice none 0 0] 26)) := hW
  have HC : Hid (Calls _ _ _ _ _) := impl_ok W safe a cap ls hs hn (hl.below HS.out.below) hz
  have hrg : (decide (0 ≤ p) && decide (p < ((safe.size / 64 : Nat) : Int))) = true := by simp; omega
  have HH : Hid (∀ w, Calls _ _ _ w _) := fun w => hasLine_any w safe (.slice a ls.length cap) p hs
  rw [hrg] at HH
  have HLC : Hid (∀ w, Calls _ _ _ w _) := fun w => lineCount_any w safe (.slice a ls.length cap) hs
  have HLP : Hid (∀ w', Below W.heap.size W w' → Calls _ _ _ w' _) := fun w' h => linesByPlace_any w' safe a cap ls hn ((hl.below HS.out.below).below h) hok
  have HOK : Hid (DevOk safe ls) := hok
  have hcn : safe.size / 64 ≤ 1048576 := by omega
  have hwf : (Lit.int .i64 p).wf = true := wf_small p h0 (by omega)
  have HCN : Hid (safe.size / 64 ≤ 1048576) := hcn
  clear hl hz hW hok hrg hcn h0 h1
  go_enter Try.func19, Try.ntmps19
  go_wp2_with fail
  rw [← HW.out]
  refine HC.out.mono ?_
  rintro e w2 ⟨b, rfl, hb, hb2⟩
  have hbt : b = true := hb.2 HOK.out
  subst hbt
  have HB2 : Hid (Below W.heap.size W w2) := hb2
  clear hb hb2
  have n0 := HS.out.arg0 w2 HB2.out; have n1 := HS.out.arg1 w2 HB2.out
  go_wp2_with fail
  refine (HH.out _).mono ?_
  rintro e w3 ⟨rfl, hb3⟩
  have HB3 : Hid (Below W.heap.size W w3) := HB2.out.trans (hb3.mono HB2.out.size)
  clear hb3 n0 n1
  have n0 := HS.out.arg0 w3 HB3.out; have n1 := HS.out.arg1 w3 HB3.out
  go_wp2_with fail
  refine (HLP.out w3 HB3.out).mono ?_
  rintro e w4 ⟨m, rfl, hm, hmp, hb4⟩
  have HB4 : Hid (Below W.heap.size W w4) := HB3.out.trans (hb4.mono HB3.out.size)
  have HM : Hid (MapIs w4 m ls.length (byPlace ls)) := hmp
  have hmW : W.heap.size ≤ m := Nat.le_trans HB3.out.size hm
  clear hb4 hmp n0 n1 hm
  cases hfp : byPlace ls p with
  | none =>
    have HIO : Hid (∀ w', MapIs w' m ls.length (byPlace ls) → Calls _ _ _ w' _) := fun w' h => linesInOrder_any w' m ls.length (byPlace ls) (safe.size / 64) HCN.out h
    rw [flush_order HOK.out p _ (flush_none HOK.out p hfp)] at HIO
    obtain ⟨X, hX⟩ : ∃ X, X = w4.alloc (.cells #[.int .i64 0, .string ⟨#[]⟩, .string ⟨#[]⟩] 46) := ⟨_, rfl⟩
    have hBX : Below w4.heap.size w4 X := by rw [hX]; exact (Below.refl _ _).alloc (Nat.le_refl _) _
    have HBX : Hid (Below W.heap.size W X) := HB4.out.trans (hBX.mono HB4.out.size)
    have HMX : Hid (MapIs X m ls.length (byPlace ls)) := HM.out.below hBX
    have HX : Hid (X = w4.alloc (.cells #[.int .i64 0, .string ⟨#[]⟩, .string ⟨#[]⟩] 46)) := hX
    clear hX hBX
    go_wp2_with (at_lookup; refine at_get_none _ rfl _ _ rfl m ls.length _ rfl HM.out _ hfp rfl hwf ?_)
    rw [← HX.out]
    have HBd : Hid (Below W.heap.size W X.drew) := HBX.out.drew
    have HStep : Hid (∀ w5, Below X.drew.heap.size X.drew w5 → Below W.heap.size W w5 ∧ MapIs w5 m ls.length (byPlace ls)) := fun w5 h =>
      ⟨HBd.out.trans (h.mono HBd.out.size), HMX.out.below (show Below X.heap.size X w5 from ⟨h.os, h.tape, h.output, h.size, h.block⟩)⟩
    go_region_held3 (fun w' => w'.cell? ⟨w.heap.size, 0, none⟩ = some (.string safe) ∧ w'.cell? ⟨w.heap.size, 1, none⟩ = some (.slice a ls.length cap))
      (first | exact HS.out.args HBd.out | exact HS.out.args h5 | exact HS.out.args h6 | exact HS.out.args2 h6 _ _)
      (first | (go_at_call 41; refine (HLC.out X.drew).mono ?_; rintro e w5 ⟨rfl, hb5⟩; have h5 := (HStep.out w5 hb5).1) | (go_at_call 40; refine (HIO.out w5 (HStep.out w5 hb5).2).mono ?_; rintro e w6 ⟨u, rfl, hown, hb6⟩; obtain ⟨aa, cp, rfl⟩ := row_shape hown; have h6 : Below W.heap.size W w6 := h5.trans (hb6.mono h5.size); have t0 := HS.out.res0 w6 h6; have t1 := HS.out.res1 w6 h6; have y0 := HS.out.fro0 w6 h6; have y1 := HS.out.fro1 w6 h6))
    all_goals
      have HRK : Hid (_) := row_kept (w := w) (by rw [← HS.out.size]; exact h5.size) hown
      have HE : Hid (Ended w w6) := HS.out.ended h6
      have q0 := HE.out.at0; have q1 := HE.out.at1
      clear hown hb5 hb6 h5 h6
      go_wp2
      refine bodyPost_ret (v := .tuple #[.agg #[.string safe, .slice aa (flushL ls p).length cp], .bool true]) (by simp [results, Try.results19, go_sem, q0, q1]) rfl ?_
      exact ⟨_, rfl, HRK.out _ _, HE.out.below _ _⟩
  | some l =>
    have HIO : Hid (∀ w', MapIs w' m (ls.length + 1) (upd (byPlace ls) p (some ⟨l.place, l.data, l.data⟩)) → Calls _ _ _ w' _) := fun w' h => linesInOrder_any w' m (ls.length + 1) _ (safe.size / 64) HCN.out h
    rw [flush_order HOK.out p _ (flush_upd HOK.out p l hfp)] at HIO
    obtain ⟨pl, dt, sn⟩ := l
    simp only at HIO
    have hlm : ls.length < maxLen := by unfold maxLen; omega
    obtain ⟨X0, hX0⟩ : ∃ X, X = w4.alloc (.cells #[.int .i64 pl, .string dt, .string dt] 46) := ⟨_, rfl⟩
    have hBX0 : Below w4.heap.size w4 X0 := by rw [hX0]; exact (Below.refl _ _).alloc (Nat.le_refl _) _
    have HBX0 : Hid (Below W.heap.size W X0) := HB4.out.trans (hBX0.mono HB4.out.size)
    have HMX0 : Hid (MapIs X0 m ls.length (byPlace ls)) := HM.out.below hBX0
    have HX0 : Hid (X0 = w4.alloc (.cells #[.int .i64 pl, .string dt, .string dt] 46)) := hX0
    have x0 : X0.cell? ⟨w4.heap.size, 0, none⟩ = some (.int .i64 pl) := by rw [hX0, World.cell?_alloc_new]; rfl
    have x1 : X0.cell? ⟨w4.heap.size, 1, none⟩ = some (.string dt) := by rw [hX0, World.cell?_alloc_new]; rfl
    have x2 : X0.cell? ⟨w4.heap.size, 2, none⟩ = some (.string dt) := by rw [hX0, World.cell?_alloc_new]; rfl
    clear hX0 hBX0
    go_wp2_with (first | (at_lookup; refine at_get_some _ rfl _ _ rfl m ls.length _ rfl HM.out _ _ hfp rfl hwf ?_) | (rw [← HX0.out]) | (at_mapUpdate; refine at_put _ rfl _ _ _ rfl m ls.length _ rfl HMX0.out hlm p ⟨pl, dt, dt⟩ rfl rfl hwf ?_; intro X hmX hgX))
    have HMX : Hid (MapIs X m (ls.length + 1) (upd (byPlace ls) p (some ⟨pl, dt, dt⟩))) := hmX
    have HBX : Hid (Below W.heap.size W X) := HBX0.out.trans (below_of_grown hgX HBX0.out.size hmW)
    clear hmX hgX x0 x1 x2
    have HBd : Hid (Below W.heap.size W X.drew) := HBX.out.drew
    have HStep : Hid (∀ w5, Below X.drew.heap.size X.drew w5 → Below W.heap.size W w5 ∧ MapIs w5 m (ls.length + 1) (upd (byPlace ls) p (some ⟨pl, dt, dt⟩))) := fun w5 h =>
      ⟨HBd.out.trans (h.mono HBd.out.size), HMX.out.below (show Below X.heap.size X w5 from ⟨h.os, h.tape, h.output, h.size, h.block⟩)⟩
    go_region_held3 (fun w' => w'.cell? ⟨w.heap.size, 0, none⟩ = some (.string safe) ∧ w'.cell? ⟨w.heap.size, 1, none⟩ = some (.slice a ls.length cap))
      (first | exact HS.out.args HBd.out | exact HS.out.args h5 | exact HS.out.args h6 | exact HS.out.args2 h6 _ _)
      (first | (go_at_call 41; refine (HLC.out X.drew).mono ?_; rintro e w5 ⟨rfl, hb5⟩; have h5 := (HStep.out w5 hb5).1) | (go_at_call 40; refine (HIO.out w5 (HStep.out w5 hb5).2).mono ?_; rintro e w6 ⟨u, rfl, hown, hb6⟩; obtain ⟨aa, cp, rfl⟩ := row_shape hown; have h6 : Below W.heap.size W w6 := h5.trans (hb6.mono h5.size); have t0 := HS.out.res0 w6 h6; have t1 := HS.out.res1 w6 h6; have y0 := HS.out.fro0 w6 h6; have y1 := HS.out.fro1 w6 h6))
    all_goals
      have HRK : Hid (_) := row_kept (w := w) (by rw [← HS.out.size]; exact h5.size) hown
      have HE : Hid (Ended w w6) := HS.out.ended h6
      have q0 := HE.out.at0; have q1 := HE.out.at1
      clear hown hb5 hb6 h5 h6
      go_wp2
      refine bodyPost_ret (v := .tuple #[.agg #[.string safe, .slice aa (flushL ls p).length cp], .bool true]) (by simp [results, Try.results19, go_sem, q0, q1]) rfl ?_
      exact ⟨_, rfl, HRK.out _ _, HE.out.below _ _⟩
end Go.Proofs.Ytgpmpijaggnocaa.dev
