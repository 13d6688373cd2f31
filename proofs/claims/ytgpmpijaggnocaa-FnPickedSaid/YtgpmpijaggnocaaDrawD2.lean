/-
  The drawn device: its text is short, its lines are few and lie in new memory; the reader goes on.
-/
import Derived.Test.YtgpmpijaggnocaaDrawD1
import Derived.Deep.Cut
import Derived.Deep.CutRange
import Derived.Deep.DeepCutAuto
import Derived.Deep.CutBlock
import Derived.Deep.RegionWith
import Derived.Deep.RegionHeld3
import Derived.RegionTactic
namespace Go.Proofs.Ytgpmpijaggnocaa.dev
open Go.RowKit Go.Maps
open later rd zeros wmath

theorem size_any (w : World) (R : Nat) (a : Option Addr) (len cap : Nat) (h : Rd w R a len cap) :
    Calls Try.prog 58 #[.pointer (some ⟨R, 0, none⟩), .int .i64 4, .int .i64 14] w fun e w' => ∃ v : Nat, e = .returned (.int .i64 v) ∧ v ≤ 14 ∧ Rd w' R a len cap ∧ w.grownBy w' (some R) := by
  have HR : Hid (Rd w R a len cap) := h
  have h0 := h.cell0
  have hs := h.small
  clear h
  by_cases hb : (14 : Int) < 1 + (len : Int) / 4
  · go_enter Try.func58, Try.ntmps58
    go_wp2_with fail
    refine (below_pos _ R a len cap (by first | exact HR.out | exact HR.out.draws _) 14 (by omega) (by omega)).mono ?_
    rintro e w1 ⟨v, rfl, hv, hr1, hb1⟩
    go_wp2
    go_ret
    exact ⟨1 + v, ret_int (by omega), by omega, hr1, hb1⟩
  · go_enter Try.func58, Try.ntmps58
    go_wp2_with fail
    refine (below_pos _ R a len cap (by first | exact HR.out | exact HR.out.draws _) (1 + (len : Int) / 4) (by omega) (by omega)).mono ?_
    rintro e w1 ⟨v, rfl, hv, hr1, hb1⟩
    go_wp2
    go_ret
    exact ⟨1 + v, ret_int (by omega), by omega, hr1, hb1⟩
/-- The result's box and the reader, ahead of the device's own box. -/
structure Ahead (w wr : World) (R : Nat) (a : Option Addr) (len cap : Nat) (N : Nat) : Prop where
  rd : Rd wr R a len cap
  low : R < N
  grown : w.grownBy wr (some R)
  from_ : w.heap.size ≤ N
  res0 : wr.cell? ⟨N, 0, none⟩ = some (.string ⟨#[]⟩)
  res1 : wr.cell? ⟨N, 1, none⟩ = some (.slice none 0 0)
  fres0 : wr.frozen? ⟨N, 0, none⟩ = false
  fres1 : wr.frozen? ⟨N, 1, none⟩ = false
theorem Ahead.later {w wr w2 : World} {R : Nat} {a : Option Addr} {len cap N : Nat} (h : Ahead w wr R a len cap N) (hb : Below wr.heap.size wr w2) : Ahead w w2 R a len cap N := by
  have hN : N < wr.heap.size := World.block_lt_of_cell? wr _ h.res0
  exact ⟨h.rd.later hb, h.low, gbelow h.grown hb, h.from_, by rw [hb.cell (p := ⟨N, 0, none⟩) hN]; exact h.res0, by rw [hb.cell (p := ⟨N, 1, none⟩) hN]; exact h.res1, by rw [hb.frozen (p := ⟨N, 0, none⟩) hN]; exact h.fres0, by rw [hb.frozen (p := ⟨N, 1, none⟩) hN]; exact h.fres1⟩
theorem Ahead.drawn {w wr w2 : World} {R : Nat} {a : Option Addr} {len cap N : Nat} (h : Ahead w wr R a len cap N) (hr : Rd w2 R a len cap) (hg : wr.grownBy w2 (some R)) : Ahead w w2 R a len cap N := by
  have hN : N < wr.heap.size := World.block_lt_of_cell? wr _ h.res0
  have h1 := h.low
  have nN : N ≠ R := by omega
  exact ⟨hr, h.low, gtrans h.grown hg, h.from_, cell_grown hg nN h.res0, cell_grown hg nN h.res1, by rw [frozen_grown hg nN hN]; exact h.fres0, by rw [frozen_grown hg nN hN]; exact h.fres1⟩
theorem Ahead.first {w : World} {R : Nat} {a : Option Addr} {len cap : Nat} (h : Rd w R a len cap) : Ahead w (w.alloc (.cells #[.string ⟨#[]⟩, .slice none 0 0] 26)) R a len cap w.heap.size :=
  ⟨h.alloc _, h.size, galloc (grefl _ _) _, Nat.le_refl _, by rw [World.cell?_alloc_new]; rfl, by rw [World.cell?_alloc_new]; rfl, World.frozen?_alloc_new _ _ _ _, World.frozen?_alloc_new _ _ _ _⟩
theorem Ahead.boxed {w wr : World} {R : Nat} {a : Option Addr} {len cap N : Nat} (h : Ahead w wr R a len cap N) (s : ByteArray) : Boxed w (wr.alloc (.cells #[.string s, .slice none 0 0] 26)) R a len cap N wr.heap.size s (.slice none 0 0) [] := by
  have h2 := h.later ((Below.refl _ _).alloc (Nat.le_refl _) (.cells #[.string s, .slice none 0 0] 26))
  have hN : N < wr.heap.size := World.block_lt_of_cell? wr _ h.res0
  exact ⟨h2.rd, h2.low, h2.grown, h2.from_, h2.res0, h2.res1, h2.fres0, h2.fres1, hN, by rw [World.cell?_alloc_new]; rfl, by rw [World.cell?_alloc_new]; rfl, World.frozen?_alloc_new _ _ _ _, World.frozen?_alloc_new _ _ _ _, World.ownsRow_nil _ _ _ _⟩
theorem empty_ok (s : ByteArray) (h1 : s.size % 64 = 0) (h2 : 64 ≤ s.size) (h3 : s.size ≤ 8192) : DevOk s [] := ⟨h1, h2, h3, fun k hk => by simp at hk⟩
/-- What is drawn: a device of which only the sizes are told. -/
def Drawn (w : World) (R : Nat) (a : Option Addr) (len cap : Nat) (e : Ending) (w' : World) : Prop :=
  ∃ (safe : ByteArray) (ls : List Ln) (aa : Option Addr) (cp : Nat), e = .returned (.agg #[.string safe, .slice aa ls.length cp]) ∧ safe.size ≤ 10000 ∧ ls.length ≤ 129 ∧ (∀ l ∈ ls, l.data.size ≤ 64 ∧ l.sent.size ≤ 64) ∧ Lines w' aa ls ∧ (∀ b off, aa = some ⟨b, off, none⟩ → 0 < ls.length → w.heap.size ≤ b) ∧ Rd w' R a len cap ∧ w.grownBy w' (some R)

theorem Boxed.finish {w wr : World} {R : Nat} {a : Option Addr} {len cap N B : Nat} {safe : ByteArray} {aa : Option Addr} {cp : Nat} {ls : List Ln} (h : Boxed w wr R a len cap N B safe (.slice aa ls.length cp) ls) (hs : safe.size ≤ 10000) (hn : ls.length ≤ 129) (hz : ∀ l ∈ ls, l.data.size ≤ 64 ∧ l.sent.size ≤ 64) :
    Drawn w R a len cap (.returned (.agg #[.string safe, .slice aa ls.length cp])) ((wr.setCell ⟨N, 0, none⟩ (.string safe)).setCell ⟨N, 1, none⟩ (.slice aa ls.length cp)) := by
  have h1 := h.low
  have h2 := h.lt
  have h3 := h.from_
  have hb : Below N wr ((wr.setCell ⟨N, 0, none⟩ (.string safe)).setCell ⟨N, 1, none⟩ (.slice aa ls.length cp)) := ((Below.refl _ _).setCell (p := ⟨N, 0, none⟩) (Nat.le_refl _) _).setCell (p := ⟨N, 1, none⟩) (Nat.le_refl _) _
  have hgr := h.grown
  have ho := own_set2 h.own (Nat.le_of_lt h2) (.string safe) (.slice aa ls.length cp)
  obtain ⟨aa', g, cp', q1, q2, q3, q4, _⟩ := lines_of_row ho
  injection q1 with e1
  subst e1
  refine ⟨safe, ls, aa, cp, rfl, hs, hn, hz, q4, fun b off e hp => ?_, h.rd.above (hb.mono (by omega)), hb.os.trans hgr.os, hb.tape.trans hgr.tape, hb.output.trans hgr.output, Nat.le_trans hgr.size hb.size, fun k hk hn => (hb.block k (by omega)).trans (hgr.block k hk hn)⟩
  have := q3 hp
  rw [e] at this
  injection this with e2
  injection e2 with e3
  omega
theorem one_three (x : Int) (s t : ByteArray) : ∀ u ∈ [Value.int .i64 x, .string s, .string t], u.oneCell' = true := by
  intro u hu
  simp only [List.mem_cons, List.not_mem_nil, or_false] at hu
  rcases hu with rfl | rfl | rfl <;> rfl
theorem ok_sizes {safe : ByteArray} {ls : List Ln} (h : DevOk safe ls) : safe.size ≤ 8192 ∧ ls.length ≤ 128 ∧ ∀ l ∈ ls, l.data.size ≤ 64 ∧ l.sent.size ≤ 64 :=
  ⟨h.2.2.1, ok_len h, fun l hl => by obtain ⟨_, _, q3, q4⟩ := ((devOk_iff _ _).1 h).2.2 l hl; omega⟩
set_option maxHeartbeats 40000000 in
theorem device_any (w : World) (R : Nat) (a : Option Addr) (len cap : Nat) (h : Rd w R a len cap) :
    Calls Try.prog 33 #[.pointer (some ⟨R, 0, none⟩)] w (Drawn w R a len cap) := by
  obtain ⟨W, hW⟩ : ∃ W, W = w.alloc (.cells #[.string ⟨#[]⟩, .slice none 0 0] 26) := ⟨_, rfl⟩
  have HW : Hid (W = w.alloc (.cells #[.string ⟨#[]⟩, .slice none 0 0] 26)) := hW
  have HA : Hid (Ahead w W R a len cap w.heap.size) := by
    have h1 : Ahead w W R a len cap w.heap.size := by rw [hW]; exact .first h
    exact h1
  obtain ⟨z64, hz64, hzc⟩ := zeros_text 64 (by omega)
  have HZ : Hid (∀ w, Calls Try.prog 57 #[.int .i64 64] w fun e w' => e = .returned (.string z64) ∧ Below w.heap.size w w') := hzc
  clear h hW hzc
  go_enter Try.func33, Try.ntmps33
  go_wp2_with fail
  rw [← HW.out]
  refine (below_pos _ R a len cap HA.out.rd 5 (by omega) (by omega)).mono ?_
  rintro e w1 ⟨v, rfl, hv, hr1, hb1⟩
  have HA1 : Hid (Ahead w w1 R a len cap w.heap.size) := HA.out.drawn hr1 hb1
  clear hr1 hb1
  go_wp2_with fail
  go_loopw [3, 4] (fun s i wr => ∃ (n k : Nat) (t : ByteArray), i = .int .i64 n ∧ s = .string t ∧ t.size = 64 * k ∧ n + k = 1 + v ∧ Ahead w wr R a len cap w.heap.size) (fun _ i _ => (intOf i).toNat)
  case atStart => exact ⟨1 + v, 0, ⟨#[]⟩, by go_num, rfl, rfl, by omega, HA1.out⟩
  case round =>
    obtain ⟨n, k, t, rfl, rfl, ht, hnk, ha⟩ := hrel
    have HAr : Hid (Ahead w wr R a len cap w.heap.size) := ha
    clear ha
    by_cases hpos : (0 : Int) < (n : Int)
    · go_wp2_with fail
      refine (HZ.out _).mono ?_
      rintro e w2 ⟨rfl, hb2⟩
      have HA2 : Hid (Ahead w w2 R a len cap w.heap.size) := HAr.out.later hb2
      clear hb2
      go_wp2_with fail
      refine (below_pos _ R a len cap HA2.out.rd 40 (by omega) (by omega)).mono ?_
      rintro e w3 ⟨o, rfl, ho, hr3, hb3⟩
      have HA3 : Hid (Ahead w w3 R a len cap w.heap.size) := HA2.out.drawn hr3 hb3
      clear hr3 hb3
      go_wp2_with fail
      refine (bytes_any _ R a len cap HA3.out.rd 20 (by omega) (by omega)).mono ?_
      rintro e w4 ⟨d, rfl, hd, hr4, hb4⟩
      have HA4 : Hid (Ahead w w4 R a len cap w.heap.size) := HA3.out.drawn hr4 hb4
      clear hr4 hb4
      have hws : (withAt z64 o d).size = 64 := by rw [withAt_size _ _ _ (by omega)]; exact hz64
      have HC : Hid (Calls _ _ _ w4 _) := l2With_any w4 z64 o d (by omega) (by omega)
      generalize withAt z64 o d = y at HC hws
      go_wp2_with fail
      refine HC.out.mono ?_
      rintro e w5 ⟨rfl, hb5⟩
      have HA5 : Hid (Ahead w w5 R a len cap w.heap.size) := HA4.out.later hb5
      clear hb5
      go_wp2
      go_roundw
      case rel => exact ⟨n - 1, k + 1, t ++ y, by go_num, rfl, by rw [ByteArray.size_append]; omega, by omega, HA5.out⟩
      case measure => simp [intOf]; omega
    · obtain rfl : n = 0 := by omega
      obtain ⟨Y, hY⟩ : ∃ Y, Y = wr.alloc (.cells #[.string t, .slice none 0 0] 26) := ⟨_, rfl⟩
      have HY : Hid (Y = wr.alloc (.cells #[.string t, .slice none 0 0] 26)) := hY
      have HB0 : Hid (Boxed w Y R a len cap w.heap.size wr.heap.size t (.slice none 0 0) []) := by
        have h1 : Boxed w Y R a len cap w.heap.size wr.heap.size t (.slice none 0 0) [] := by rw [hY]; exact HAr.out.boxed t
        exact h1
      clear hY
      go_wp2_with fail
      rw [← HY.out]
      refine (size_any _ R a len cap HB0.out.rd).mono ?_
      rintro e w2 ⟨m, rfl, hm, hr2, hb2⟩
      have HB2 : Hid (Boxed w w2 R a len cap w.heap.size wr.heap.size t (.slice none 0 0) []) := HB0.out.drawn hr2 hb2
      clear hr2 hb2
      go_wp2_with fail
      generalize hBB : wr.heap.size = B at HB2 ⊢
      clear hBB HB0 HY HAr HA HA1 HW
      go_loopw [6] (fun i wx => ∃ (n : Nat), n ≤ 14 ∧ ∃ (safe : ByteArray) (u : Value) (ls : List Ln), i = .int .i64 n ∧ Boxed w wx R a len cap w.heap.size B safe u ls ∧ DevOk safe ls ∧ safe.size = t.size) (fun i _ => (intOf i).toNat)
      case atStart => exact ⟨m, hm, t, _, [], rfl, HB2.out, empty_ok t (by omega) (by omega) (by omega), rfl⟩
      case round =>
        obtain ⟨n, hn, safe, u, ls, rfl, hbx, hok, hst⟩ := hrel
        obtain ⟨aa, g, cp, rfl, hg1, hg2, _⟩ := hbx.lines
        have HB : Hid (Boxed w wr R a len cap w.heap.size B safe (.slice aa ls.length cp) ls) := hbx
        have HOK : Hid (DevOk safe ls) := hok
        clear hbx hok
        by_cases hpos : (0 : Int) < (n : Int)
        · go_wp2_with fail
          refine (below_pos _ R a len cap HB.out.rd (k : Int) (by omega) (by omega)).mono ?_
          rintro e w3 ⟨ln, rfl, hln, hr3, hb3⟩
          have HB3 : Hid (Boxed w w3 R a len cap w.heap.size B safe (.slice aa ls.length cp) ls) := HB.out.drawn hr3 hb3
          clear hr3 hb3
          go_wp2_with fail
          refine (below_pos _ R a len cap HB3.out.rd 7 (by omega) (by omega)).mono ?_
          rintro e w4 ⟨c, rfl, hc, hr4, hb4⟩
          have HB4 : Hid (Boxed w w4 R a len cap w.heap.size B safe (.slice aa ls.length cp) ls) := HB3.out.drawn hr4 hb4
          clear hr4 hb4
          have b0 := HB4.out.box0
          have b1 := HB4.out.box1
          have hlines : Hid (Lines w4 aa ls) := HB4.out.lines_at
          have hcase : c = 0 ∨ c = 1 ∨ c = 2 ∨ c = 3 ∨ (c = 4 ∨ c = 5 ∨ c = 6) := by omega
          rcases hcase with rfl | rfl | rfl | rfl | hcc
          · go_wp2_with fail
            refine (d_fence w4 safe aa cp ls hlines.out HOK.out).mono ?_
            rintro e w5 ⟨safe', ls', u', rfl, hok', hs', ho', hb5⟩
            obtain ⟨aa', cp', hu'⟩ := row_shape ho'
            subst hu'
            have HP : Hid (∀ _ : Unit, Boxed w ((w5.setCell ⟨B, 0, none⟩ (.string safe')).setCell ⟨B, 1, none⟩ (.slice aa' ls'.length cp')) R a len cap w.heap.size B safe' (.slice aa' ls'.length cp') ls') := fun _ => HB4.out.stepped ho' hb5
            have h5 := HB4.out.later hb5
            have q0 := h5.box0; have q1 := h5.box1; have y0 := h5.fbox0; have y1 := h5.fbox1
            have HOK' : Hid (DevOk safe' ls') := hok'
            clear h5 ho' hb5 hok'
            go_wp2
            go_roundw
            case rel => exact ⟨n - 1, by omega, safe', _, ls', by go_num, HP.out (), HOK'.out, by omega⟩
            case measure => simp [intOf]; omega
          · go_wp2_with fail
            refine (d_evict w4 safe aa cp ls ln hlines.out HOK.out).mono ?_
            rintro e w5 ⟨safe', ls', u', rfl, hok', hs', ho', hb5⟩
            obtain ⟨aa', cp', hu'⟩ := row_shape ho'
            subst hu'
            have HP : Hid (∀ _ : Unit, Boxed w ((w5.setCell ⟨B, 0, none⟩ (.string safe')).setCell ⟨B, 1, none⟩ (.slice aa' ls'.length cp')) R a len cap w.heap.size B safe' (.slice aa' ls'.length cp') ls') := fun _ => HB4.out.stepped ho' hb5
            have h5 := HB4.out.later hb5
            have q0 := h5.box0; have q1 := h5.box1; have y0 := h5.fbox0; have y1 := h5.fbox1
            have HOK' : Hid (DevOk safe' ls') := hok'
            clear h5 ho' hb5 hok'
            go_wp2
            go_roundw
            case rel => exact ⟨n - 1, by omega, safe', _, ls', by go_num, HP.out (), HOK'.out, by omega⟩
            case measure => simp [intOf]; omega
          · go_wp2_with fail
            refine (d_flush w4 safe aa cp ls ln hlines.out HOK.out).mono ?_
            rintro e w5 ⟨safe', ls', u', rfl, hok', hs', ho', hb5⟩
            obtain ⟨aa', cp', hu'⟩ := row_shape ho'
            subst hu'
            have HP : Hid (∀ _ : Unit, Boxed w ((w5.setCell ⟨B, 0, none⟩ (.string safe')).setCell ⟨B, 1, none⟩ (.slice aa' ls'.length cp')) R a len cap w.heap.size B safe' (.slice aa' ls'.length cp') ls') := fun _ => HB4.out.stepped ho' hb5
            have h5 := HB4.out.later hb5
            have q0 := h5.box0; have q1 := h5.box1; have y0 := h5.fbox0; have y1 := h5.fbox1
            have HOK' : Hid (DevOk safe' ls') := hok'
            clear h5 ho' hb5 hok'
            go_wp2
            go_roundw
            case rel => exact ⟨n - 1, by omega, safe', _, ls', by go_num, HP.out (), HOK'.out, by omega⟩
            case measure => simp [intOf]; omega
          · go_wp2_with fail
            refine (d_flush w4 safe aa cp ls ln hlines.out HOK.out).mono ?_
            rintro e w5 ⟨safe', ls', u', rfl, hok', hs', ho', hb5⟩
            obtain ⟨aa', cp', hu'⟩ := row_shape ho'
            subst hu'
            have HP : Hid (∀ _ : Unit, Boxed w ((w5.setCell ⟨B, 0, none⟩ (.string safe')).setCell ⟨B, 1, none⟩ (.slice aa' ls'.length cp')) R a len cap w.heap.size B safe' (.slice aa' ls'.length cp') ls') := fun _ => HB4.out.stepped ho' hb5
            have h5 := HB4.out.later hb5
            have q0 := h5.box0; have q1 := h5.box1; have y0 := h5.fbox0; have y1 := h5.fbox1
            have HOK' : Hid (DevOk safe' ls') := hok'
            clear h5 ho' hb5 hok'
            go_wp2
            go_roundw
            case rel => exact ⟨n - 1, by omega, safe', _, ls', by go_num, HP.out (), HOK'.out, by omega⟩
            case measure => simp [intOf]; omega
          · have e0 : ((c : Int) == 0) = false := by simp; omega
            have e1 : ((c : Int) == 1) = false := by simp; omega
            have e2 : ((c : Int) == 2) = false := by simp; omega
            have e3 : ((c : Int) == 3) = false := by simp; omega
            clear hcc
            have hR4 : R < w4.heap.size := HB4.out.rd.size
            have z4 := HB4.out.size
            have hR0 : R < B := Nat.lt_trans HB4.out.low HB4.out.lt
            have hw1 : IntKind.i64.wrap (64 * (ln : Int)) = 64 * (ln : Int) := by rw [IntKind.wrap_i64]; omega
            go_upto_region 12 with fail
            go_region_with (first | (go_at_call 55; have hq5 := HB5.out.size; clear hq5; refine (below_pos _ R a len cap (by first | exact HB5.out.rd | exact (HB5.out.alloc _).rd) 4 (by omega) (by omega)).mono ?_; rintro e w6 ⟨c6, rfl, hc6, hr6, hg6⟩; have HB6 : Hid (Boxed w w6 R a len cap w.heap.size B safe (.slice aa ls.length cp) ls) := (by first | exact HB5.out.drawn hr6 hg6 | exact (HB5.out.alloc _).drawn hr6 hg6); have r0 := HB6.out.box0; have r1 := HB6.out.box1; have z6 := HB6.out.size; obtain ⟨x, hx3, hx⟩ := some_text c6 hc6; (first | (have c0 := cell_grown hg6 (by omega) (T5.out c6 _ hx)) | (have c0 := tbl_now hg6 (by omega) hx) | skip); clear hr6 hg6) | (go_at_call 55; refine (below_pos _ R a len cap (by first | exact HB4.out.drew.rd | exact (HB4.out.alloc _).drew.rd) 60 (by omega) (by omega)).mono ?_; rintro e w5 ⟨o, rfl, ho, hr5, hg5⟩; have HB5 : Hid (Boxed w w5 R a len cap w.heap.size B safe (.slice aa ls.length cp) ls) := (by first | exact HB4.out.drew.drawn hr5 hg5 | exact (HB4.out.alloc _).drew.drawn hr5 hg5); have hw2 : IntKind.i64.wrap (64 * (ln : Int) + (o : Int)) = 64 * (ln : Int) + (o : Int) := (by rw [IntKind.wrap_i64]; omega); have q0 := HB5.out.box0; have q1 := HB5.out.box1; have z5 := HB5.out.size; (first | (have T5 : Hid (∀ j v, #[Value.string ⟨#[97]⟩, .string ⟨#[98, 99]⟩, .string ⟨#[0]⟩, .string ⟨#[120, 121, 122]⟩][j]? = some v → w5.cell? ⟨w4.heap.size, j, none⟩ = some v) := fun j v hj => tbl_cell hg5 hR4 hj) | skip); clear hr5 hg5) | (go_at_call 43; refine (d_store _ safe aa cp ls (64 * (ln : Int) + (o : Int)) ln o x (by omega) (by first | exact HB6.out.lines_at | exact (HB6.out.alloc _).lines_at) HOK.out (by omega) (by omega) (by omega)).mono ?_; rintro e w7 ⟨safe', ls', u', rfl, hok', hs', ho', hb7⟩; obtain ⟨aa', cp', hu'⟩ := row_shape ho'; subst hu'; have HP : Hid (Boxed w ((w7.setCell ⟨B, 0, none⟩ (.string safe')).setCell ⟨B, 1, none⟩ (.slice aa' ls'.length cp')) R a len cap w.heap.size B safe' (.slice aa' ls'.length cp') ls') := (by first | exact HB6.out.stepped ho' hb7 | exact (HB6.out.alloc _).stepped ho' hb7); have h7 : Boxed w w7 R a len cap w.heap.size B safe (.slice aa ls.length cp) ls := (by first | exact HB6.out.later hb7 | exact (HB6.out.alloc _).later hb7); have s0 := h7.box0; have s1 := h7.box1; have y0 := h7.fbox0; have y1 := h7.fbox1; have HOK' : Hid (DevOk safe' ls') := hok'; clear h7 ho' hb7 hok'))
            all_goals
              go_wp2
              go_roundw
              case rel => exact ⟨n - 1, by omega, _, _, _, by go_num, HP.out, HOK'.out, by omega⟩
              case measure => simp [intOf]; omega
        · obtain ⟨z1, z2, z3⟩ := ok_sizes HOK.out
          have HZS : Hid (∀ l ∈ ls, l.data.size ≤ 64 ∧ l.sent.size ≤ 64) := z3
          clear HOK z3
          go_wp2_with fail
          refine (below_pos _ R a len cap HB.out.rd 30 (by omega) (by omega)).mono ?_
          rintro e w4 ⟨c, rfl, hc, hr4, hb4⟩
          have HB4 : Hid (Boxed w w4 R a len cap w.heap.size B safe (.slice aa ls.length cp) ls) := HB.out.drawn hr4 hb4
          clear hr4 hb4
          have b0 := HB4.out.box0
          have b1 := HB4.out.box1
          have t0 := HB4.out.res0
          have t1 := HB4.out.res1
          have f0 := HB4.out.fres0
          have f1 := HB4.out.fres1
          have hNB : w.heap.size < B := HB4.out.lt
          have hcase : c = 0 ∨ c = 1 ∨ c = 2 ∨ c = 3 ∨ 4 ≤ c := by omega
          rcases hcase with rfl | rfl | rfl | rfl | hcc
          · go_wp2_with fail
            refine (hurt_any _ R a len cap HB4.out.rd safe (by omega)).mono ?_
            rintro e w5 ⟨t', rfl, ht', hr5, hb5⟩
            have HB5 : Hid (Boxed w w5 R a len cap w.heap.size B safe (.slice aa ls.length cp) ls) := HB4.out.drawn hr5 hb5
            clear hr5 hb5
            have q0 := HB5.out.box0
            have y0 := HB5.out.fbox0
            obtain ⟨Y, hY⟩ : ∃ Y, Y = w5.setCell ⟨B, 0, none⟩ (.string t') := ⟨_, rfl⟩
            have HP : Hid (Boxed w Y R a len cap w.heap.size B t' (.slice aa ls.length cp) ls) := by
              have h1 : Boxed w Y R a len cap w.heap.size B t' (.slice aa ls.length cp) ls := by rw [hY]; exact HB5.out.put0 t'
              exact h1
            have HY : Hid (Y = w5.setCell ⟨B, 0, none⟩ (.string t')) := hY
            have m0 := HP.out.box0
            have m1 := HP.out.box1
            have n0 := HP.out.res0
            have n1 := HP.out.res1
            have g0 := HP.out.fres0
            have g1 := HP.out.fres1
            clear hY
            go_wp2_with (rw [← HY.out])
            obtain ⟨p0, p1⟩ := set2_cells HP.out.res0 HP.out.res1 (.string t') (.slice aa ls.length cp)
            refine bodyPost_ret (v := .agg #[.string t', .slice aa ls.length cp]) (by simp [results, Try.results33, go_sem, p0, p1]) rfl ?_
            exact HP.out.finish (by omega) (by omega) HZS.out
          · obtain ⟨i0, hi, hzz⟩ := Option.map_eq_some_iff.1 infoLine
            simp only [Prod.mk.injEq] at hzz
            obtain ⟨hz0, hz1, hz2⟩ := hzz
            have z4 := HB4.out.size
            go_upto_region 24 with fail
            go_region_law ((first | (go_simp; go_at_call 34; refine (off_any _ R a len cap HB4.out.drew.rd 0 5 (by omega) (by omega) (by omega)).mono ?_; rintro e w5 ⟨x5, rfl, hx5, hr5, hg5⟩; have HB5 : Hid (Boxed w w5 R a len cap w.heap.size B safe (.slice aa ls.length cp) ls) := HB4.out.drew.drawn hr5 hg5; have q1 := HB5.out.box1; clear hr5 hg5 hx5) | (go_simp; go_at_call 57; refine (HZ.out _).mono ?_; rintro e w6 ⟨rfl, hb6⟩; have HB6 : Hid (Boxed w w6 R a len cap w.heap.size B safe (.slice aa ls.length cp) ls) := HB5.out.later hb6; have r1 := HB6.out.box1; have z6 := HB6.out.size; clear hb6) | (refine step_append_lies _ (by rfl) _ _ _ (by rfl) (B + 1) 46 i0 (.agg #[.int .i64 0, .string ⟨#[]⟩, .string ⟨#[]⟩]) 3 40 Try.underlying24 hi hz0 hz1 hz2 rfl (by decide) (.slice aa ls.length cp) ls.length (cellsOfLines ls) (by rfl) (HB6.out.own.alloc _) ⟨w6.heap.size, 0, none⟩ 1 1 [.int .i64 x5, .string z64, .string ⟨#[]⟩] (by rfl) rfl (World.news_of_block (heap_alloc_new w6 _)) (one_three _ _ _) (by decide) (by unfold maxLen; omega) (by omega) (Nat.le_trans z6 (by simp)) _ rfl ?_; intro g7 cp7 w7 hown7 hgrow7 hat7 hlt7; obtain ⟨s1, y1, hp7⟩ := HB6.out.appended ⟨x5, z64, ⟨#[]⟩⟩ hown7 hgrow7)))
            all_goals
              obtain ⟨L, hL⟩ : ∃ L, L = ls ++ [(⟨x5, z64, ⟨#[]⟩⟩ : Ln)] := ⟨_, rfl⟩
              have hLl : L.length = ls.length + 1 := by rw [hL]; simp
              have hLn : L.length ≤ 129 := by omega
              have hLz : ∀ l ∈ L, l.data.size ≤ 64 ∧ l.sent.size ≤ 64 := by
                intro l hl
                rw [hL, List.mem_append, List.mem_singleton] at hl
                rcases hl with h | h
                · exact HZS.out l h
                · rw [h]
                  exact ⟨Nat.le_of_eq hz64, (by decide : (ByteArray.mk #[]).size ≤ 64)⟩
              obtain ⟨Y, hY⟩ : ∃ Y, Y = w7.setCell ⟨B, 1, none⟩ (.slice (some ⟨g7, 0, none⟩) (ls.length + 1) cp7) := ⟨_, rfl⟩
              have HP : Hid (Boxed w Y R a len cap w.heap.size B safe (.slice (some ⟨g7, 0, none⟩) L.length cp7) L) := by
                have h1 : Boxed w Y R a len cap w.heap.size B safe (.slice (some ⟨g7, 0, none⟩) L.length cp7) L := by rw [hY, hLl, hL]; exact hp7
                exact h1
              have HY : Hid (Y = w7.setCell ⟨B, 1, none⟩ (.slice (some ⟨g7, 0, none⟩) (ls.length + 1) cp7)) := hY
              have m0 := HP.out.box0
              have m1 := HP.out.box1
              have n0 := HP.out.res0
              have n1 := HP.out.res1
              have g0 := HP.out.fres0
              have g1 := HP.out.fres1
              clear hY hL hLl hp7 hown7 hgrow7 hat7 hlt7
              go_wp2_with (rw [← HY.out])
              obtain ⟨p0, p1⟩ := set2_cells HP.out.res0 HP.out.res1 (.string safe) (.slice (some ⟨g7, 0, none⟩) L.length cp7)
              refine bodyPost_ret (v := .agg #[.string safe, .slice (some ⟨g7, 0, none⟩) L.length cp7]) (by simp [results, Try.results33, go_sem, p0, p1]) rfl ?_
              exact HP.out.finish (by omega) hLn hLz
          · by_cases hlen : (0 : Int) < (ls.length : Int)
            · have haa : aa = some ⟨g, 0, none⟩ := hg2 (by omega)
              have hg' := hg1
              subst haa
              clear hg2
              have hos := (HB4.out.own.stored (0 * 3 + 2) (.string ⟨#[120]⟩)).1
              rw [cells_sent ls 0 (by omega)] at hos
              have hcell : ∃ v, w4.cell? ⟨g, 2, none⟩ = some v := by
                obtain ⟨b, off, e, _, _, c2⟩ := HB4.out.lines_at 0 (by omega)
                injection e with e1
                injection e1 with e2 e3
                subst e2 e3
                exact ⟨_, by simpa using c2⟩
              obtain ⟨v2, c2⟩ := hcell
              have y2 : w4.frozen? ⟨g, 2, none⟩ = false := HB4.out.own.frozenAt 2
              obtain ⟨Y, hY⟩ : ∃ Y, Y = w4.setCell ⟨g, 2, none⟩ (.string ⟨#[120]⟩) := ⟨_, rfl⟩
              obtain ⟨L, hL⟩ : ∃ L, L = ls.set 0 ⟨(ls[0]'(by omega)).place, (ls[0]'(by omega)).data, ⟨#[120]⟩⟩ := ⟨_, rfl⟩
              have hLl : L.length = ls.length := by rw [hL]; simp
              have hLz : ∀ l ∈ L, l.data.size ≤ 64 ∧ l.sent.size ≤ 64 := by
                intro l hl
                rw [hL] at hl
                rcases List.mem_or_eq_of_mem_set hl with h | h
                · exact HZS.out l h
                · rw [h]
                  exact ⟨(HZS.out _ (List.getElem_mem _)).1, (by decide : (ByteArray.mk #[120]).size ≤ 64)⟩
              have HP : Hid (Boxed w Y R a len cap w.heap.size B safe (.slice (some ⟨g, 0, none⟩) L.length cp) L) := by
                have h1 : Boxed w Y R a len cap w.heap.size B safe (.slice (some ⟨g, 0, none⟩) ls.length cp) L := by
                  rw [hY]
                  refine HB4.out.kept ((Below.refl _ _).setCell (p := ⟨g, 2, none⟩) hg' _) ?_
                  rw [hLl, hL]
                  exact hos
                rw [hLl]
                exact h1
              have HY : Hid (Y = w4.setCell ⟨g, 2, none⟩ (.string ⟨#[120]⟩)) := hY
              rw [← hLl] at b1 hlen
              have m0 := HP.out.box0
              have m1 := HP.out.box1
              have n0 := HP.out.res0
              have n1 := HP.out.res1
              have g0 := HP.out.fres0
              have g1 := HP.out.fres1
              have hLn : L.length ≤ 129 := by omega
              clear hY hL hos hLl
              go_wp2_with (rw [← HY.out])
              obtain ⟨p0, p1⟩ := set2_cells HP.out.res0 HP.out.res1 (.string safe) (.slice (some ⟨g, 0, none⟩) L.length cp)
              refine bodyPost_ret (v := .agg #[.string safe, .slice (some ⟨g, 0, none⟩) L.length cp]) (by simp [results, Try.results33, go_sem, p0, p1]) rfl ?_
              exact HP.out.finish (by omega) hLn hLz
            · have HP : Hid (Boxed w w4 R a len cap w.heap.size B safe (.slice aa ls.length cp) ls) := HB4.out
              go_wp2
              obtain ⟨p0, p1⟩ := set2_cells HP.out.res0 HP.out.res1 (.string safe) (.slice aa ls.length cp)
              refine bodyPost_ret (v := .agg #[.string safe, .slice aa ls.length cp]) (by simp [results, Try.results33, go_sem, p0, p1]) rfl ?_
              exact HP.out.finish (by omega) (by omega) HZS.out
          · go_wp2_with fail
            refine (below_pos _ R a len cap HB4.out.rd 3 (by omega) (by omega)).mono ?_
            rintro e w5 ⟨c5, rfl, hc5, hr5, hb5⟩
            have HB5 : Hid (Boxed w w5 R a len cap w.heap.size B safe (.slice aa ls.length cp) ls) := HB4.out.drawn hr5 hb5
            clear hr5 hb5
            obtain ⟨zz, hzz, hzc⟩ := zeros_text (64 * (127 + c5)) (by omega)
            have HZC : Hid (∀ w, Calls Try.prog 57 #[.int .i64 (64 * (127 + (c5 : Int)))] w fun e w' => e = .returned (.string zz) ∧ Below w.heap.size w w') := by
              have h1 : ∀ w, Calls Try.prog 57 #[.int .i64 (64 * (127 + (c5 : Int)))] w fun e w' => e = .returned (.string zz) ∧ Below w.heap.size w w' := fun w => by
                have := hzc w
                rwa [show ((64 * (127 + c5) : Nat) : Int) = 64 * (127 + (c5 : Int)) by omega] at this
              exact h1
            clear hzc
            go_wp2_with fail
            refine (HZC.out _).mono ?_
            rintro e w6 ⟨rfl, hb6⟩
            have HB6 : Hid (Boxed w w6 R a len cap w.heap.size B safe (.slice aa ls.length cp) ls) := HB5.out.later hb6
            have q0 := HB6.out.box0
            have q1 := HB6.out.box1
            have y0 := HB6.out.fbox0
            have y1 := HB6.out.fbox1
            obtain ⟨Y, hY⟩ : ∃ Y, Y = (w6.setCell ⟨B, 0, none⟩ (.string zz)).setCell ⟨B, 1, none⟩ (.slice none 0 0) := ⟨_, rfl⟩
            have HP : Hid (Boxed w Y R a len cap w.heap.size B zz (.slice none (List.length ([] : List Ln)) 0) []) := by
              have h1 : Boxed w Y R a len cap w.heap.size B zz (.slice none (List.length ([] : List Ln)) 0) [] := by rw [hY]; exact HB6.out.put zz _ [] (World.ownsRow_nil _ _ _ _)
              exact h1
            have HY : Hid (Y = (w6.setCell ⟨B, 0, none⟩ (.string zz)).setCell ⟨B, 1, none⟩ (.slice none 0 0)) := hY
            have m0 := HP.out.box0
            have m1 := HP.out.box1
            have n0 := HP.out.res0
            have n1 := HP.out.res1
            have g0 := HP.out.fres0
            have g1 := HP.out.fres1
            clear hY hb6
            go_wp2_with (rw [← HY.out])
            obtain ⟨p0, p1⟩ := set2_cells HP.out.res0 HP.out.res1 (.string zz) (.slice none 0 0)
            refine bodyPost_ret (v := .agg #[.string zz, .slice none 0 0]) (by simp [results, Try.results33, go_sem, p0, p1]) rfl ?_
            exact HP.out.finish (by omega) (by decide) (fun l hl => by cases hl)
          · have e0 : ((c : Int) == 0) = false := by simp; omega
            have e1 : ((c : Int) == 1) = false := by simp; omega
            have e2 : ((c : Int) == 2) = false := by simp; omega
            have e3 : ((c : Int) == 3) = false := by simp; omega
            have HP : Hid (Boxed w w4 R a len cap w.heap.size B safe (.slice aa ls.length cp) ls) := HB4.out
            go_wp2
            obtain ⟨p0, p1⟩ := set2_cells HP.out.res0 HP.out.res1 (.string safe) (.slice aa ls.length cp)
            refine bodyPost_ret (v := .agg #[.string safe, .slice aa ls.length cp]) (by simp [results, Try.results33, go_sem, p0, p1]) rfl ?_
            exact HP.out.finish (by omega) (by omega) HZS.out
end Go.Proofs.Ytgpmpijaggnocaa.dev
