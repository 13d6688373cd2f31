/-
  The draws of records and of their lines.
-/
import Derived.Test.YthigmppalpkadaaDoorRd4
import Derived.Test.YthigmppalpkadaaDoorRecord4
namespace Go.Proofs.YthigmppalpkadaaDoor.crc
open Go.RowKit
open wmath wb num rd

theorem half_any (w : World) (R : Nat) (a : Option Addr) (len cap : Nat) (h : Rd w R a len cap) :
    Calls Tryd.prog 63 #[.pointer (some ⟨R, 0, none⟩)] w fun e w' => ∃ s : ByteArray, e = .returned (.string s) ∧ s.size ≤ 1000 ∧ Rd w' R a len cap ∧ w.grownBy w' (some R) := by
  have HR : Hid (Rd w R a len cap) := h
  clear h
  go_enter Tryd.func63, Tryd.ntmps63
  go_wp2_with fail
  refine (bytes_any _ _ a len cap HR.out 20 (by omega) (by omega)).mono ?_
  rintro e w1 ⟨s, rfl, hs, hr1, hb1⟩
  have HR1 : Hid (Rd w1 R a len cap) := hr1
  have HB1 : Hid (w.grownBy w1 (some R)) := hb1
  clear hr1 hb1
  have HZC : Hid (∀ w, Calls Tryd.prog 74 #[.int .i64 (32 - (s.size : Int))] w fun e w' => e = .returned (.string (zeroStr (32 - (s.size : Int)).toNat)) ∧ Below w.heap.size w w') := fun w => by
    have h := zeros_any (32 - (s.size : Int)).toNat (by omega) w
    rwa [show (((32 - (s.size : Int)).toNat : Nat) : Int) = 32 - (s.size : Int) by omega] at h
  have zz := zeroStr_size (32 - (s.size : Int)).toNat
  generalize zeroStr (32 - (s.size : Int)).toNat = zr at HZC zz
  have hw : IntKind.i64.wrap (32 - (s.size : Int)) = 32 - (s.size : Int) := by rw [IntKind.wrap_i64]; omega
  have hsum : s.size + zr.size ≤ 1000 := by omega
  go_wp2_with fail
  refine (HZC.out _).mono ?_
  rintro e w2 ⟨rfl, hb2⟩
  have HR2 : Hid (Rd w2 R a len cap) := HR1.out.later hb2
  have HB2 : Hid (w.grownBy w2 (some R)) := gtrans HB1.out ⟨hb2.os, hb2.tape, hb2.output, hb2.size, fun i hi _ => hb2.block i hi⟩
  clear hb2
  go_wp2
  go_ret
  exact ⟨_, rfl, by rw [ByteArray.size_append]; omega, HR2.out, HB2.out⟩

structure Rec (w : World) (b : Nat) (e s h : Int) (o : ByteArray) : Prop where
  size : b < w.heap.size
  c0 : w.cell? ⟨b, 0, none⟩ = some (.int .i64 e)
  c1 : w.cell? ⟨b, 1, none⟩ = some (.int .i64 s)
  c2 : w.cell? ⟨b, 2, none⟩ = some (.int .i64 h)
  c3 : w.cell? ⟨b, 3, none⟩ = some (.string o)
  fz : ∀ k, w.frozen? ⟨b, k, none⟩ = false
theorem Rec.new (w : World) (e s h : Int) (o : ByteArray) (T : TypeId) : Rec (w.alloc (.cells #[.int .i64 e, .int .i64 s, .int .i64 h, .string o] T)) w.heap.size e s h o :=
  ⟨by simp, by rw [World.cell?_alloc_new]; rfl, by rw [World.cell?_alloc_new]; rfl, by rw [World.cell?_alloc_new]; rfl, by rw [World.cell?_alloc_new]; rfl, fun k => by go_simp⟩
theorem Rec.grown {w w' : World} {b R : Nat} {e s h : Int} {o : ByteArray} (q : Rec w b e s h o) (hg : w.grownBy w' (some R)) (hne : b ≠ R) : Rec w' b e s h o := by
  have heq : w'.heap[b]? = w.heap[b]? := hg.block b q.size (by intro k; injection k with k; exact hne k)
  refine ⟨Nat.lt_of_lt_of_le q.size hg.size, ?_, ?_, ?_, ?_, fun k => ?_⟩
  · have := q.c0; simp only [World.cell?, heq] at this ⊢; exact this
  · have := q.c1; simp only [World.cell?, heq] at this ⊢; exact this
  · have := q.c2; simp only [World.cell?, heq] at this ⊢; exact this
  · have := q.c3; simp only [World.cell?, heq] at this ⊢; exact this
  · have := q.fz k; simp only [World.frozen?, heq] at this ⊢; exact this
theorem Rec.below {w w' : World} {b : Nat} {e s h : Int} {o : ByteArray} (q : Rec w b e s h o) (hb : Below w.heap.size w w') : Rec w' b e s h o :=
  q.grown (R := w.heap.size) ⟨hb.os, hb.tape, hb.output, hb.size, fun i hi _ => hb.block i hi⟩ (Nat.ne_of_lt q.size)
theorem below4 {w w2 : World} {b : Nat} (h : Below w.heap.size w w2) (hb : w.heap.size ≤ b) (x0 x1 x2 x3 : Value) : Below w.heap.size w ((((w2.setCell ⟨b, 0, none⟩ x0).setCell ⟨b, 1, none⟩ x1).setCell ⟨b, 2, none⟩ x2).setCell ⟨b, 3, none⟩ x3) :=
  (((h.setCell (p := ⟨b, 0, none⟩) hb x0).setCell (p := ⟨b, 1, none⟩) hb x1).setCell (p := ⟨b, 2, none⟩) hb x2).setCell (p := ⟨b, 3, none⟩) hb x3
theorem other {w : World} {b c i j : Nat} {v x : Value} (h : w.cell? ⟨b, i, none⟩ = some v) (hne : c ≠ b) : (w.setCell ⟨c, j, none⟩ x).cell? ⟨b, i, none⟩ = some v := by
  rw [World.cell?_setCell_other _ _ _ _ (by intro q; exact hne (by simpa using congrArg Addr.block q))]; exact h

set_option maxHeartbeats 4000000 in
theorem draw_record (w : World) (a : Option Addr) (len cap : Nat) (hs : len ≤ 1048576) (hc : RdCode w w.heap.size a len) :
    Calls Tryd.prog 21 #[.slice a len cap] w fun x w' => ∃ (e s h : Int) (o : ByteArray), x = .returned (.agg #[.int .i64 e, .int .i64 s, .int .i64 h, .string o]) ∧ o.size ≤ 1001 ∧ Below w.heap.size w w' := by
  obtain ⟨W, hW⟩ : ∃ W, W = w.alloc (.cells #[.int .i64 0, .int .i64 0, .int .i64 0, .string ⟨#[]⟩] 35) := ⟨_, rfl⟩
  have hb0 : Below w.heap.size w W := by rw [hW]; exact (Below.refl _ _).alloc (Nat.le_refl _) _
  have hrb : Rec W w.heap.size 0 0 0 ⟨#[]⟩ := by rw [hW]; exact Rec.new _ _ _ _ _ _
  have HW : Hid (W = w.alloc (.cells #[.int .i64 0, .int .i64 0, .int .i64 0, .string ⟨#[]⟩] 35)) := hW
  have HC : Hid (RdCode W W.heap.size a len) := hc.below hb0 hb0.size
  have HB0 : Hid (Below w.heap.size w W) := hb0
  have HX0 : Hid (Rec W w.heap.size 0 0 0 ⟨#[]⟩) := hrb
  clear hc hW hb0 hrb
  go_enter Tryd.func21, Tryd.ntmps21
  go_wp2_with (rw [← HW.out])
  refine (open_any _ a len cap hs HC.out).mono ?_
  rintro x w1 ⟨rfl, hr1, hb1⟩
  obtain ⟨R, hR⟩ : ∃ R, R = W.heap.size := ⟨_, rfl⟩
  have HLT : Hid (w.heap.size < R) := by rw [hR]; exact HX0.out.size
  rw [← hR] at hr1 ⊢
  have HR1 : Hid (Rd w1 R a len cap) := hr1
  have HX1 : Hid (Rec w1 w.heap.size 0 0 0 ⟨#[]⟩) := HX0.out.below hb1
  have HB1 : Hid (Below w.heap.size w w1) := HB0.out.trans (hb1.mono HB0.out.size)
  clear hr1 hb1 hR HX0 HB0 HC HW
  go_wp2_with fail
  refine (near_any _ _ a len cap HR1.out 0 999999999 (by omega) (by omega) (by omega)).mono ?_
  rintro x w2 ⟨e, rfl, _, _, hr, hb⟩
  have HR2 : Hid (Rd w2 R a len cap) := hr
  have HG2 : Hid (w1.grownBy w2 (some R)) := hb
  clear hr hb
  go_wp2_with fail
  refine (near_any _ _ a len cap HR2.out 0 31 (by omega) (by omega) (by omega)).mono ?_
  rintro x w3 ⟨s, rfl, _, _, hr, hb⟩
  have HR3 : Hid (Rd w3 R a len cap) := hr
  have HG3 : Hid (w1.grownBy w3 (some R)) := gtrans HG2.out hb
  clear hr hb
  go_wp2_with fail
  refine (near_any _ _ a len cap HR3.out 0 255 (by omega) (by omega) (by omega)).mono ?_
  rintro x w4 ⟨h, rfl, _, _, hr, hb⟩
  have HR4 : Hid (Rd w4 R a len cap) := hr
  have HG4 : Hid (w1.grownBy w4 (some R)) := gtrans HG3.out hb
  clear hr hb
  go_wp2_with fail
  refine (half_any _ _ a len cap HR4.out).mono ?_
  rintro x w5 ⟨o, rfl, ho, hr, hb⟩
  have HO : Hid (o.size ≤ 1000) := ho
  have HG5 : Hid (w1.grownBy w5 (some R)) := gtrans HG4.out hb
  obtain ⟨V, hV⟩ : ∃ V, V = w5.alloc (.cells #[.int .i64 e, .int .i64 s, .int .i64 h, .string o] 35) := ⟨_, rfl⟩
  have hnew : Rec V w5.heap.size e s h o := by rw [hV]; exact Rec.new _ _ _ _ _ _
  have hg : w1.grownBy V (some R) := by rw [hV]; exact galloc HG5.out _
  have HRV : Hid (Rd V R a len cap) := by show Rd V R a len cap; rw [hV]; exact hr.alloc _
  have HV : Hid (V = w5.alloc (.cells #[.int .i64 e, .int .i64 s, .int .i64 h, .string o] 35)) := hV
  have hsz := hr.size
  have hsz2 := HG5.out.size
  have hsz3 := HX1.out.size
  obtain ⟨xb, hxb⟩ : ∃ xb, xb = w5.heap.size := ⟨_, rfl⟩
  rw [← hxb] at hnew hsz
  have HXB : Hid (xb = w5.heap.size) := hxb
  have HXV : Hid (Rec V xb e s h o) := hnew
  have HXR : Hid (Rec V w.heap.size 0 0 0 ⟨#[]⟩) := HX1.out.grown hg (Nat.ne_of_lt HLT.out)
  have HNR : Hid (xb ≠ R) := by show xb ≠ R; omega
  have HNW : Hid (xb ≠ w.heap.size) := by show xb ≠ w.heap.size; have := HLT.out; omega
  have HLE : Hid (w.heap.size ≤ xb) := by show w.heap.size ≤ xb; have := HLT.out; omega
  have HBV : Hid (Below w.heap.size w V) := below_of HB1.out hg (Nat.le_of_lt HLT.out) HB1.out.size
  clear hr hb ho hV hnew hg hsz hsz2 hsz3 hxb HG2 HG3 HG4 HG5 HX1 HB1 HR1 HR2 HR3 HR4
  go_wp2_with (rw [← HV.out, ← HXB.out])
  refine (below_pos _ _ a len cap HRV.out 10 (by omega) (by omega)).mono ?_
  rintro x w7 ⟨v, rfl, hv, hr, hb⟩
  have HR7 : Hid (Rd w7 R a len cap) := hr
  have HX7 : Hid (Rec w7 xb e s h o) := HXV.out.grown hb HNR.out
  have HY7 : Hid (Rec w7 w.heap.size 0 0 0 ⟨#[]⟩) := HXR.out.grown hb (Nat.ne_of_lt HLT.out)
  have HB7 : Hid (Below w.heap.size w w7) := below_of HBV.out hb (Nat.le_of_lt HLT.out) HBV.out.size
  clear hr hb HRV HXV HXR HBV HV HXB hv
  have HXW : Hid (w.heap.size ≤ xb) := HLE.out
  by_cases k0 : v = 0
  · subst k0
    go_wp2_with fail
    refine (off_any _ _ a len cap HR7.out 0 999999999 (by omega) (by omega) (by omega)).mono ?_
    rintro x w8 ⟨n, rfl, hn, hr, hb⟩
    have HX : Hid (Rec w8 xb e s h o) := HX7.out.grown hb HNR.out
    have HY : Hid (Rec w8 w.heap.size 0 0 0 ⟨#[]⟩) := HY7.out.grown hb (Nat.ne_of_lt HLT.out)
    have HB : Hid (Below w.heap.size w w8) := below_of HB7.out hb (Nat.le_of_lt HLT.out) HB7.out.size
    clear hr hb hn HX7 HY7 HB7 HR7
    have ⟨_, x0, x1, x2, x3, xz⟩ := HX.out
    have ⟨_, y0, y1, y2, y3, yz⟩ := HY.out
    have xz0 := xz 0
    have xz1 := xz 1
    have xz2 := xz 2
    have xz3 := xz 3
    have yz0 := yz 0
    have yz1 := yz 1
    have yz2 := yz 2
    have yz3 := yz 3
    have HC4 : Hid (∀ x0 x1 x2 x3, _) := four_set (w := (w8.setCell ⟨xb, 0, none⟩ (.int .i64 n))) (other y0 HNW.out) (other y1 HNW.out) (other y2 HNW.out) (other y3 HNW.out)
    have HB4 : Hid (∀ x0 x1 x2 x3, Below w.heap.size w _) := below4 (HB.out.setCell (p := ⟨xb, 0, none⟩) HXW.out (.int .i64 n)) (Nat.le_refl _)
    have hne1 := HNW.out
    have hne2 := HNW.out.symm
    clear xz yz
    go_wp2
    refine bodyPost_ret (v := .agg #[.int .i64 n, .int .i64 s, .int .i64 h, .string o]) ?_ rfl ⟨n, s, h, o, rfl, Nat.le_succ_of_le HO.out, HB4.out _ _ _ _⟩
    obtain ⟨q0, q1, q2, q3⟩ := HC4.out (.int .i64 n) (.int .i64 s) (.int .i64 h) (.string o)
    simp [results, Tryd.results21, go_sem, q0, q1, q2, q3]
  have d0 : ((v : Int) == 0) = false := by simp; omega
  by_cases k1 : v = 1
  · subst k1
    go_wp2_with fail
    refine (off_any _ _ a len cap HR7.out 0 31 (by omega) (by omega) (by omega)).mono ?_
    rintro x w8 ⟨n, rfl, hn, hr, hb⟩
    have HX : Hid (Rec w8 xb e s h o) := HX7.out.grown hb HNR.out
    have HY : Hid (Rec w8 w.heap.size 0 0 0 ⟨#[]⟩) := HY7.out.grown hb (Nat.ne_of_lt HLT.out)
    have HB : Hid (Below w.heap.size w w8) := below_of HB7.out hb (Nat.le_of_lt HLT.out) HB7.out.size
    clear hr hb hn HX7 HY7 HB7 HR7
    have ⟨_, x0, x1, x2, x3, xz⟩ := HX.out
    have ⟨_, y0, y1, y2, y3, yz⟩ := HY.out
    have xz0 := xz 0
    have xz1 := xz 1
    have xz2 := xz 2
    have xz3 := xz 3
    have yz0 := yz 0
    have yz1 := yz 1
    have yz2 := yz 2
    have yz3 := yz 3
    have HC4 : Hid (∀ x0 x1 x2 x3, _) := four_set (w := (w8.setCell ⟨xb, 1, none⟩ (.int .i64 n))) (other y0 HNW.out) (other y1 HNW.out) (other y2 HNW.out) (other y3 HNW.out)
    have HB4 : Hid (∀ x0 x1 x2 x3, Below w.heap.size w _) := below4 (HB.out.setCell (p := ⟨xb, 1, none⟩) HXW.out (.int .i64 n)) (Nat.le_refl _)
    have hne1 := HNW.out
    have hne2 := HNW.out.symm
    clear xz yz
    go_wp2
    refine bodyPost_ret (v := .agg #[.int .i64 e, .int .i64 n, .int .i64 h, .string o]) ?_ rfl ⟨e, n, h, o, rfl, Nat.le_succ_of_le HO.out, HB4.out _ _ _ _⟩
    obtain ⟨q0, q1, q2, q3⟩ := HC4.out (.int .i64 e) (.int .i64 n) (.int .i64 h) (.string o)
    simp [results, Tryd.results21, go_sem, q0, q1, q2, q3]
  have d1 : ((v : Int) == 1) = false := by simp; omega
  by_cases k2 : v = 2
  · subst k2
    go_wp2_with fail
    refine (off_any _ _ a len cap HR7.out 0 255 (by omega) (by omega) (by omega)).mono ?_
    rintro x w8 ⟨n, rfl, hn, hr, hb⟩
    have HX : Hid (Rec w8 xb e s h o) := HX7.out.grown hb HNR.out
    have HY : Hid (Rec w8 w.heap.size 0 0 0 ⟨#[]⟩) := HY7.out.grown hb (Nat.ne_of_lt HLT.out)
    have HB : Hid (Below w.heap.size w w8) := below_of HB7.out hb (Nat.le_of_lt HLT.out) HB7.out.size
    clear hr hb hn HX7 HY7 HB7 HR7
    have ⟨_, x0, x1, x2, x3, xz⟩ := HX.out
    have ⟨_, y0, y1, y2, y3, yz⟩ := HY.out
    have xz0 := xz 0
    have xz1 := xz 1
    have xz2 := xz 2
    have xz3 := xz 3
    have yz0 := yz 0
    have yz1 := yz 1
    have yz2 := yz 2
    have yz3 := yz 3
    have HC4 : Hid (∀ x0 x1 x2 x3, _) := four_set (w := (w8.setCell ⟨xb, 2, none⟩ (.int .i64 n))) (other y0 HNW.out) (other y1 HNW.out) (other y2 HNW.out) (other y3 HNW.out)
    have HB4 : Hid (∀ x0 x1 x2 x3, Below w.heap.size w _) := below4 (HB.out.setCell (p := ⟨xb, 2, none⟩) HXW.out (.int .i64 n)) (Nat.le_refl _)
    have hne1 := HNW.out
    have hne2 := HNW.out.symm
    clear xz yz
    go_wp2
    refine bodyPost_ret (v := .agg #[.int .i64 e, .int .i64 s, .int .i64 n, .string o]) ?_ rfl ⟨e, s, n, o, rfl, Nat.le_succ_of_le HO.out, HB4.out _ _ _ _⟩
    obtain ⟨q0, q1, q2, q3⟩ := HC4.out (.int .i64 e) (.int .i64 s) (.int .i64 n) (.string o)
    simp [results, Tryd.results21, go_sem, q0, q1, q2, q3]
  have d2 : ((v : Int) == 2) = false := by simp; omega
  by_cases k3 : v = 3
  · subst k3
    have xx3 := HX7.out.c3
    have hos := HO.out
    go_wp2_with fail
    refine (hurt_any _ _ a len cap HR7.out o (by omega)).mono ?_
    rintro x w8 ⟨t, rfl, ht, hr, hb⟩
    have HT : Hid (t.size ≤ 1001) := by show t.size ≤ 1001; omega
    have HX : Hid (Rec w8 xb e s h o) := HX7.out.grown hb HNR.out
    have HY : Hid (Rec w8 w.heap.size 0 0 0 ⟨#[]⟩) := HY7.out.grown hb (Nat.ne_of_lt HLT.out)
    have HB : Hid (Below w.heap.size w w8) := below_of HB7.out hb (Nat.le_of_lt HLT.out) HB7.out.size
    clear hr hb ht xx3 hos HX7 HY7 HB7 HR7
    have ⟨_, x0, x1, x2, x3, xz⟩ := HX.out
    have ⟨_, y0, y1, y2, y3, yz⟩ := HY.out
    have xz0 := xz 0
    have xz1 := xz 1
    have xz2 := xz 2
    have xz3 := xz 3
    have yz0 := yz 0
    have yz1 := yz 1
    have yz2 := yz 2
    have yz3 := yz 3
    have HC4 : Hid (∀ x0 x1 x2 x3, _) := four_set (w := (w8.setCell ⟨xb, 3, none⟩ (.string t))) (other y0 HNW.out) (other y1 HNW.out) (other y2 HNW.out) (other y3 HNW.out)
    have HB4 : Hid (∀ x0 x1 x2 x3, Below w.heap.size w _) := below4 (HB.out.setCell (p := ⟨xb, 3, none⟩) HXW.out (.string t)) (Nat.le_refl _)
    have hne1 := HNW.out
    have hne2 := HNW.out.symm
    clear xz yz
    go_wp2
    refine bodyPost_ret (v := .agg #[.int .i64 e, .int .i64 s, .int .i64 h, .string t]) ?_ rfl ⟨e, s, h, t, rfl, HT.out, HB4.out _ _ _ _⟩
    obtain ⟨q0, q1, q2, q3⟩ := HC4.out (.int .i64 e) (.int .i64 s) (.int .i64 h) (.string t)
    simp [results, Tryd.results21, go_sem, q0, q1, q2, q3]
  have d3 : ((v : Int) == 3) = false := by simp; omega
  clear k0 k1 k2 k3
  have HX : Hid (Rec w7 xb e s h o) := HX7.out
  have HY : Hid (Rec w7 w.heap.size 0 0 0 ⟨#[]⟩) := HY7.out
  have HB : Hid (Below w.heap.size w w7) := HB7.out
  clear HX7 HY7 HB7 HR7
  have ⟨_, x0, x1, x2, x3, xz⟩ := HX.out
  have ⟨_, y0, y1, y2, y3, yz⟩ := HY.out
  have xz0 := xz 0
  have xz1 := xz 1
  have xz2 := xz 2
  have xz3 := xz 3
  have yz0 := yz 0
  have yz1 := yz 1
  have yz2 := yz 2
  have yz3 := yz 3
  have HC4 : Hid (∀ x0 x1 x2 x3, _) := four_set y0 y1 y2 y3
  have HB4 : Hid (∀ x0 x1 x2 x3, Below w.heap.size w _) := below4 HB.out (Nat.le_refl _)
  clear xz yz
  go_wp2
  refine bodyPost_ret (v := .agg #[.int .i64 e, .int .i64 s, .int .i64 h, .string o]) ?_ rfl ⟨e, s, h, o, rfl, Nat.le_succ_of_le HO.out, HB4.out _ _ _ _⟩
  obtain ⟨q0, q1, q2, q3⟩ := HC4.out (.int .i64 e) (.int .i64 s) (.int .i64 h) (.string o)
  simp [results, Tryd.results21, go_sem, q0, q1, q2, q3]
end Go.Proofs.YthigmppalpkadaaDoor.crc
