/-
  The epoch of an image, by the program and by the specification; nothing that was there is written.
-/
import Derived.Test.YtmininipllohjaaDoorConf
import Derived.Test.YtmininipllohjaaDoorEpoch
namespace Go.Proofs.YtmininipllohjaaDoor.crc
open Go.RowKit
open kinds

theorem conf_lines {n1 n2 n3 : Int} {xs : List ByteArray} (h : configOk n1 n2 n3 xs = true) : 8 ≤ n1 ∧ n1 ≤ 128 := by
  unfold configOk at h
  simp at h
  omega
def lineAt (s : ByteArray) (p : Nat) : ByteArray := s.extract (64 * p) (64 * p + 64)
theorem lineAt_size (s : ByteArray) (p : Nat) (h : 64 * p + 64 ≤ s.size) : (lineAt s p).size = 64 := by
  unfold lineAt
  rw [ByteArray.size_extract]
  omega
theorem if_one (b : Bool) (x y : Int) : (if (true && b) = true then x else y) = if b = true then x else y := by cases b <;> rfl
theorem if_two (b : Bool) (x y : Int) : (if ((true && true) && b) = true then x else y) = if b = true then x else y := by cases b <;> rfl
theorem if_none (b : Bool) (x y : Int) : (if (false && b) = true then x else y) = y := by cases b <;> rfl
theorem if_none1 (c b : Bool) (x y : Int) : (if ((false && c) && b) = true then x else y) = y := by cases b <;> rfl
theorem if_none2 (b : Bool) (x y : Int) : (if ((true && false) && b) = true then x else y) = y := by cases b <;> rfl
/-- Is it an image of the config? -/
def imageB (n1 n2 n3 : Int) (xs : List ByteArray) (s : ByteArray) : Bool := configOk n1 n2 n3 xs && decide ((s.size : Int) = 64 * n1)
def epochIn (n1 n2 n3 : Int) (xs : List ByteArray) (s : ByteArray) : Int := if (imageB n1 n2 n3 xs s && epochB (lineAt s 1)) = true then epochOf (lineAt s 1) else -1
theorem lineOf_any (w : World) (s : ByteArray) (p : Nat) (hs : s.size ≤ 1048576) (h : 64 * p + 64 ≤ s.size) :
    Calls Tryd.prog 17 #[.string s, .int .i64 (p : Int)] w fun e w' => e = .returned (.string (lineAt s p)) ∧ w = w' := by
  have h1 : 64 * (p : Int) + 64 ≤ (s.size : Int) := by omega
  have HE : Hid (lineAt s p = s.extract (p * 64) ((p + 1) * 64)) := by show lineAt s p = _; unfold lineAt; rw [Nat.mul_comm 64 p, show (p + 1) * 64 = p * 64 + 64 by omega]
  go_enter Tryd.func17, Tryd.ntmps17
  go_wp2
  go_ret
  rw [HE.out]
  exact ⟨rfl, rfl⟩
theorem l5Line_any (w : World) (s : ByteArray) (p : Nat) (hs : s.size ≤ 1048576) (h : 64 * p + 64 ≤ s.size) :
    Calls Tryd.prog 12 #[.string s, .int .i64 (p : Int)] w fun e w' => e = .returned (.string (lineAt s p)) ∧ w = w' := by
  have h1 : 64 * (p : Int) + 64 ≤ (s.size : Int) := by omega
  have HE : Hid (lineAt s p = s.extract (64 * p) (64 * p + 64)) := rfl
  go_enter Tryd.func12, Tryd.ntmps12
  go_wp2
  go_ret
  rw [HE.out]
  exact ⟨rfl, rfl⟩
theorem isImage_any (w : World) (n1 : Int) (v2 v3 v4 : Value) (s : ByteArray) (_hs : s.size ≤ 1048576) (h1 : 8 ≤ n1) (h2 : n1 ≤ 128) :
    Calls Tryd.prog 15 #[.agg #[.int .i64 n1, v2, v3, v4], .string s] w fun e w' => e = .returned (.bool (decide ((s.size : Int) = 64 * n1))) ∧ Below w.heap.size w w' := by
  have hd : ((s.size : Int) == n1 * 64) = decide ((s.size : Int) = 64 * n1) := by
    rw [Int.mul_comm n1 64, Bool.eq_iff_iff]
    simp
  have hw : IntKind.i64.wrap (n1 * 64) = n1 * 64 := by rw [IntKind.wrap_i64]; omega
  go_enter Tryd.func15, Tryd.ntmps15
  go_wp2
  go_ret
  exact ⟨by rw [← hd]; rfl, by go_grown⟩
set_option maxHeartbeats 1000000 in
theorem impl_epochOf (w : World) (n1 n2 n3 : Int) (a : Option Addr) (cap : Nat) (xs : List ByteArray) (s : ByteArray) (hs : s.size ≤ 1048576) (hn : xs.length ≤ 1048576) (hl : Strs w a xs) (hz : ∀ i (hi : i < xs.length), xs[i].size ≤ 1048576) (ht : TabAt w) (h0 : 0 < w.heap.size) :
    Calls Tryd.prog 7 #[.agg #[.int .i64 n1, .int .i64 n2, .int .i64 n3, .slice a xs.length cap], .string s] w fun e w' => e = .returned (.int .i64 (epochIn n1 n2 n3 xs s)) ∧ Below w.heap.size w w' := by
  obtain ⟨W, hW⟩ : ∃ W, W = w.alloc (.cells #[.int .i64 n1, .int .i64 n2, .int .i64 n3, .slice a xs.length cap] 27) := ⟨_, rfl⟩
  have hb0 : Below w.heap.size w W := by rw [hW]; exact (Below.refl _ _).alloc (Nat.le_refl _) _
  have hsz : w.heap.size < W.heap.size := by rw [hW]; simp
  have HK : Hid (∀ w', Below W.heap.size W w' → w'.cell? ⟨w.heap.size, 0, none⟩ = some (.int .i64 n1) ∧ w'.cell? ⟨w.heap.size, 1, none⟩ = some (.int .i64 n2) ∧ w'.cell? ⟨w.heap.size, 2, none⟩ = some (.int .i64 n3) ∧ w'.cell? ⟨w.heap.size, 3, none⟩ = some (.slice a xs.length cap)) := fun w' h =>
    ⟨by rw [h.cell (p := ⟨w.heap.size, 0, none⟩) hsz, hW, World.cell?_alloc_new]; rfl, by rw [h.cell (p := ⟨w.heap.size, 1, none⟩) hsz, hW, World.cell?_alloc_new]; rfl, by rw [h.cell (p := ⟨w.heap.size, 2, none⟩) hsz, hW, World.cell?_alloc_new]; rfl, by rw [h.cell (p := ⟨w.heap.size, 3, none⟩) hsz, hW, World.cell?_alloc_new]; rfl⟩
  have HW : Hid (W = w.alloc (.cells #[.int .i64 n1, .int .i64 n2, .int .i64 n3, .slice a xs.length cap] 27)) := hW
  have HB0 : Hid (Below w.heap.size w W) := hb0
  have HT : Hid (∀ w', Below W.heap.size W w' → TabAt w' ∧ 0 < w'.heap.size) := fun w' h => ⟨(ht.below hb0 h0).below h (Nat.lt_of_lt_of_le h0 hb0.size), Nat.lt_of_lt_of_le h0 (Nat.le_trans hb0.size h.size)⟩
  have HC : Hid (Calls _ _ _ _ _) := impl_conf W n1 n2 n3 a cap xs hn (hl.below hb0) hz
  have HEI : Hid (epochIn n1 n2 n3 xs s = if (imageB n1 n2 n3 xs s && epochB (lineAt s 1)) = true then epochOf (lineAt s 1) else -1) := rfl
  have HIB : Hid (imageB n1 n2 n3 xs s = (configOk n1 n2 n3 xs && decide ((s.size : Int) = 64 * n1))) := rfl
  have hcl := @conf_lines n1 n2 n3 xs
  generalize epochIn n1 n2 n3 xs s = res at HEI ⊢
  generalize imageB n1 n2 n3 xs s = ib at HEI HIB
  clear hW hb0 hl hz ht
  cases hc : configOk n1 n2 n3 xs with
  | false =>
    rw [hc] at HC HIB
    have HR : Hid (res = -1) := by show res = -1; rw [HEI.out, HIB.out]; exact if_none1 _ _ _ _
    clear hc hcl
    go_enter Tryd.func7, Tryd.ntmps7
    go_wp2_with fail
    rw [← HW.out]
    refine HC.out.mono ?_
    rintro e w1 ⟨rfl, hb1⟩
    have HB1 : Hid (Below w.heap.size w w1) := HB0.out.trans (hb1.mono HB0.out.size)
    go_wp2
    go_ret
    exact ⟨by rw [HR.out]; rfl, HB1.out⟩
  | true =>
    obtain ⟨hn8, hn128⟩ := hcl hc
    rw [hc] at HC HIB
    clear hc hcl
    have HI : Hid (∀ w, Calls _ _ _ w _) := fun w => isImage_any w n1 (.int .i64 n2) (.int .i64 n3) (.slice a xs.length cap) s hs hn8 hn128
    cases hi : decide ((s.size : Int) = 64 * n1) with
    | false =>
      rw [hi] at HI HIB
      have HR : Hid (res = -1) := by show res = -1; rw [HEI.out, HIB.out]; exact if_none2 _ _ _
      clear hi
      go_enter Tryd.func7, Tryd.ntmps7
      go_wp2_with fail
      rw [← HW.out]
      refine HC.out.mono ?_
      rintro e w1 ⟨rfl, hb1⟩
      have H1 : Hid (Below W.heap.size W w1) := hb1
      obtain ⟨m0, m1, m2, m3⟩ := HK.out w1 hb1
      clear hb1
      go_wp2_with fail
      refine (HI.out _).mono ?_
      rintro e w2 ⟨rfl, hb2⟩
      have HB2 : Hid (Below w.heap.size w w2) := (HB0.out.trans (H1.out.mono HB0.out.size)).trans (hb2.mono (HB0.out.trans (H1.out.mono HB0.out.size)).size)
      clear hb2 m0 m1 m2 m3
      go_wp2
      go_ret
      exact ⟨by rw [HR.out]; rfl, HB2.out⟩
    | true =>
      have hsz64 : (s.size : Int) = 64 * n1 := of_decide_eq_true hi
      rw [hi] at HI HIB
      have h128 : 64 * 1 + 64 ≤ s.size := by omega
      have HL : Hid (∀ w, Calls _ _ _ w _) := fun w => lineOf_any w s 1 hs h128
      have HRE : Hid (∀ w, TabAt w → 0 < w.heap.size → Calls _ _ _ w _) := fun w h1 h2 => impl_read_epoch (lineAt s 1) w (lineAt_size s 1 h128) h1 h2
      have HEI2 : Hid (res = if epochB (lineAt s 1) = true then epochOf (lineAt s 1) else -1) := by show res = _; rw [HEI.out, HIB.out]; exact if_two _ _ _
      generalize epochB (lineAt s 1) = eb at HRE HEI2
      generalize epochOf (lineAt s 1) = eo at HRE HEI2
      generalize lineAt s 1 = ln at HL HRE
      clear hi hsz64 h128 HEI HIB
      cases eb with
      | false =>
        have HR : Hid (res = -1) := HEI2.out
        go_enter Tryd.func7, Tryd.ntmps7
        go_wp2_with fail
        rw [← HW.out]
        refine HC.out.mono ?_
        rintro e w1 ⟨rfl, hb1⟩
        have H1 : Hid (Below W.heap.size W w1) := hb1
        obtain ⟨m0, m1, m2, m3⟩ := HK.out w1 hb1
        clear hb1
        go_wp2_with fail
        refine (HI.out _).mono ?_
        rintro e w2 ⟨rfl, hb2⟩
        have H2 : Hid (Below W.heap.size W w2) := H1.out.trans (hb2.mono H1.out.size)
        clear hb2 m0 m1 m2 m3
        go_wp2_with fail
        refine (HL.out _).mono ?_
        rintro e w' ⟨rfl, rfl⟩
        go_wp2_with fail
        refine (HRE.out _ (HT.out _ H2.out).1 (HT.out _ H2.out).2).mono ?_
        rintro e w3 ⟨rfl, hb3⟩
        have HB3 : Hid (Below w.heap.size w w3) := HB0.out.trans ((H2.out.trans (hb3.mono H2.out.size)).mono HB0.out.size)
        clear hb3
        go_wp2
        go_ret
        exact ⟨by rw [HR.out]; rfl, HB3.out⟩
      | true =>
        have HR : Hid (res = eo) := by show res = eo; rw [HEI2.out]; first | exact if_pos rfl | exact if_pos trivial | simp
        go_enter Tryd.func7, Tryd.ntmps7
        go_wp2_with fail
        rw [← HW.out]
        refine HC.out.mono ?_
        rintro e w1 ⟨rfl, hb1⟩
        have H1 : Hid (Below W.heap.size W w1) := hb1
        obtain ⟨m0, m1, m2, m3⟩ := HK.out w1 hb1
        clear hb1
        go_wp2_with fail
        refine (HI.out _).mono ?_
        rintro e w2 ⟨rfl, hb2⟩
        have H2 : Hid (Below W.heap.size W w2) := H1.out.trans (hb2.mono H1.out.size)
        clear hb2 m0 m1 m2 m3
        go_wp2_with fail
        refine (HL.out _).mono ?_
        rintro e w' ⟨rfl, rfl⟩
        go_wp2_with fail
        refine (HRE.out _ (HT.out _ H2.out).1 (HT.out _ H2.out).2).mono ?_
        rintro e w3 ⟨rfl, hb3⟩
        have HB3 : Hid (Below w.heap.size w w3) := HB0.out.trans ((H2.out.trans (hb3.mono H2.out.size)).mono HB0.out.size)
        clear hb3
        go_wp2
        go_ret
        exact ⟨by rw [HR.out]; rfl, HB3.out⟩
theorem l5Image_any (w : World) (n1 n2 n3 : Int) (a : Option Addr) (cap : Nat) (xs : List ByteArray) (s : ByteArray) (_hs : s.size ≤ 1048576) (hn : xs.length ≤ 1048576) (hl : Strs w a xs) (hz : ∀ i (hi : i < xs.length), xs[i].size ≤ 1048576) :
    Calls Tryd.prog 10 #[.agg #[.int .i64 n1, .int .i64 n2, .int .i64 n3, .slice a xs.length cap], .string s] w fun e w' => e = .returned (.bool (imageB n1 n2 n3 xs s)) ∧ Below w.heap.size w w' := by
  obtain ⟨W, hW⟩ : ∃ W, W = w.alloc (.cells #[.int .i64 n1, .int .i64 n2, .int .i64 n3, .slice a xs.length cap] 27) := ⟨_, rfl⟩
  have hb0 : Below w.heap.size w W := by rw [hW]; exact (Below.refl _ _).alloc (Nat.le_refl _) _
  have hsz : w.heap.size < W.heap.size := by rw [hW]; simp
  have HK : Hid (∀ w', Below W.heap.size W w' → w'.cell? ⟨w.heap.size, 0, none⟩ = some (.int .i64 n1)) := fun w' h => by rw [h.cell (p := ⟨w.heap.size, 0, none⟩) hsz, hW, World.cell?_alloc_new]; rfl
  have HW : Hid (W = w.alloc (.cells #[.int .i64 n1, .int .i64 n2, .int .i64 n3, .slice a xs.length cap] 27)) := hW
  have HB0 : Hid (Below w.heap.size w W) := hb0
  have HC : Hid (Calls _ _ _ _ _) := spec_conf W n1 n2 n3 a cap xs hn (hl.below hb0) hz
  have HIB : Hid (imageB n1 n2 n3 xs s = (configOk n1 n2 n3 xs && decide ((s.size : Int) = 64 * n1))) := rfl
  have hcl := @conf_lines n1 n2 n3 xs
  generalize imageB n1 n2 n3 xs s = ib at HIB ⊢
  clear hW hb0 hl hz
  cases hc : configOk n1 n2 n3 xs with
  | false =>
    rw [hc] at HC HIB
    have HR : Hid (ib = false) := HIB.out
    clear hc hcl
    go_enter Tryd.func10, Tryd.ntmps10
    go_wp2_with fail
    rw [← HW.out]
    refine HC.out.mono ?_
    rintro e w1 ⟨rfl, hb1⟩
    have HB1 : Hid (Below w.heap.size w w1) := HB0.out.trans (hb1.mono HB0.out.size)
    go_wp2
    go_ret
    exact ⟨by rw [HR.out]; rfl, HB1.out⟩
  | true =>
    obtain ⟨hn8, hn128⟩ := hcl hc
    rw [hc] at HC HIB
    have HR : Hid (ib = ((s.size : Int) == 64 * n1)) := by
      show ib = _
      rw [HIB.out, Bool.true_and, Bool.eq_iff_iff]
      simp
    have hw : IntKind.i64.wrap (64 * n1) = 64 * n1 := by rw [IntKind.wrap_i64]; omega
    clear hc hcl
    go_enter Tryd.func10, Tryd.ntmps10
    go_wp2_with fail
    rw [← HW.out]
    refine HC.out.mono ?_
    rintro e w1 ⟨rfl, hb1⟩
    have HB1 : Hid (Below w.heap.size w w1) := HB0.out.trans (hb1.mono HB0.out.size)
    have m0 := HK.out w1 hb1
    clear hb1
    go_wp2
    go_ret
    exact ⟨by rw [HR.out]; rfl, HB1.out⟩
set_option maxHeartbeats 1000000 in
theorem spec_epochOf (w : World) (n1 n2 n3 : Int) (a : Option Addr) (cap : Nat) (xs : List ByteArray) (s : ByteArray) (hs : s.size ≤ 1048576) (hn : xs.length ≤ 1048576) (hl : Strs w a xs) (hz : ∀ i (hi : i < xs.length), xs[i].size ≤ 1048576) :
    Calls Tryd.prog 5 #[.agg #[.int .i64 n1, .int .i64 n2, .int .i64 n3, .slice a xs.length cap], .string s] w fun e w' => e = .returned (.int .i64 (epochIn n1 n2 n3 xs s)) ∧ Below w.heap.size w w' := by
  obtain ⟨W, hW⟩ : ∃ W, W = w.alloc (.cells #[.int .i64 n1, .int .i64 n2, .int .i64 n3, .slice a xs.length cap] 27) := ⟨_, rfl⟩
  have hb0 : Below w.heap.size w W := by rw [hW]; exact (Below.refl _ _).alloc (Nat.le_refl _) _
  have HW : Hid (W = w.alloc (.cells #[.int .i64 n1, .int .i64 n2, .int .i64 n3, .slice a xs.length cap] 27)) := hW
  have HB0 : Hid (Below w.heap.size w W) := hb0
  have HC : Hid (Calls _ _ _ _ _) := l5Image_any W n1 n2 n3 a cap xs s hs hn (hl.below hb0) hz
  have HEI : Hid (epochIn n1 n2 n3 xs s = if (imageB n1 n2 n3 xs s && epochB (lineAt s 1)) = true then epochOf (lineAt s 1) else -1) := rfl
  have hcl := @conf_lines n1 n2 n3 xs
  generalize epochIn n1 n2 n3 xs s = res at HEI ⊢
  clear hW hb0 hl hz
  cases hc : imageB n1 n2 n3 xs s with
  | false =>
    rw [hc] at HC HEI
    have HR : Hid (res = -1) := by show res = -1; rw [HEI.out]; exact if_none _ _ _
    clear hc hcl
    go_enter Tryd.func5, Tryd.ntmps5
    go_wp2_with fail
    rw [← HW.out]
    refine HC.out.mono ?_
    rintro e w1 ⟨rfl, hb1⟩
    have HB1 : Hid (Below w.heap.size w w1) := HB0.out.trans (hb1.mono HB0.out.size)
    go_wp2
    go_ret
    exact ⟨by rw [HR.out]; rfl, HB1.out⟩
  | true =>
    have h128 : 64 * 1 + 64 ≤ s.size := by
      have h := hc
      unfold imageB at h
      rw [Bool.and_eq_true] at h
      have h1 := hcl h.1
      have h2 := of_decide_eq_true h.2
      omega
    rw [hc] at HC HEI
    have HL : Hid (∀ w, Calls _ _ _ w _) := fun w => l5Line_any w s 1 hs h128
    have HRE : Hid (∀ w, Calls _ _ _ w _) := fun w => spec_read_epoch (lineAt s 1) w (lineAt_size s 1 h128)
    have HEI2 : Hid (res = if epochB (lineAt s 1) = true then epochOf (lineAt s 1) else -1) := by show res = _; rw [HEI.out]; exact if_one _ _ _
    generalize epochB (lineAt s 1) = eb at HRE HEI2
    generalize epochOf (lineAt s 1) = eo at HRE HEI2
    generalize lineAt s 1 = ln at HL HRE
    clear hc hcl h128 HEI
    cases eb with
    | false =>
      have HR : Hid (res = -1) := HEI2.out
      go_enter Tryd.func5, Tryd.ntmps5
      go_wp2_with fail
      rw [← HW.out]
      refine HC.out.mono ?_
      rintro e w1 ⟨rfl, hb1⟩
      have HB1 : Hid (Below w.heap.size w w1) := HB0.out.trans (hb1.mono HB0.out.size)
      clear hb1
      go_wp2_with fail
      refine (HL.out _).mono ?_
      rintro e w' ⟨rfl, rfl⟩
      go_wp2_with fail
      refine (HRE.out _).mono ?_
      rintro e w3 ⟨rfl, hb3⟩
      have HB3 : Hid (Below w.heap.size w w3) := HB1.out.trans (hb3.mono HB1.out.size)
      clear hb3
      go_wp2
      go_ret
      exact ⟨by rw [HR.out]; rfl, HB3.out⟩
    | true =>
      have HR : Hid (res = eo) := by show res = eo; rw [HEI2.out]; first | exact if_pos rfl | exact if_pos trivial | simp
      go_enter Tryd.func5, Tryd.ntmps5
      go_wp2_with fail
      rw [← HW.out]
      refine HC.out.mono ?_
      rintro e w1 ⟨rfl, hb1⟩
      have HB1 : Hid (Below w.heap.size w w1) := HB0.out.trans (hb1.mono HB0.out.size)
      clear hb1
      go_wp2_with fail
      refine (HL.out _).mono ?_
      rintro e w' ⟨rfl, rfl⟩
      go_wp2_with fail
      refine (HRE.out _).mono ?_
      rintro e w3 ⟨rfl, hb3⟩
      have HB3 : Hid (Below w.heap.size w w3) := HB1.out.trans (hb3.mono HB1.out.size)
      clear hb3
      go_wp2
      go_ret
      exact ⟨by rw [HR.out]; rfl, HB3.out⟩
end Go.Proofs.YtmininipllohjaaDoor.crc
