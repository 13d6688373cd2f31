/-
  OldObject, by the program and by the specification, whatever comes in.
-/
import Derived.Test.YthmohmfkgoipkaaOld3
namespace Go.Proofs.Ythmohmfkgoipkaa.img
open Go.RowKit
open kinds ints wmath num obj ref later

theorem oo_lines {n1 n2 n3 : Int} {xs : List ByteArray} {s : ByteArray} (h : imageB n1 n2 n3 xs s = true) : (s.size : Int) = 64 * n1 ∧ 8 ≤ n1 ∧ n1 ≤ 128 ∧ 1 ≤ n2 ∧ n2 ≤ 32 := by
  unfold imageB at h
  rw [Bool.and_eq_true] at h
  have h1 := conf_lines h.1
  have h2 := of_decide_eq_true h.2
  omega
theorem data_nat {n1 n2 l : Int} (h : dataB n1 n2 l = true) (hn : 1 ≤ n2) : ∃ L : Nat, l = (L : Int) ∧ (L : Int) + 1 ≤ n1 := by
  unfold dataB at h
  simp at h
  obtain ⟨L, rfl⟩ := Int.eq_ofNat_of_zero_le (show 0 ≤ l by omega)
  exact ⟨L, rfl, by omega⟩
set_option maxHeartbeats 1000000 in
set_option maxRecDepth 20000 in
theorem anyAt_no (w : World) (n1 n2 n3 : Int) (a : Option Addr) (cap : Nat) (xs : List ByteArray) (s : ByteArray) (l : Int) (h1 : 8 ≤ n1) (h2 : n1 ≤ 128) (hl : Strs w a xs) (hd : dataB n1 n2 l = false) :
    Calls Try.prog 46 #[.agg #[.int .i64 n1, .int .i64 n2, .int .i64 n3, .slice a xs.length cap, .string s, .int .i64 (4 + n2)], .int .i64 l] w fun e w' => OoAns 0 [] false w e w' ∧ Below w.heap.size w w' := by
  obtain ⟨V, hV⟩ : ∃ V, V = w.alloc (.cells #[.int .i64 n1, .int .i64 n2, .int .i64 n3, .slice a xs.length cap, .string s, .int .i64 (4 + n2)] 49) := ⟨_, rfl⟩
  have hv0 : Below w.heap.size w V := by rw [hV]; exact (Below.refl _ _).alloc (Nat.le_refl _) _
  have hbv : Box6 w.heap.size n1 n2 n3 (.slice a xs.length cap) (.string s) (.int .i64 (4 + n2)) V := by rw [hV]; exact Box6.start _ _ _ _ _ _ _ _
  obtain ⟨W, hW⟩ : ∃ W, W = V.alloc (.cells #[.int .i64 0, .slice none 0 0] 37) := ⟨_, rfl⟩
  have hp0 : Pair V W := by rw [hW]; exact Pair.start V _
  have hvw : Below V.heap.size V W := by rw [hW]; exact (Below.refl _ _).alloc (Nat.le_refl _) _
  have hbx := hbv.below hvw
  have HV : Hid (V = w.alloc (.cells #[.int .i64 n1, .int .i64 n2, .int .i64 n3, .slice a xs.length cap, .string s, .int .i64 (4 + n2)] 49)) := hV
  have HW : Hid (W = V.alloc (.cells #[.int .i64 0, .slice none 0 0] 37)) := hW
  have HVS : Hid (V.heap.size = w.heap.size + 1) := by show V.heap.size = _; rw [hV]; simp
  have HWL : Hid (w.heap.size + 1 < W.heap.size) := by have h1 := hp0.lt; rw [HVS.out] at h1; exact h1
  have HK : Hid (∀ w', Below W.heap.size W w' → Box6 w.heap.size n1 n2 n3 (.slice a xs.length cap) (.string s) (.int .i64 (4 + n2)) w') := fun w' h => hbx.below h
  have hlW : Strs W a xs := (hl.below hv0).below hvw
  have HLW : Hid (∀ w', Below W.heap.size W w' → Strs w' a xs) := fun w' h => hlW.below h
  have HPT : Hid (∀ wX x0 x1, Below W.heap.size W wX → Below w.heap.size w ((wX.setCell ⟨w.heap.size + 1, 0, none⟩ x0).setCell ⟨w.heap.size + 1, 1, none⟩ x1) ∧ ((wX.setCell ⟨w.heap.size + 1, 0, none⟩ x0).setCell ⟨w.heap.size + 1, 1, none⟩ x1).cell? ⟨w.heap.size + 1, 0, none⟩ = some x0 ∧ ((wX.setCell ⟨w.heap.size + 1, 0, none⟩ x0).setCell ⟨w.heap.size + 1, 1, none⟩ x1).cell? ⟨w.heap.size + 1, 1, none⟩ = some x1) := fun wX x0 x1 h => by
    have h1 := (hp0.later h).put x0 x1
    have e0 := (hp0.later h).cell 0 _ rfl
    have e1 := (hp0.later h).cell 1 _ rfl
    have h2 := pair_set e0 e1 x0 x1
    rw [HVS.out] at h1 h2
    exact ⟨hv0.trans (h1.mono (by omega)), h2.1, h2.2⟩
  have HFR : Hid (∀ wX, Below W.heap.size W wX → (∃ v, wX.cell? ⟨w.heap.size + 1, 0, none⟩ = some v) ∧ (∃ v, wX.cell? ⟨w.heap.size + 1, 1, none⟩ = some v) ∧ wX.frozen? ⟨w.heap.size + 1, 0, none⟩ = false ∧ wX.frozen? ⟨w.heap.size + 1, 1, none⟩ = false) := fun wX h => by
    have e0 := (hp0.later h).cell 0 _ rfl
    have e1 := (hp0.later h).cell 1 _ rfl
    have f0 := (hp0.later h).free 0
    have f1 := (hp0.later h).free 1
    rw [HVS.out] at e0 e1 f0 f1
    exact ⟨⟨_, e0⟩, ⟨_, e1⟩, f0, f1⟩
  have HDA : Hid (∀ w, Calls Try.prog 41 #[.agg #[.int .i64 n1, .int .i64 n2, .int .i64 n3, .slice a xs.length cap, .string s, .int .i64 (4 + n2)], .int .i64 l] w fun e w' => e = .returned (.bool false) ∧ Below w.heap.size w w') := fun w => (isData_any w n1 n2 n3 (4 + n2) l a xs.length cap s h1 h2).mono fun e w' h => by
    unfold dataB at hd
    rw [hd] at h
    exact h
  obtain ⟨f, hf⟩ : ∃ f, f = 4 + n2 := ⟨_, rfl⟩
  rw [← hf] at HV HK HDA ⊢
  clear hV hv0 hbv hW hp0 hvw hbx hl hlW hd hf HLW
  obtain ⟨rt, hrt⟩ : ∃ r : Int, r = 0 := ⟨_, rfl⟩
  have HRT0 : Hid (rt = 0) := hrt
  obtain ⟨rv, hrv⟩ : ∃ r : List Int, r = [] := ⟨_, rfl⟩
  have HRV0 : Hid (rv = []) := hrv
  obtain ⟨ob, hob⟩ : ∃ r : Bool, r = false := ⟨_, rfl⟩
  have HOF : Hid (ob = false) := hob
  rw [← hrt, ← hrv, ← hob]
  clear hrt hrv hob
  go_enter Try.func46, Try.ntmps46
  obtain ⟨m0, m1, m2, m3, m4, m5⟩ := HK.out W (Below.refl _ _)
  go_wp2_with fail
  rw [← HV.out, ← HW.out]
  refine (HDA.out _).mono ?_
  rintro e w1 ⟨rfl, hb1⟩
  have HB4 : Hid (Below W.heap.size W w1) := hb1
  clear m0 m1 m2 m3 m4 m5 hb1
  obtain ⟨⟨v0, e0⟩, ⟨v1, e1⟩, f0, f1⟩ := HFR.out w1 HB4.out
  obtain ⟨hbE, q0, q1⟩ := HPT.out w1 (.int .i64 0) (.slice none 0 0) HB4.out
  have HBE : Hid (Below w.heap.size w ((w1.setCell ⟨w.heap.size + 1, 0, none⟩ (.int .i64 0)).setCell ⟨w.heap.size + 1, 1, none⟩ (.slice none 0 0))) := hbE
  have HQ : Hid (_ ∧ _) := And.intro q0 q1
  clear hbE q0 q1
  go_wp2
  refine bodyPost_ret (v := .tuple #[.agg #[.int .i64 0, .slice none 0 0], .bool false]) ?_ rfl ⟨by rw [HRT0.out, HRV0.out, HOF.out]; exact oo_no rfl HBE.out, HBE.out⟩
  obtain ⟨q0, q1⟩ := HQ.out
  simp [results, Try.results46, go_sem, q0, q1]
set_option maxHeartbeats 1000000 in
set_option maxRecDepth 20000 in
theorem objectAt_no (w : World) (n1 n2 n3 : Int) (a : Option Addr) (cap : Nat) (xs : List ByteArray) (s : ByteArray) (l : Int) (h1 : 8 ≤ n1) (h2 : n1 ≤ 128) (hl : Strs w a xs) (hd : dataB n1 n2 l = false) :
    Calls Try.prog 31 #[.agg #[.int .i64 n1, .int .i64 n2, .int .i64 n3, .slice a xs.length cap, .string s, .int .i64 (4 + n2)], .int .i64 l] w fun e w' => OoAns 0 [] false w e w' ∧ Below w.heap.size w w' := by
  obtain ⟨V, hV⟩ : ∃ V, V = w.alloc (.cells #[.int .i64 n1, .int .i64 n2, .int .i64 n3, .slice a xs.length cap, .string s, .int .i64 (4 + n2)] 49) := ⟨_, rfl⟩
  have hv0 : Below w.heap.size w V := by rw [hV]; exact (Below.refl _ _).alloc (Nat.le_refl _) _
  have hbv : Box6 w.heap.size n1 n2 n3 (.slice a xs.length cap) (.string s) (.int .i64 (4 + n2)) V := by rw [hV]; exact Box6.start _ _ _ _ _ _ _ _
  obtain ⟨W, hW⟩ : ∃ W, W = V.alloc (.cells #[.int .i64 0, .slice none 0 0] 37) := ⟨_, rfl⟩
  have hp0 : Pair V W := by rw [hW]; exact Pair.start V _
  have hvw : Below V.heap.size V W := by rw [hW]; exact (Below.refl _ _).alloc (Nat.le_refl _) _
  have hbx := hbv.below hvw
  have HV : Hid (V = w.alloc (.cells #[.int .i64 n1, .int .i64 n2, .int .i64 n3, .slice a xs.length cap, .string s, .int .i64 (4 + n2)] 49)) := hV
  have HW : Hid (W = V.alloc (.cells #[.int .i64 0, .slice none 0 0] 37)) := hW
  have HVS : Hid (V.heap.size = w.heap.size + 1) := by show V.heap.size = _; rw [hV]; simp
  have HWL : Hid (w.heap.size + 1 < W.heap.size) := by have h1 := hp0.lt; rw [HVS.out] at h1; exact h1
  have HK : Hid (∀ w', Below W.heap.size W w' → Box6 w.heap.size n1 n2 n3 (.slice a xs.length cap) (.string s) (.int .i64 (4 + n2)) w') := fun w' h => hbx.below h
  have hlW : Strs W a xs := (hl.below hv0).below hvw
  have HPT : Hid (∀ wX x0 x1, Below W.heap.size W wX → Below w.heap.size w ((wX.setCell ⟨w.heap.size + 1, 0, none⟩ x0).setCell ⟨w.heap.size + 1, 1, none⟩ x1) ∧ ((wX.setCell ⟨w.heap.size + 1, 0, none⟩ x0).setCell ⟨w.heap.size + 1, 1, none⟩ x1).cell? ⟨w.heap.size + 1, 0, none⟩ = some x0 ∧ ((wX.setCell ⟨w.heap.size + 1, 0, none⟩ x0).setCell ⟨w.heap.size + 1, 1, none⟩ x1).cell? ⟨w.heap.size + 1, 1, none⟩ = some x1) := fun wX x0 x1 h => by
    have h1 := (hp0.later h).put x0 x1
    have e0 := (hp0.later h).cell 0 _ rfl
    have e1 := (hp0.later h).cell 1 _ rfl
    have h2 := pair_set e0 e1 x0 x1
    rw [HVS.out] at h1 h2
    exact ⟨hv0.trans (h1.mono (by omega)), h2.1, h2.2⟩
  have HFR : Hid (∀ wX, Below W.heap.size W wX → (∃ v, wX.cell? ⟨w.heap.size + 1, 0, none⟩ = some v) ∧ (∃ v, wX.cell? ⟨w.heap.size + 1, 1, none⟩ = some v) ∧ wX.frozen? ⟨w.heap.size + 1, 0, none⟩ = false ∧ wX.frozen? ⟨w.heap.size + 1, 1, none⟩ = false) := fun wX h => by
    have e0 := (hp0.later h).cell 0 _ rfl
    have e1 := (hp0.later h).cell 1 _ rfl
    have f0 := (hp0.later h).free 0
    have f1 := (hp0.later h).free 1
    rw [HVS.out] at e0 e1 f0 f1
    exact ⟨⟨_, e0⟩, ⟨_, e1⟩, f0, f1⟩
  have HAA : Hid (∀ w', Below W.heap.size W w' → Calls _ _ _ w' _) := fun w' h => anyAt_no w' n1 n2 n3 a cap xs s l h1 h2 (hlW.below h) hd
  obtain ⟨f, hf⟩ : ∃ f, f = 4 + n2 := ⟨_, rfl⟩
  rw [← hf] at HV HK HAA ⊢
  clear hV hv0 hbv hW hp0 hvw hbx hl hlW hd hf h1 h2
  obtain ⟨rt, hrt⟩ : ∃ r : Int, r = 0 := ⟨_, rfl⟩
  have HRT0 : Hid (rt = 0) := hrt
  obtain ⟨rv, hrv⟩ : ∃ r : List Int, r = [] := ⟨_, rfl⟩
  have HRV0 : Hid (rv = []) := hrv
  obtain ⟨ob, hob⟩ : ∃ r : Bool, r = false := ⟨_, rfl⟩
  have HOF : Hid (ob = false) := hob
  obtain ⟨l0, hl0⟩ : ∃ l : List Int, l = [] := ⟨_, rfl⟩
  have HL0 : Hid (l0 = []) := hl0
  have HA1 : Hid (∀ w', Below W.heap.size W w' → Calls Try.prog 46 #[.agg #[.int .i64 n1, .int .i64 n2, .int .i64 n3, .slice a xs.length cap, .string s, .int .i64 f], .int .i64 l] w' fun e w'' => OoAns 0 l0 false w' e w'' ∧ Below w'.heap.size w' w'') := fun w' h => by
    have h1 := HAA.out w' h
    rw [hl0]
    exact h1
  clear HAA hl0
  rw [← hrt, ← hrv, ← hob]
  clear hrt hrv hob
  go_enter Try.func31, Try.ntmps31
  obtain ⟨m0, m1, m2, m3, m4, m5⟩ := HK.out W (Below.refl _ _)
  go_wp2_with fail
  rw [← HV.out, ← HW.out]
  refine (HA1.out _ (Below.refl _ _)).mono ?_
  intro e0 w2 hq
  obtain ⟨aR, gR, cR, rfl, hgR, hin2, hown, hb2⟩ := oo_open hq.1
  obtain ⟨n, hnn⟩ : ∃ n, n = l0.length := ⟨_, rfl⟩
  rw [← hnn]
  obtain ⟨Y, hY⟩ : ∃ Y, Y = w2.alloc (.cells #[.int .i64 0, .slice aR n cR] 37) := ⟨_, rfl⟩
  have HY : Hid (Y = w2.alloc (.cells #[.int .i64 0, .slice aR n cR] 37)) := hY
  have hby : Below w2.heap.size w2 Y := by rw [hY]; exact (Below.refl _ _).alloc (Nat.le_refl _) _
  have HBY : Hid (Below W.heap.size W Y) := hb2.trans (hby.mono hb2.size)
  obtain ⟨yb, hyb⟩ : ∃ y, y = w2.heap.size := ⟨_, rfl⟩
  have HYB : Hid (yb = w2.heap.size) := hyb
  have hne := some_later Y
  clear hY hby hb2 hq hgR hin2 hown hyb m0 m1 m2 m3 m4 m5 hnn
  go_wp2
  rw [← HY.out]
  try rw [← HYB.out]
  refine region_later (by kernel_rfl) (by kernel_rfl) ?_
  repeat (go_big_quiet_step (fail))
  refine wpQuiet_nil ?_
  intro w' hw'
  obtain ⟨nn, rfl⟩ := hw'
  have HB4 : Hid (Below W.heap.size W nn.world) := HBY.out.trans (nn.below.mono HBY.out.size)
  generalize nn.world = w4 at HB4 ⊢
  obtain ⟨⟨v0, e0⟩, ⟨v1, e1⟩, f0, f1⟩ := HFR.out w4 HB4.out
  obtain ⟨hbE, q0, q1⟩ := HPT.out w4 (.int .i64 0) (.slice none 0 0) HB4.out
  have HBE : Hid (Below w.heap.size w ((w4.setCell ⟨w.heap.size + 1, 0, none⟩ (.int .i64 0)).setCell ⟨w.heap.size + 1, 1, none⟩ (.slice none 0 0))) := hbE
  have HQ : Hid (_ ∧ _) := And.intro q0 q1
  clear hbE q0 q1
  go_wp2
  refine bodyPost_ret (v := .tuple #[.agg #[.int .i64 0, .slice none 0 0], .bool false]) ?_ rfl ⟨by rw [HRT0.out, HRV0.out, HOF.out]; exact oo_no rfl HBE.out, HBE.out⟩
  obtain ⟨q0, q1⟩ := HQ.out
  simp [results, Try.results31, go_sem, q0, q1]
set_option maxHeartbeats 2000000 in
set_option maxRecDepth 20000 in
theorem spec_old (w : World) (n1 n2 n3 : Int) (a : Option Addr) (cap : Nat) (xs : List ByteArray) (s : ByteArray) (l : Int) (hs : s.size ≤ 1048576) (hn : xs.length ≤ 1048576) (hl : Strs w a xs) (hz : ∀ i (hi : i < xs.length), xs[i].size ≤ 1048576) :
    Calls Try.prog 14 #[.agg #[.int .i64 n1, .int .i64 n2, .int .i64 n3, .slice a xs.length cap], .string s, .int .i64 l] w fun e w' => OoAns (ooT n1 n2 n3 xs s l) (ooV n1 n2 n3 xs s l) (ooB n1 n2 n3 xs s l) w e w' ∧ Below w.heap.size w w' := by
  obtain ⟨V, hV⟩ : ∃ V, V = w.alloc (.cells #[.int .i64 n1, .int .i64 n2, .int .i64 n3, .slice a xs.length cap] 29) := ⟨_, rfl⟩
  have hv0 : Below w.heap.size w V := by rw [hV]; exact (Below.refl _ _).alloc (Nat.le_refl _) _
  have hbv : Box4 w.heap.size n1 n2 n3 (.slice a xs.length cap) V := by rw [hV]; exact Box4.start _ _ _ _ _ _
  obtain ⟨W, hW⟩ : ∃ W, W = V.alloc (.cells #[.int .i64 0, .slice none 0 0] 37) := ⟨_, rfl⟩
  have hp0 : Pair V W := by rw [hW]; exact Pair.start V _
  have hvw : Below V.heap.size V W := by rw [hW]; exact (Below.refl _ _).alloc (Nat.le_refl _) _
  have hbx := hbv.below hvw
  have HV : Hid (V = w.alloc (.cells #[.int .i64 n1, .int .i64 n2, .int .i64 n3, .slice a xs.length cap] 29)) := hV
  have HW : Hid (W = V.alloc (.cells #[.int .i64 0, .slice none 0 0] 37)) := hW
  have HVS : Hid (V.heap.size = w.heap.size + 1) := by show V.heap.size = _; rw [hV]; simp
  have HWL : Hid (w.heap.size + 1 < W.heap.size) := by have h1 := hp0.lt; rw [HVS.out] at h1; exact h1
  have HK : Hid (∀ w', Below W.heap.size W w' → Box4 w.heap.size n1 n2 n3 (.slice a xs.length cap) w') := fun w' h => hbx.below h
  have hlW : Strs W a xs := (hl.below hv0).below hvw
  have HLW : Hid (∀ w', Below W.heap.size W w' → Strs w' a xs) := fun w' h => hlW.below h
  have HPT : Hid (∀ wX x0 x1, Below W.heap.size W wX → Below w.heap.size w ((wX.setCell ⟨w.heap.size + 1, 0, none⟩ x0).setCell ⟨w.heap.size + 1, 1, none⟩ x1) ∧ ((wX.setCell ⟨w.heap.size + 1, 0, none⟩ x0).setCell ⟨w.heap.size + 1, 1, none⟩ x1).cell? ⟨w.heap.size + 1, 0, none⟩ = some x0 ∧ ((wX.setCell ⟨w.heap.size + 1, 0, none⟩ x0).setCell ⟨w.heap.size + 1, 1, none⟩ x1).cell? ⟨w.heap.size + 1, 1, none⟩ = some x1) := fun wX x0 x1 h => by
    have h1 := (hp0.later h).put x0 x1
    have e0 := (hp0.later h).cell 0 _ rfl
    have e1 := (hp0.later h).cell 1 _ rfl
    have h2 := pair_set e0 e1 x0 x1
    rw [HVS.out] at h1 h2
    exact ⟨hv0.trans (h1.mono (by omega)), h2.1, h2.2⟩
  have HFR : Hid (∀ wX, Below W.heap.size W wX → (∃ v, wX.cell? ⟨w.heap.size + 1, 0, none⟩ = some v) ∧ (∃ v, wX.cell? ⟨w.heap.size + 1, 1, none⟩ = some v) ∧ wX.frozen? ⟨w.heap.size + 1, 0, none⟩ = false ∧ wX.frozen? ⟨w.heap.size + 1, 1, none⟩ = false) := fun wX h => by
    have e0 := (hp0.later h).cell 0 _ rfl
    have e1 := (hp0.later h).cell 1 _ rfl
    have f0 := (hp0.later h).free 0
    have f1 := (hp0.later h).free 1
    rw [HVS.out] at e0 e1 f0 f1
    exact ⟨⟨_, e0⟩, ⟨_, e1⟩, f0, f1⟩
  have HIM : Hid (Calls _ _ _ _ _) := l5Image_any W n1 n2 n3 a cap xs s hs hn hlW hz
  have HDL : Hid (imageB n1 n2 n3 xs s = true → ∀ w, Calls _ _ _ w _) := fun h w => l10Line_any w n1 n2 l (.int .i64 n3) (.slice a xs.length cap) (oo_lines h).2.1 (oo_lines h).2.2.1 (oo_lines h).2.2.2.1 (oo_lines h).2.2.2.2
  have HOL : Hid (imageB n1 n2 n3 xs s = true → ∀ L : Nat, (L : Int) + 1 ≤ n1 → ∀ w', Below W.heap.size W w' → Calls _ _ _ w' _) := fun h L hL w' q => l10Old_any w' n1 n2 n3 a cap xs s L (oo_lines h).2.1 (oo_lines h).2.2.1 (oo_lines h).2.2.2.1 (oo_lines h).2.2.2.2 (by have := oo_lines h; omega) hn (hlW.below q) hz (by have := oo_lines h; omega)
  have HDN : Hid (imageB n1 n2 n3 xs s = true → dataB n1 n2 l = true → ∃ L : Nat, l = (L : Int) ∧ (L : Int) + 1 ≤ n1) := fun h q => data_nat q (oo_lines h).2.2.2.1
  have HOOB : Hid (ooB n1 n2 n3 xs s l = ((imageB n1 n2 n3 xs s && dataB n1 n2 l) && lineB n1 n2 xs s l.toNat)) := rfl
  generalize hrt : ooT n1 n2 n3 xs s l = rt
  generalize hrv : ooV n1 n2 n3 xs s l = rv
  unfold ooT at hrt
  unfold ooV at hrv
  generalize hob : ooB n1 n2 n3 xs s l = ob at HOOB hrt hrv ⊢
  have HRT : Hid (rt = if ob = true then roT xs (subL s l.toNat (runL xs s l.toNat)) else 0) := hrt.symm
  have HRV : Hid (rv = if ob = true then roV xs (subL s l.toNat (runL xs s l.toNat)) else []) := hrv.symm
  clear hV hv0 hbv hW hp0 hvw hbx hl hrt hrv hob hlW hz HLW
  obtain ⟨m0, m1, m2, m3⟩ := HK.out W (Below.refl _ _)
  cases hi : imageB n1 n2 n3 xs s with
  | false =>
    rw [hi] at HIM HOOB
    have HOF : Hid (ob = false) := by show ob = false; rw [HOOB.out, Bool.false_and, Bool.false_and]
    have HRT0 : Hid (rt = 0) := by show rt = 0; rw [HRT.out, HOF.out]; exact if_neg (by decide)
    have HRV0 : Hid (rv = []) := by show rv = []; rw [HRV.out, HOF.out]; exact if_neg (by decide)
    clear hi HDL HOL HDN HOOB
    go_enter Try.func14, Try.ntmps14
    go_wp2_with fail
    rw [← HV.out, ← HW.out]
    refine HIM.out.mono ?_
    rintro e w1 ⟨rfl, hb1⟩
    have HB4 : Hid (Below W.heap.size W w1) := hb1
    clear hb1 m0 m1 m2 m3
    obtain ⟨⟨v0, e0⟩, ⟨v1, e1⟩, f0, f1⟩ := HFR.out w1 HB4.out
    obtain ⟨hbE, q0, q1⟩ := HPT.out w1 (.int .i64 0) (.slice none 0 0) HB4.out
    have HBE : Hid (Below w.heap.size w ((w1.setCell ⟨w.heap.size + 1, 0, none⟩ (.int .i64 0)).setCell ⟨w.heap.size + 1, 1, none⟩ (.slice none 0 0))) := hbE
    have HQ : Hid (_ ∧ _) := And.intro q0 q1
    clear hbE q0 q1
    go_wp2
    refine bodyPost_ret (v := .tuple #[.agg #[.int .i64 0, .slice none 0 0], .bool false]) ?_ rfl ⟨by rw [HRT0.out, HRV0.out, HOF.out]; exact oo_no rfl HBE.out, HBE.out⟩
    obtain ⟨q0, q1⟩ := HQ.out
    simp [results, Try.results14, go_sem, q0, q1]
  | true =>
    rw [hi, Bool.true_and] at HOOB
    have HD2 : Hid (∀ w, Calls _ _ _ w _) := HDL.out hi
    have HO2 : Hid (∀ L : Nat, (L : Int) + 1 ≤ n1 → ∀ w', Below W.heap.size W w' → _) := HOL.out hi
    have HN2 : Hid (dataB n1 n2 l = true → ∃ L : Nat, l = (L : Int) ∧ (L : Int) + 1 ≤ n1) := HDN.out hi
    rw [hi] at HIM
    clear hi HDL HOL HDN
    cases hd : dataB n1 n2 l with
    | false =>
      rw [hd] at HD2 HOOB
      have HOF : Hid (ob = false) := by show ob = false; rw [HOOB.out, Bool.false_and]
      have HRT0 : Hid (rt = 0) := by show rt = 0; rw [HRT.out, HOF.out]; exact if_neg (by decide)
      have HRV0 : Hid (rv = []) := by show rv = []; rw [HRV.out, HOF.out]; exact if_neg (by decide)
      clear hd HO2 HN2 HOOB
      go_enter Try.func14, Try.ntmps14
      go_wp2_with fail
      rw [← HV.out, ← HW.out]
      refine HIM.out.mono ?_
      rintro e w1 ⟨rfl, hb1⟩
      have HB1 : Hid (Below W.heap.size W w1) := hb1
      clear hb1 m0 m1 m2 m3
      obtain ⟨m0, m1, m2, m3⟩ := HK.out w1 HB1.out
      go_wp2_with fail
      refine (HD2.out _).mono ?_
      rintro e w2 ⟨rfl, hb2⟩
      have HB4 : Hid (Below W.heap.size W w2) := HB1.out.trans (hb2.mono HB1.out.size)
      clear hb2 m0 m1 m2 m3
      obtain ⟨⟨v0, e0⟩, ⟨v1, e1⟩, f0, f1⟩ := HFR.out w2 HB4.out
      obtain ⟨hbE, q0, q1⟩ := HPT.out w2 (.int .i64 0) (.slice none 0 0) HB4.out
      have HBE : Hid (Below w.heap.size w ((w2.setCell ⟨w.heap.size + 1, 0, none⟩ (.int .i64 0)).setCell ⟨w.heap.size + 1, 1, none⟩ (.slice none 0 0))) := hbE
      have HQ : Hid (_ ∧ _) := And.intro q0 q1
      clear hbE q0 q1
      go_wp2
      refine bodyPost_ret (v := .tuple #[.agg #[.int .i64 0, .slice none 0 0], .bool false]) ?_ rfl ⟨by rw [HRT0.out, HRV0.out, HOF.out]; exact oo_no rfl HBE.out, HBE.out⟩
      obtain ⟨q0, q1⟩ := HQ.out
      simp [results, Try.results14, go_sem, q0, q1]
    | true =>
      rw [hd, Bool.true_and] at HOOB
      obtain ⟨L, rfl, hL⟩ := HN2.out hd
      rw [hd] at HD2
      rw [Int.toNat_natCast] at HOOB HRT HRV
      have HCL : Hid (∀ w', Below W.heap.size W w' → Calls Try.prog 30 #[.agg #[.int .i64 n1, .int .i64 n2, .int .i64 n3, .slice a xs.length cap], .string s, .int .i64 (L : Int)] w' fun e w'' => OoAns rt rv ob w' e w'' ∧ Below w'.heap.size w' w'') := fun w' q => (HO2.out L hL w' q).mono fun e w'' h => by
        rw [HRT.out, HRV.out, HOOB.out]
        exact h
      clear hd HO2 HN2 HOOB HRT HRV
      go_enter Try.func14, Try.ntmps14
      go_wp2_with fail
      rw [← HV.out, ← HW.out]
      refine HIM.out.mono ?_
      rintro e w1 ⟨rfl, hb1⟩
      have HB1 : Hid (Below W.heap.size W w1) := hb1
      clear hb1 m0 m1 m2 m3
      obtain ⟨m0, m1, m2, m3⟩ := HK.out w1 HB1.out
      go_wp2_with fail
      refine (HD2.out _).mono ?_
      rintro e w2 ⟨rfl, hb2⟩
      have HB2 : Hid (Below W.heap.size W w2) := HB1.out.trans (hb2.mono HB1.out.size)
      clear hb2 m0 m1 m2 m3
      obtain ⟨m0, m1, m2, m3⟩ := HK.out w2 HB2.out
      go_wp2_with fail
      refine (HCL.out w2 HB2.out).mono ?_
      rintro e w5 ⟨hoo, _⟩
      clear m0 m1 m2 m3
      obtain ⟨aR, gR, cR, rfl, hgR, _, hown, hb5⟩ := oo_open hoo
      have HB4 : Hid (Below W.heap.size W w5) := HB2.out.trans (hb5.mono HB2.out.size)
      have HOW : Hid (w5.ownsRow W.heap.size 2 1 (.slice aR rv.length cR) rv.length (rv.map (Value.int .i64))) := own_mono hown HB2.out.size
      clear hoo hgR hown hb5
      obtain ⟨⟨v0, e0⟩, ⟨v1, e1⟩, f0, f1⟩ := HFR.out w5 HB4.out
      obtain ⟨hbE, q0, q1⟩ := HPT.out w5 (.int .i64 rt) (.slice aR rv.length cR) HB4.out
      have HBE : Hid (Below w.heap.size w ((w5.setCell ⟨w.heap.size + 1, 0, none⟩ (.int .i64 rt)).setCell ⟨w.heap.size + 1, 1, none⟩ (.slice aR rv.length cR))) := hbE
      have HQ : Hid (_ ∧ _) := And.intro q0 q1
      clear hbE q0 q1
      go_wp2
      refine bodyPost_ret (v := .tuple #[.agg #[.int .i64 rt, .slice aR rv.length cR], .bool ob]) ?_ rfl ⟨⟨.slice aR rv.length cR, rfl, own_mono (row_aside (row_aside HOW.out HWL.out) HWL.out) (by have := HWL.out; omega), HBE.out⟩, HBE.out⟩
      obtain ⟨q0, q1⟩ := HQ.out
      simp [results, Try.results14, go_sem, q0, q1]
set_option maxHeartbeats 2000000 in
set_option maxRecDepth 20000 in
theorem impl_old (w : World) (n1 n2 n3 : Int) (a : Option Addr) (cap : Nat) (xs : List ByteArray) (s : ByteArray) (l : Int) (hs : s.size ≤ 1048576) (hn : xs.length ≤ 1048576) (hl : Strs w a xs) (hz : ∀ i (hi : i < xs.length), xs[i].size ≤ 1048576) :
    Calls Try.prog 15 #[.agg #[.int .i64 n1, .int .i64 n2, .int .i64 n3, .slice a xs.length cap], .string s, .int .i64 l] w fun e w' => OoAns (ooT n1 n2 n3 xs s l) (ooV n1 n2 n3 xs s l) (ooB n1 n2 n3 xs s l) w e w' ∧ Below w.heap.size w w' := by
  obtain ⟨V, hV⟩ : ∃ V, V = w.alloc (.cells #[.int .i64 n1, .int .i64 n2, .int .i64 n3, .slice a xs.length cap] 29) := ⟨_, rfl⟩
  have hv0 : Below w.heap.size w V := by rw [hV]; exact (Below.refl _ _).alloc (Nat.le_refl _) _
  have hbv : Box4 w.heap.size n1 n2 n3 (.slice a xs.length cap) V := by rw [hV]; exact Box4.start _ _ _ _ _ _
  obtain ⟨W, hW⟩ : ∃ W, W = V.alloc (.cells #[.int .i64 0, .slice none 0 0] 37) := ⟨_, rfl⟩
  have hp0 : Pair V W := by rw [hW]; exact Pair.start V _
  have hvw : Below V.heap.size V W := by rw [hW]; exact (Below.refl _ _).alloc (Nat.le_refl _) _
  have hbx := hbv.below hvw
  have HV : Hid (V = w.alloc (.cells #[.int .i64 n1, .int .i64 n2, .int .i64 n3, .slice a xs.length cap] 29)) := hV
  have HW : Hid (W = V.alloc (.cells #[.int .i64 0, .slice none 0 0] 37)) := hW
  have HVS : Hid (V.heap.size = w.heap.size + 1) := by show V.heap.size = _; rw [hV]; simp
  have HWL : Hid (w.heap.size + 1 < W.heap.size) := by have h1 := hp0.lt; rw [HVS.out] at h1; exact h1
  have HK : Hid (∀ w', Below W.heap.size W w' → Box4 w.heap.size n1 n2 n3 (.slice a xs.length cap) w') := fun w' h => hbx.below h
  have hlW : Strs W a xs := (hl.below hv0).below hvw
  have HLW : Hid (∀ w', Below W.heap.size W w' → Strs w' a xs) := fun w' h => hlW.below h
  have HPT : Hid (∀ wX x0 x1, Below W.heap.size W wX → Below w.heap.size w ((wX.setCell ⟨w.heap.size + 1, 0, none⟩ x0).setCell ⟨w.heap.size + 1, 1, none⟩ x1) ∧ ((wX.setCell ⟨w.heap.size + 1, 0, none⟩ x0).setCell ⟨w.heap.size + 1, 1, none⟩ x1).cell? ⟨w.heap.size + 1, 0, none⟩ = some x0 ∧ ((wX.setCell ⟨w.heap.size + 1, 0, none⟩ x0).setCell ⟨w.heap.size + 1, 1, none⟩ x1).cell? ⟨w.heap.size + 1, 1, none⟩ = some x1) := fun wX x0 x1 h => by
    have h1 := (hp0.later h).put x0 x1
    have e0 := (hp0.later h).cell 0 _ rfl
    have e1 := (hp0.later h).cell 1 _ rfl
    have h2 := pair_set e0 e1 x0 x1
    rw [HVS.out] at h1 h2
    exact ⟨hv0.trans (h1.mono (by omega)), h2.1, h2.2⟩
  have HFR : Hid (∀ wX, Below W.heap.size W wX → (∃ v, wX.cell? ⟨w.heap.size + 1, 0, none⟩ = some v) ∧ (∃ v, wX.cell? ⟨w.heap.size + 1, 1, none⟩ = some v) ∧ wX.frozen? ⟨w.heap.size + 1, 0, none⟩ = false ∧ wX.frozen? ⟨w.heap.size + 1, 1, none⟩ = false) := fun wX h => by
    have e0 := (hp0.later h).cell 0 _ rfl
    have e1 := (hp0.later h).cell 1 _ rfl
    have f0 := (hp0.later h).free 0
    have f1 := (hp0.later h).free 1
    rw [HVS.out] at e0 e1 f0 f1
    exact ⟨⟨_, e0⟩, ⟨_, e1⟩, f0, f1⟩
  have HON : Hid (imageB n1 n2 n3 xs s = false → Calls _ _ _ W _) := fun h => opened_no W n1 n2 n3 a cap xs s hs hn hlW hz h
  have HOY : Hid (imageB n1 n2 n3 xs s = true → Calls _ _ _ W _) := fun h => opened_yes W n1 n2 n3 a cap xs s hs hn hlW hz h
  have HOL : Hid (imageB n1 n2 n3 xs s = true → ∀ L : Nat, dataB n1 n2 (L : Int) = true → ∀ w', Below W.heap.size W w' → Calls _ _ _ w' _) := fun h L hL w' q => objectAt_any w' n1 n2 n3 a cap xs s L (oo_lines h).2.1 (oo_lines h).2.2.1 hn (hlW.below q) hz (oo_lines h).1 hL
  have HOF0 : Hid (imageB n1 n2 n3 xs s = true → dataB n1 n2 l = false → ∀ w', Below W.heap.size W w' → Calls Try.prog 31 #[.agg #[.int .i64 n1, .int .i64 n2, .int .i64 n3, .slice a xs.length cap, .string s, .int .i64 (4 + n2)], .int .i64 l] w' fun e w'' => OoAns 0 [] false w' e w'' ∧ Below w'.heap.size w' w'') := fun h q w' q2 => objectAt_no w' n1 n2 n3 a cap xs s l (oo_lines h).2.1 (oo_lines h).2.2.1 (hlW.below q2) q
  have HDN : Hid (imageB n1 n2 n3 xs s = true → dataB n1 n2 l = true → ∃ L : Nat, l = (L : Int) ∧ (L : Int) + 1 ≤ n1) := fun h q => data_nat q (oo_lines h).2.2.2.1
  have HOOB : Hid (ooB n1 n2 n3 xs s l = ((imageB n1 n2 n3 xs s && dataB n1 n2 l) && lineB n1 n2 xs s l.toNat)) := rfl
  generalize hrt : ooT n1 n2 n3 xs s l = rt
  generalize hrv : ooV n1 n2 n3 xs s l = rv
  unfold ooT at hrt
  unfold ooV at hrv
  generalize hob : ooB n1 n2 n3 xs s l = ob at HOOB hrt hrv ⊢
  have HRT : Hid (rt = if ob = true then roT xs (subL s l.toNat (runL xs s l.toNat)) else 0) := hrt.symm
  have HRV : Hid (rv = if ob = true then roV xs (subL s l.toNat (runL xs s l.toNat)) else []) := hrv.symm
  obtain ⟨f, hf⟩ : ∃ f, f = 4 + n2 := ⟨_, rfl⟩
  rw [← hf] at HOY HOL HOF0
  clear hV hv0 hbv hW hp0 hvw hbx hl hrt hrv hob hlW hz HLW hf
  obtain ⟨m0, m1, m2, m3⟩ := HK.out W (Below.refl _ _)
  cases hi : imageB n1 n2 n3 xs s with
  | false =>
    rw [hi] at HOOB
    have HC : Hid (Calls _ _ _ W _) := HON.out hi
    have HOF : Hid (ob = false) := by show ob = false; rw [HOOB.out, Bool.false_and, Bool.false_and]
    have HRT0 : Hid (rt = 0) := by show rt = 0; rw [HRT.out, HOF.out]; exact if_neg (by decide)
    have HRV0 : Hid (rv = []) := by show rv = []; rw [HRV.out, HOF.out]; exact if_neg (by decide)
    clear hi HOY HON HOL HDN HOOB HOF0
    go_enter Try.func15, Try.ntmps15
    go_wp2_with fail
    rw [← HV.out, ← HW.out]
    refine HC.out.mono ?_
    rintro e w1 ⟨rfl, hb1⟩
    obtain ⟨X, hX⟩ : ∃ X, X = w1.alloc (.cells #[.int .i64 0, .int .i64 0, .int .i64 0, .slice none 0 0, .string ⟨#[]⟩, .int .i64 0] 49) := ⟨_, rfl⟩
    have HX : Hid (X = w1.alloc (.cells #[.int .i64 0, .int .i64 0, .int .i64 0, .slice none 0 0, .string ⟨#[]⟩, .int .i64 0] 49)) := hX
    have HB4 : Hid (Below W.heap.size W X) := by rw [hX]; exact hb1.alloc hb1.size _
    clear hX hb1 m0 m1 m2 m3
    obtain ⟨⟨v0, e0⟩, ⟨v1, e1⟩, f0, f1⟩ := HFR.out X HB4.out
    obtain ⟨hbE, q0, q1⟩ := HPT.out X (.int .i64 0) (.slice none 0 0) HB4.out
    have HBE : Hid (Below w.heap.size w ((X.setCell ⟨w.heap.size + 1, 0, none⟩ (.int .i64 0)).setCell ⟨w.heap.size + 1, 1, none⟩ (.slice none 0 0))) := hbE
    have HQ : Hid (_ ∧ _) := And.intro q0 q1
    clear hbE q0 q1
    have hXe := HX.out
    subst hXe
    go_wp2
    refine bodyPost_ret (v := .tuple #[.agg #[.int .i64 0, .slice none 0 0], .bool false]) ?_ rfl ⟨by rw [HRT0.out, HRV0.out, HOF.out]; exact oo_no rfl HBE.out, HBE.out⟩
    obtain ⟨q0, q1⟩ := HQ.out
    simp [results, Try.results15, go_sem, q0, q1]
  | true =>
    rw [hi, Bool.true_and] at HOOB
    have HC : Hid (Calls _ _ _ W _) := HOY.out hi
    have HCL : Hid (∀ w', Below W.heap.size W w' → Calls Try.prog 31 #[.agg #[.int .i64 n1, .int .i64 n2, .int .i64 n3, .slice a xs.length cap, .string s, .int .i64 f], .int .i64 l] w' fun e w'' => OoAns rt rv ob w' e w'' ∧ Below w'.heap.size w' w'') := fun w' q => by
      cases hd : dataB n1 n2 l with
      | false =>
        have h0 : ob = false := by rw [HOOB.out, hd, Bool.false_and]
        have h1 : rt = 0 := by rw [HRT.out, h0]; exact if_neg (by decide)
        have h2 : rv = [] := by rw [HRV.out, h0]; exact if_neg (by decide)
        rw [h0, h1, h2]
        exact HOF0.out hi hd w' q
      | true =>
        obtain ⟨L, rfl, _⟩ := HDN.out hi hd
        refine (HOL.out hi L hd w' q).mono fun e w'' h => ?_
        have h0 : ob = lineB n1 n2 xs s L := by rw [HOOB.out, hd, Bool.true_and, Int.toNat_natCast]
        have h1 := HRT.out
        have h2 := HRV.out
        rw [h0, Int.toNat_natCast] at h1 h2
        rw [h0, h1, h2]
        exact h
    clear hi HOY HON HOL HDN HOOB HRT HRV HOF0
    go_enter Try.func15, Try.ntmps15
    go_wp2_with fail
    rw [← HV.out, ← HW.out]
    refine HC.out.mono ?_
    rintro e w1 ⟨rfl, hb1⟩
    obtain ⟨X, hX⟩ : ∃ X, X = w1.alloc (.cells #[.int .i64 n1, .int .i64 n2, .int .i64 n3, .slice a xs.length cap, .string s, .int .i64 f] 49) := ⟨_, rfl⟩
    have HX : Hid (X = w1.alloc (.cells #[.int .i64 n1, .int .i64 n2, .int .i64 n3, .slice a xs.length cap, .string s, .int .i64 f] 49)) := hX
    have HBX : Hid (Below W.heap.size W X) := by rw [hX]; exact hb1.alloc hb1.size _
    clear hX hb1 m0 m1 m2 m3
    go_wp2_with fail
    rw [← HX.out]
    refine (HCL.out X HBX.out).mono ?_
    rintro e w5 ⟨hoo, _⟩
    obtain ⟨aR, gR, cR, rfl, hgR, _, hown, hb5⟩ := oo_open hoo
    have HB4 : Hid (Below W.heap.size W w5) := HBX.out.trans (hb5.mono HBX.out.size)
    have HOW : Hid (w5.ownsRow W.heap.size 2 1 (.slice aR rv.length cR) rv.length (rv.map (Value.int .i64))) := own_mono hown HBX.out.size
    clear hoo hgR hown hb5
    obtain ⟨⟨v0, e0⟩, ⟨v1, e1⟩, f0, f1⟩ := HFR.out w5 HB4.out
    obtain ⟨hbE, q0, q1⟩ := HPT.out w5 (.int .i64 rt) (.slice aR rv.length cR) HB4.out
    have HBE : Hid (Below w.heap.size w ((w5.setCell ⟨w.heap.size + 1, 0, none⟩ (.int .i64 rt)).setCell ⟨w.heap.size + 1, 1, none⟩ (.slice aR rv.length cR))) := hbE
    have HQ : Hid (_ ∧ _) := And.intro q0 q1
    clear hbE q0 q1
    go_wp2
    refine bodyPost_ret (v := .tuple #[.agg #[.int .i64 rt, .slice aR rv.length cR], .bool ob]) ?_ rfl ⟨⟨.slice aR rv.length cR, rfl, own_mono (row_aside (row_aside HOW.out HWL.out) HWL.out) (by have := HWL.out; omega), HBE.out⟩, HBE.out⟩
    obtain ⟨q0, q1⟩ := HQ.out
    simp [results, Try.results15, go_sem, q0, q1]
end Go.Proofs.Ythmohmfkgoipkaa.img
