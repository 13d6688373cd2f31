/-
  ConfigOf, by the program and by the specification: what they answer of any text.
-/
import Derived.Test.YtpkdkkjdlhillaaDoorConfVar
namespace Go.Proofs.YtpkdkkjdlhillaaDoor.crc
open Go.RowKit
open wmath wb num kinds txt sh ints

theorem supN_le (s : ByteArray) (p : Nat) : 0 ≤ supN s p ∧ supN s p ≤ 65535 := by
  unfold supN
  have h := num_lt (s.extract p (p + 2)).data.toList
  have h2 : (s.extract p (p + 2)).data.toList.length ≤ 2 := by
    simp
    omega
  have h3 : 256 ^ (s.extract p (p + 2)).data.toList.length ≤ 256 ^ 2 := Nat.pow_le_pow_right (by omega) h2
  omega
theorem isImage_pl (w : World) (n1 : Int) (v2 v3 v4 : Value) (s : ByteArray) (_hs : s.size ≤ 1048576) (h1 : 0 ≤ n1) (h2 : n1 ≤ 65535) :
    Calls Tryd.prog 52 #[.agg #[.int .i64 n1, v2, v3, v4], .string s] w fun e w' => e = .returned (.bool (decide ((s.size : Int) = 64 * n1))) ∧ Below w.heap.size w w' := by
  have hd : ((s.size : Int) == n1 * 64) = decide ((s.size : Int) = 64 * n1) := by
    rw [Int.mul_comm n1 64, Bool.eq_iff_iff]
    simp
  have hw : IntKind.i64.wrap (n1 * 64) = n1 * 64 := by rw [IntKind.wrap_i64]; omega
  go_enter Tryd.func52, Tryd.ntmps52
  go_wp2
  go_ret
  exact ⟨by rw [← hd]; rfl, by go_grown⟩
theorem lineOf_zero (w : World) (s : ByteArray) (h : 64 ≤ s.size) (_hs : s.size ≤ 1048576) :
    Calls Tryd.prog 51 #[.string s, .int .i64 0] w fun e w' => e = .returned (.string (s.extract 0 64)) ∧ w = w' := by
  have h1 : (64 : Int) ≤ (s.size : Int) := by omega
  go_enter Tryd.func51, Tryd.ntmps51
  go_wp2
  go_ret
  exact ⟨rfl, rfl⟩
theorem rans_no {w w' : World} (hb : Below w.heap.size w w') : RAns 0 0 0 [] false w (.returned (.tuple #[.agg #[.int .i64 0, .int .i64 0, .int .i64 0, .slice none 0 0], .bool false])) w' :=
  ⟨none, w.heap.size, 0, rfl, Nat.le_refl _, (fun i hi => by cases hi), hb⟩
theorem four_grown (W : World) (b : Nat) (x0 x1 x2 x3 : Value) : W.grownBy ((((W.setCell ⟨b, 0, none⟩ x0).setCell ⟨b, 1, none⟩ x1).setCell ⟨b, 2, none⟩ x2).setCell ⟨b, 3, none⟩ x3) (some b) :=
  grown_trans (grown_trans (grown_trans (grown_set _ _ _ _) (grown_set _ _ _ _)) (grown_set _ _ _ _)) (grown_set _ _ _ _)
def ConfC (n1 n2 n3 : Int) (xs : List ByteArray) (c : Bool) (w : World) (e : Ending) (w' : World) : Prop := RAns (if c = true then n1 else 0) (if c = true then n2 else 0) (if c = true then n3 else 0) (if c = true then xs else []) c w e w'

set_option maxRecDepth 20000 in
theorem impl_conf_short (s : ByteArray) (w : World) (hs : s.size < 64) :
    Calls Tryd.prog 22 #[.string s] w fun e w' => RAns 0 0 0 [] false w e w' := by
  have hlt : (s.size : Int) < 64 := by omega
  obtain ⟨W, hW⟩ : ∃ W, W = w.alloc (.cells #[.int .i64 0, .int .i64 0, .int .i64 0, .slice none 0 0] 26) := ⟨_, rfl⟩
  have HW : Hid (W = w.alloc (.cells #[.int .i64 0, .int .i64 0, .int .i64 0, .slice none 0 0] 26)) := hW
  have HF : Hid (Four w W) := by rw [hW]; exact Four.start w _
  have v0 := HF.out.cell 0 _ rfl
  have v1 := HF.out.cell 1 _ rfl
  have v2 := HF.out.cell 2 _ rfl
  have v3 := HF.out.cell 3 _ rfl
  have z0 := HF.out.free 0
  have z1 := HF.out.free 1
  have z2 := HF.out.free 2
  have z3 := HF.out.free 3
  have HC4 : Hid (∀ x0 x1 x2 x3, _) := four_set v0 v1 v2 v3
  clear hW
  go_enter Tryd.func22, Tryd.ntmps22
  go_wp2_with (rw [← HW.out])
  refine bodyPost_ret (v := .tuple #[.agg #[.int .i64 0, .int .i64 0, .int .i64 0, .slice none 0 0], .bool false]) ?_ rfl (rans_no (HF.out.put _ _ _ _))
  obtain ⟨q0, q1, q2, q3⟩ := HC4.out (.int .i64 0) (.int .i64 0) (.int .i64 0) (.slice none 0 0)
  simp [results, Tryd.results22, go_sem, q0, q1, q2, q3]
set_option maxHeartbeats 1000000 in
set_option maxRecDepth 20000 in
theorem impl_conf (s : ByteArray) (w : World) (hs : 64 ≤ s.size) (hm : s.size ≤ 1048576) (n1 n2 n3 : Int) (xs : List ByteArray) (b : Bool) (h1 : 0 ≤ n1) (h2 : n1 ≤ 65535)
    (hR : ∀ w', Below w.heap.size w w' → Calls Tryd.prog 10 #[.string (s.extract 0 64)] w' fun e w'' => RAns n1 n2 n3 xs b w' e w'') :
    Calls Tryd.prog 22 #[.string s] w fun e w' => ConfC n1 n2 n3 xs (b && decide ((s.size : Int) = 64 * n1)) w e w' := by
  have hlt : ¬ (s.size : Int) < 64 := by omega
  have h64 : (64 : Int) ≤ (s.size : Int) := by omega
  have hw : IntKind.i64.wrap (64 * n1) = 64 * n1 := by rw [IntKind.wrap_i64]; omega
  obtain ⟨W, hW⟩ : ∃ W, W = w.alloc (.cells #[.int .i64 0, .int .i64 0, .int .i64 0, .slice none 0 0] 26) := ⟨_, rfl⟩
  have HW : Hid (W = w.alloc (.cells #[.int .i64 0, .int .i64 0, .int .i64 0, .slice none 0 0] 26)) := hW
  have hF : Four w W := by rw [hW]; exact Four.start w _
  have HF : Hid (Four w W) := hF
  have HR : Hid (Calls _ _ _ W _) := hR W hF.below
  have HL : Hid (∀ w, Calls _ _ _ w _) := fun w => lineOf_zero w s hs hm
  have HIM : Hid (∀ w v2 v3 v4, Calls _ _ _ w _) := fun w v2 v3 v4 => isImage_pl w n1 v2 v3 v4 s hm h1 h2
  clear hW hF hR
  cases b with
  | false =>
    show Calls _ _ _ _ fun e w' => RAns 0 0 0 [] false w e w'
    go_enter Tryd.func22, Tryd.ntmps22
    go_wp2_with fail
    rw [← HW.out]
    refine (HL.out _).mono ?_
    rintro e0 w0 ⟨rfl, rfl⟩
    go_wp2_with fail
    refine HR.out.mono ?_
    rintro e w2 ⟨a, g, cap, rfl, hg, htx, hb2⟩
    obtain ⟨Y, hY⟩ : ∃ Y, Y = w2.alloc (.cells #[.int .i64 n1, .int .i64 n2, .int .i64 n3, .slice a xs.length cap] 26) := ⟨_, rfl⟩
    have HY : Hid (Y = w2.alloc (.cells #[.int .i64 n1, .int .i64 n2, .int .i64 n3, .slice a xs.length cap] 26)) := hY
    have hbY : Below W.heap.size W Y := by rw [hY]; exact hb2.alloc hb2.size _
    have HF2 : Hid (Four w Y) := HF.out.later hbY
    have v0 := HF2.out.cell 0 _ rfl
    have v1 := HF2.out.cell 1 _ rfl
    have v2 := HF2.out.cell 2 _ rfl
    have v3 := HF2.out.cell 3 _ rfl
    have z0 := HF2.out.free 0
    have z1 := HF2.out.free 1
    have z2 := HF2.out.free 2
    have z3 := HF2.out.free 3
    have HC4 : Hid (∀ x0 x1 x2 x3, _) := four_set v0 v1 v2 v3
    clear hY hbY hb2 htx hg
    go_wp2_with (rw [← HY.out])
    refine bodyPost_ret (v := .tuple #[.agg #[.int .i64 0, .int .i64 0, .int .i64 0, .slice none 0 0], .bool false]) ?_ rfl (rans_no (HF2.out.put _ _ _ _))
    obtain ⟨q0, q1, q2, q3⟩ := HC4.out (.int .i64 0) (.int .i64 0) (.int .i64 0) (.slice none 0 0)
    simp [results, Tryd.results22, go_sem, q0, q1, q2, q3]
  | true =>
    rw [Bool.true_and]
    have hdd : ((s.size : Int) != 64 * n1) = !decide ((s.size : Int) = 64 * n1) := by rw [bne]; congr 1
    cases hd : decide ((s.size : Int) = 64 * n1) with
    | false =>
      rw [hd] at hdd HIM
      show Calls _ _ _ _ fun e w' => RAns 0 0 0 [] false w e w'
      clear hd
      go_enter Tryd.func22, Tryd.ntmps22
      go_wp2_with fail
      rw [← HW.out]
      refine (HL.out _).mono ?_
      rintro e0 w0 ⟨rfl, rfl⟩
      go_wp2_with fail
      refine HR.out.mono ?_
      rintro e w2 ⟨a, g, cap, rfl, hg, htx, hb2⟩
      obtain ⟨Y, hY⟩ : ∃ Y, Y = w2.alloc (.cells #[.int .i64 n1, .int .i64 n2, .int .i64 n3, .slice a xs.length cap] 26) := ⟨_, rfl⟩
      have HY : Hid (Y = w2.alloc (.cells #[.int .i64 n1, .int .i64 n2, .int .i64 n3, .slice a xs.length cap] 26)) := hY
      have HBY : Hid (Below W.heap.size W Y) := by rw [hY]; exact hb2.alloc hb2.size _
      have HBV : Hid (Below w2.heap.size w2 Y) := by rw [hY]; exact (Below.refl _ _).alloc (Nat.le_refl _) _
      have HCV : Hid (CVar w2.heap.size n1 n2 n3 a g xs.length cap xs Y) := by rw [hY]; exact CVar.start w2 n1 n2 n3 a g xs.length cap xs _ rfl htx
      obtain ⟨yb, hyb⟩ : ∃ y, y = w2.heap.size := ⟨_, rfl⟩
      have HE : Hid (yb = w2.heap.size) := hyb
      rw [← hyb] at HCV
      clear hY hyb hb2
      clear htx hg
      have m0 := HCV.out.c0
      have m1 := HCV.out.c1
      have m2 := HCV.out.c2
      have m3 := HCV.out.c3
      go_wp2_with (first | (rw [← HY.out, ← HE.out]) | (rw [← HY.out]))
      refine (HIM.out Y _ _ _).mono ?_
      rintro e3 w3 ⟨rfl, hb3⟩
      have HBZ : Hid (Below W.heap.size W w3) := HBY.out.trans (hb3.mono HBY.out.size)
      have HBW : Hid (Below w2.heap.size w2 w3) := HBV.out.trans (hb3.mono HBV.out.size)
      have HCZ := HCV.out.below hb3
      clear m0 m1 m2 m3 hb3
      have m0 := HCZ.c0
      have m1 := HCZ.c1
      have m2 := HCZ.c2
      have m3 := HCZ.c3
      clear HCZ
      have HF2 : Hid (Four w w3) := HF.out.later HBZ.out
      have v0 := HF2.out.cell 0 _ rfl
      have v1 := HF2.out.cell 1 _ rfl
      have v2 := HF2.out.cell 2 _ rfl
      have v3 := HF2.out.cell 3 _ rfl
      have z0 := HF2.out.free 0
      have z1 := HF2.out.free 1
      have z2 := HF2.out.free 2
      have z3 := HF2.out.free 3
      have HC4 : Hid (∀ x0 x1 x2 x3, _) := four_set v0 v1 v2 v3
      go_wp2_with (first | (rw [← HY.out, ← HE.out]) | (rw [← HY.out]))
      refine bodyPost_ret (v := .tuple #[.agg #[.int .i64 0, .int .i64 0, .int .i64 0, .slice none 0 0], .bool false]) ?_ rfl (rans_no (HF2.out.put _ _ _ _))
      obtain ⟨q0, q1, q2, q3⟩ := HC4.out (.int .i64 0) (.int .i64 0) (.int .i64 0) (.slice none 0 0)
      simp [results, Tryd.results22, go_sem, q0, q1, q2, q3]
    | true =>
      rw [hd] at hdd HIM
      show Calls _ _ _ _ fun e w' => RAns n1 n2 n3 xs true w e w'
      clear hd
      go_enter Tryd.func22, Tryd.ntmps22
      go_wp2_with fail
      rw [← HW.out]
      refine (HL.out _).mono ?_
      rintro e0 w0 ⟨rfl, rfl⟩
      go_wp2_with fail
      refine HR.out.mono ?_
      rintro e w2 ⟨a, g, cap, rfl, hg, htx, hb2⟩
      obtain ⟨Y, hY⟩ : ∃ Y, Y = w2.alloc (.cells #[.int .i64 n1, .int .i64 n2, .int .i64 n3, .slice a xs.length cap] 26) := ⟨_, rfl⟩
      have HY : Hid (Y = w2.alloc (.cells #[.int .i64 n1, .int .i64 n2, .int .i64 n3, .slice a xs.length cap] 26)) := hY
      have HBY : Hid (Below W.heap.size W Y) := by rw [hY]; exact hb2.alloc hb2.size _
      have HBV : Hid (Below w2.heap.size w2 Y) := by rw [hY]; exact (Below.refl _ _).alloc (Nat.le_refl _) _
      have HCV : Hid (CVar w2.heap.size n1 n2 n3 a g xs.length cap xs Y) := by rw [hY]; exact CVar.start w2 n1 n2 n3 a g xs.length cap xs _ rfl htx
      obtain ⟨yb, hyb⟩ : ∃ y, y = w2.heap.size := ⟨_, rfl⟩
      have HE : Hid (yb = w2.heap.size) := hyb
      rw [← hyb] at HCV
      clear hY hyb hb2
      have HGW : Hid (0 < xs.length → g ≠ w.heap.size) := fun _ => by have h1 := HF.out.lt; omega
      have HGL : Hid (w.heap.size ≤ g) := by have h1 := HF.out.lt; show w.heap.size ≤ g; omega
      have HTX : Hid (Txts w2 a g xs) := htx
      clear htx hg
      have m0 := HCV.out.c0
      have m1 := HCV.out.c1
      have m2 := HCV.out.c2
      have m3 := HCV.out.c3
      go_wp2_with (first | (rw [← HY.out, ← HE.out]) | (rw [← HY.out]))
      refine (HIM.out Y _ _ _).mono ?_
      rintro e3 w3 ⟨rfl, hb3⟩
      have HBZ : Hid (Below W.heap.size W w3) := HBY.out.trans (hb3.mono HBY.out.size)
      have HBW : Hid (Below w2.heap.size w2 w3) := HBV.out.trans (hb3.mono HBV.out.size)
      have HCZ := HCV.out.below hb3
      clear m0 m1 m2 m3 hb3
      have m0 := HCZ.c0
      have m1 := HCZ.c1
      have m2 := HCZ.c2
      have m3 := HCZ.c3
      clear HCZ
      have HTZ : Hid (Txts w3 a g xs) := HTX.out.below HBW.out
      have HF2 : Hid (Four w w3) := HF.out.later HBZ.out
      have v0 := HF2.out.cell 0 _ rfl
      have v1 := HF2.out.cell 1 _ rfl
      have v2 := HF2.out.cell 2 _ rfl
      have v3 := HF2.out.cell 3 _ rfl
      have z0 := HF2.out.free 0
      have z1 := HF2.out.free 1
      have z2 := HF2.out.free 2
      have z3 := HF2.out.free 3
      have HC4 : Hid (∀ x0 x1 x2 x3, _) := four_set v0 v1 v2 v3
      go_wp2_with (first | (rw [← HY.out, ← HE.out]) | (rw [← HY.out]))
      refine bodyPost_ret (v := .tuple #[.agg #[.int .i64 n1, .int .i64 n2, .int .i64 n3, .slice a xs.length cap], .bool true]) ?_ rfl ⟨a, g, cap, rfl, HGL.out, HTZ.out.grown (four_grown _ _ _ _ _ _) HGW.out, HF2.out.put _ _ _ _⟩
      obtain ⟨q0, q1, q2, q3⟩ := HC4.out (.int .i64 n1) (.int .i64 n2) (.int .i64 n3) (.slice a xs.length cap)
      simp [results, Tryd.results22, go_sem, q0, q1, q2, q3]

set_option maxRecDepth 20000 in
theorem spec_conf_short (s : ByteArray) (w : World) (hs : s.size < 64) :
    Calls Tryd.prog 21 #[.string s] w fun e w' => RAns 0 0 0 [] false w e w' := by
  have hlt : (s.size : Int) < 64 := by omega
  obtain ⟨W, hW⟩ : ∃ W, W = w.alloc (.cells #[.int .i64 0, .int .i64 0, .int .i64 0, .slice none 0 0] 26) := ⟨_, rfl⟩
  have HW : Hid (W = w.alloc (.cells #[.int .i64 0, .int .i64 0, .int .i64 0, .slice none 0 0] 26)) := hW
  have HF : Hid (Four w W) := by rw [hW]; exact Four.start w _
  have v0 := HF.out.cell 0 _ rfl
  have v1 := HF.out.cell 1 _ rfl
  have v2 := HF.out.cell 2 _ rfl
  have v3 := HF.out.cell 3 _ rfl
  have z0 := HF.out.free 0
  have z1 := HF.out.free 1
  have z2 := HF.out.free 2
  have z3 := HF.out.free 3
  have HC4 : Hid (∀ x0 x1 x2 x3, _) := four_set v0 v1 v2 v3
  clear hW
  go_enter Tryd.func21, Tryd.ntmps21
  go_wp2_with (rw [← HW.out])
  refine bodyPost_ret (v := .tuple #[.agg #[.int .i64 0, .int .i64 0, .int .i64 0, .slice none 0 0], .bool false]) ?_ rfl (rans_no (HF.out.put _ _ _ _))
  obtain ⟨q0, q1, q2, q3⟩ := HC4.out (.int .i64 0) (.int .i64 0) (.int .i64 0) (.slice none 0 0)
  simp [results, Tryd.results21, go_sem, q0, q1, q2, q3]
set_option maxHeartbeats 1000000 in
set_option maxRecDepth 20000 in
theorem spec_conf (s : ByteArray) (w : World) (hs : 64 ≤ s.size) (hm : s.size ≤ 1048576) (n1 n2 n3 : Int) (xs : List ByteArray) (b : Bool) (h1 : 0 ≤ n1) (h2 : n1 ≤ 65535)
    (hR : ∀ w', Below w.heap.size w w' → Calls Tryd.prog 11 #[.string (s.extract 0 64)] w' fun e w'' => RAns n1 n2 n3 xs b w' e w'') :
    Calls Tryd.prog 21 #[.string s] w fun e w' => ConfC n1 n2 n3 xs (b && decide ((s.size : Int) = 64 * n1)) w e w' := by
  have hlt : ¬ (s.size : Int) < 64 := by omega
  have h64 : (64 : Int) ≤ (s.size : Int) := by omega
  have hw : IntKind.i64.wrap (64 * n1) = 64 * n1 := by rw [IntKind.wrap_i64]; omega
  obtain ⟨W, hW⟩ : ∃ W, W = w.alloc (.cells #[.int .i64 0, .int .i64 0, .int .i64 0, .slice none 0 0] 26) := ⟨_, rfl⟩
  have HW : Hid (W = w.alloc (.cells #[.int .i64 0, .int .i64 0, .int .i64 0, .slice none 0 0] 26)) := hW
  have hF : Four w W := by rw [hW]; exact Four.start w _
  have HF : Hid (Four w W) := hF
  have HR : Hid (Calls _ _ _ W _) := hR W hF.below
  clear hW hF hR
  cases b with
  | false =>
    show Calls _ _ _ _ fun e w' => RAns 0 0 0 [] false w e w'
    go_enter Tryd.func21, Tryd.ntmps21
    go_wp2_with fail
    rw [← HW.out]
    refine HR.out.mono ?_
    rintro e w2 ⟨a, g, cap, rfl, hg, htx, hb2⟩
    obtain ⟨Y, hY⟩ : ∃ Y, Y = w2.alloc (.cells #[.int .i64 n1, .int .i64 n2, .int .i64 n3, .slice a xs.length cap] 26) := ⟨_, rfl⟩
    have HY : Hid (Y = w2.alloc (.cells #[.int .i64 n1, .int .i64 n2, .int .i64 n3, .slice a xs.length cap] 26)) := hY
    have hbY : Below W.heap.size W Y := by rw [hY]; exact hb2.alloc hb2.size _
    have HF2 : Hid (Four w Y) := HF.out.later hbY
    have v0 := HF2.out.cell 0 _ rfl
    have v1 := HF2.out.cell 1 _ rfl
    have v2 := HF2.out.cell 2 _ rfl
    have v3 := HF2.out.cell 3 _ rfl
    have z0 := HF2.out.free 0
    have z1 := HF2.out.free 1
    have z2 := HF2.out.free 2
    have z3 := HF2.out.free 3
    have HC4 : Hid (∀ x0 x1 x2 x3, _) := four_set v0 v1 v2 v3
    clear hY hbY hb2 htx hg
    go_wp2_with (rw [← HY.out])
    refine bodyPost_ret (v := .tuple #[.agg #[.int .i64 0, .int .i64 0, .int .i64 0, .slice none 0 0], .bool false]) ?_ rfl (rans_no (HF2.out.put _ _ _ _))
    obtain ⟨q0, q1, q2, q3⟩ := HC4.out (.int .i64 0) (.int .i64 0) (.int .i64 0) (.slice none 0 0)
    simp [results, Tryd.results21, go_sem, q0, q1, q2, q3]
  | true =>
    rw [Bool.true_and]
    have hdd : ((s.size : Int) != 64 * n1) = !decide ((s.size : Int) = 64 * n1) := by rw [bne]; congr 1
    cases hd : decide ((s.size : Int) = 64 * n1) with
    | false =>
      rw [hd] at hdd 
      show Calls _ _ _ _ fun e w' => RAns 0 0 0 [] false w e w'
      clear hd
      go_enter Tryd.func21, Tryd.ntmps21
      go_wp2_with fail
      rw [← HW.out]
      refine HR.out.mono ?_
      rintro e w2 ⟨a, g, cap, rfl, hg, htx, hb2⟩
      obtain ⟨Y, hY⟩ : ∃ Y, Y = w2.alloc (.cells #[.int .i64 n1, .int .i64 n2, .int .i64 n3, .slice a xs.length cap] 26) := ⟨_, rfl⟩
      have HY : Hid (Y = w2.alloc (.cells #[.int .i64 n1, .int .i64 n2, .int .i64 n3, .slice a xs.length cap] 26)) := hY
      have HBY : Hid (Below W.heap.size W Y) := by rw [hY]; exact hb2.alloc hb2.size _
      have HBV : Hid (Below w2.heap.size w2 Y) := by rw [hY]; exact (Below.refl _ _).alloc (Nat.le_refl _) _
      have HCV : Hid (CVar w2.heap.size n1 n2 n3 a g xs.length cap xs Y) := by rw [hY]; exact CVar.start w2 n1 n2 n3 a g xs.length cap xs _ rfl htx
      obtain ⟨yb, hyb⟩ : ∃ y, y = w2.heap.size := ⟨_, rfl⟩
      have HE : Hid (yb = w2.heap.size) := hyb
      rw [← hyb] at HCV
      clear hY hyb hb2
      clear htx hg
      have m0 := HCV.out.c0
      have m1 := HCV.out.c1
      have m2 := HCV.out.c2
      have m3 := HCV.out.c3
      have HBZ : Hid (Below W.heap.size W Y) := HBY.out
      have HBW : Hid (Below w2.heap.size w2 Y) := HBV.out
      have HF2 : Hid (Four w Y) := HF.out.later HBZ.out
      have v0 := HF2.out.cell 0 _ rfl
      have v1 := HF2.out.cell 1 _ rfl
      have v2 := HF2.out.cell 2 _ rfl
      have v3 := HF2.out.cell 3 _ rfl
      have z0 := HF2.out.free 0
      have z1 := HF2.out.free 1
      have z2 := HF2.out.free 2
      have z3 := HF2.out.free 3
      have HC4 : Hid (∀ x0 x1 x2 x3, _) := four_set v0 v1 v2 v3
      go_wp2_with (first | (rw [← HY.out, ← HE.out]) | (rw [← HY.out]))
      refine bodyPost_ret (v := .tuple #[.agg #[.int .i64 0, .int .i64 0, .int .i64 0, .slice none 0 0], .bool false]) ?_ rfl (rans_no (HF2.out.put _ _ _ _))
      obtain ⟨q0, q1, q2, q3⟩ := HC4.out (.int .i64 0) (.int .i64 0) (.int .i64 0) (.slice none 0 0)
      simp [results, Tryd.results21, go_sem, q0, q1, q2, q3]
    | true =>
      rw [hd] at hdd 
      show Calls _ _ _ _ fun e w' => RAns n1 n2 n3 xs true w e w'
      clear hd
      go_enter Tryd.func21, Tryd.ntmps21
      go_wp2_with fail
      rw [← HW.out]
      refine HR.out.mono ?_
      rintro e w2 ⟨a, g, cap, rfl, hg, htx, hb2⟩
      obtain ⟨Y, hY⟩ : ∃ Y, Y = w2.alloc (.cells #[.int .i64 n1, .int .i64 n2, .int .i64 n3, .slice a xs.length cap] 26) := ⟨_, rfl⟩
      have HY : Hid (Y = w2.alloc (.cells #[.int .i64 n1, .int .i64 n2, .int .i64 n3, .slice a xs.length cap] 26)) := hY
      have HBY : Hid (Below W.heap.size W Y) := by rw [hY]; exact hb2.alloc hb2.size _
      have HBV : Hid (Below w2.heap.size w2 Y) := by rw [hY]; exact (Below.refl _ _).alloc (Nat.le_refl _) _
      have HCV : Hid (CVar w2.heap.size n1 n2 n3 a g xs.length cap xs Y) := by rw [hY]; exact CVar.start w2 n1 n2 n3 a g xs.length cap xs _ rfl htx
      obtain ⟨yb, hyb⟩ : ∃ y, y = w2.heap.size := ⟨_, rfl⟩
      have HE : Hid (yb = w2.heap.size) := hyb
      rw [← hyb] at HCV
      clear hY hyb hb2
      have HGW : Hid (0 < xs.length → g ≠ w.heap.size) := fun _ => by have h1 := HF.out.lt; omega
      have HGL : Hid (w.heap.size ≤ g) := by have h1 := HF.out.lt; show w.heap.size ≤ g; omega
      have HTX : Hid (Txts w2 a g xs) := htx
      clear htx hg
      have m0 := HCV.out.c0
      have m1 := HCV.out.c1
      have m2 := HCV.out.c2
      have m3 := HCV.out.c3
      have HBZ : Hid (Below W.heap.size W Y) := HBY.out
      have HBW : Hid (Below w2.heap.size w2 Y) := HBV.out
      have HTZ : Hid (Txts Y a g xs) := HTX.out.below HBW.out
      have HF2 : Hid (Four w Y) := HF.out.later HBZ.out
      have v0 := HF2.out.cell 0 _ rfl
      have v1 := HF2.out.cell 1 _ rfl
      have v2 := HF2.out.cell 2 _ rfl
      have v3 := HF2.out.cell 3 _ rfl
      have z0 := HF2.out.free 0
      have z1 := HF2.out.free 1
      have z2 := HF2.out.free 2
      have z3 := HF2.out.free 3
      have HC4 : Hid (∀ x0 x1 x2 x3, _) := four_set v0 v1 v2 v3
      go_wp2_with (first | (rw [← HY.out, ← HE.out]) | (rw [← HY.out]))
      refine bodyPost_ret (v := .tuple #[.agg #[.int .i64 n1, .int .i64 n2, .int .i64 n3, .slice a xs.length cap], .bool true]) ?_ rfl ⟨a, g, cap, rfl, HGL.out, HTZ.out.grown (four_grown _ _ _ _ _ _) HGW.out, HF2.out.put _ _ _ _⟩
      obtain ⟨q0, q1, q2, q3⟩ := HC4.out (.int .i64 n1) (.int .i64 n2) (.int .i64 n3) (.slice a xs.length cap)
      simp [results, Tryd.results21, go_sem, q0, q1, q2, q3]

theorem confof_both (s : ByteArray) (hm : s.size ≤ 1048576) : ∃ n1 n2 n3 xs b, xs.length ≤ 12 ∧ (∀ w, Calls Tryd.prog 21 #[.string s] w fun e w' => RAns n1 n2 n3 xs b w e w') ∧ (∀ w, TabAt w → 0 < w.heap.size → Calls Tryd.prog 22 #[.string s] w fun e w' => RAns n1 n2 n3 xs b w e w') := by
  by_cases hs : s.size < 64
  · exact ⟨0, 0, 0, [], false, by simp, fun w => spec_conf_short s w hs, fun w _ _ => impl_conf_short s w hs⟩
  · have h64 : (s.extract 0 64).size = 64 := by rw [ByteArray.size_extract]; omega
    have hb1 : 0 ≤ (if supB (s.extract 0 64) = true then supN (s.extract 0 64) 4 else 0) ∧ (if supB (s.extract 0 64) = true then supN (s.extract 0 64) 4 else 0) ≤ 65535 := by
      have := supN_le (s.extract 0 64) 4
      split <;> omega
    have hcl : ∀ c : Bool, (if c = true then supL (s.extract 0 64) else []).length ≤ 12 := fun c => by
      cases c with
      | false => simp
      | true => rw [if_pos rfl]; exact supL_len _
    refine ⟨_, _, _, _, _, ?_, fun w => spec_conf s w (by omega) hm _ _ _ _ _ hb1.1 hb1.2 (fun w' _ => (spec_readsup (s.extract 0 64) w' h64).mono fun _ _ q => rans_of q), fun w q1 q2 => impl_conf s w (by omega) hm _ _ _ _ _ hb1.1 hb1.2 (fun w' q => (impl_readsup (s.extract 0 64) w' h64 (q1.below q q2) (Nat.lt_of_lt_of_le q2 q.size)).mono fun _ _ q => rans_of q)⟩
    exact hcl _
end Go.Proofs.YtpkdkkjdlhillaaDoor.crc
