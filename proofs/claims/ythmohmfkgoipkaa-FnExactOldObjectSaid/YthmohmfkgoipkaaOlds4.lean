/-
  An image that is opened, by the program; RootsOf, by the program.
-/
import Derived.Test.YthmohmfkgoipkaaOlds3
namespace Go.Proofs.Ythmohmfkgoipkaa.img
open Go.RowKit
open kinds ints wmath num obj ref later

/-- Six cells of a variable of one's own that may be written. -/
structure Six (b : Nat) (w W : World) : Prop where
  ge : w.heap.size ≤ b
  below : Below w.heap.size w W
  cell : ∀ i, i < 6 → ∃ v, W.cell? ⟨b, i, none⟩ = some v
  free : ∀ i, i < 6 → W.frozen? ⟨b, i, none⟩ = false
theorem Six.lt {b : Nat} {w W : World} (h : Six b w W) : b < W.heap.size := by
  obtain ⟨v, hv⟩ := h.cell 0 (by omega)
  exact World.block_lt_of_cell? W _ hv
theorem Six.later {b : Nat} {w W w' : World} (h : Six b w W) (hb : Below W.heap.size W w') : Six b w w' where
  ge := h.ge
  below := h.below.trans (hb.mono h.below.size)
  cell := fun i hi => by rw [hb.cell (p := ⟨b, i, none⟩) h.lt]; exact h.cell i hi
  free := fun i hi => by rw [hb.frozen (p := ⟨b, i, none⟩) h.lt]; exact h.free i hi
def put6 (W : World) (b : Nat) (x0 x1 x2 x3 x4 x5 : Value) : World := (((((W.setCell ⟨b, 0, none⟩ x0).setCell ⟨b, 1, none⟩ x1).setCell ⟨b, 2, none⟩ x2).setCell ⟨b, 3, none⟩ x3).setCell ⟨b, 4, none⟩ x4).setCell ⟨b, 5, none⟩ x5
theorem Six.put {b : Nat} {w W : World} (h : Six b w W) (x0 x1 x2 x3 x4 x5 : Value) : Below w.heap.size w (put6 W b x0 x1 x2 x3 x4 x5) :=
  (((((h.below.setCell (p := ⟨b, 0, none⟩) h.ge _).setCell (p := ⟨b, 1, none⟩) h.ge _).setCell (p := ⟨b, 2, none⟩) h.ge _).setCell (p := ⟨b, 3, none⟩) h.ge _).setCell (p := ⟨b, 4, none⟩) h.ge _).setCell (p := ⟨b, 5, none⟩) h.ge _
theorem six_ne (b i j : Nat) (h : i ≠ j) : (⟨b, i, none⟩ : Addr) ≠ ⟨b, j, none⟩ := fun e => h (congrArg Addr.off e)
theorem Six.got {b : Nat} {w W : World} (h : Six b w W) (x0 x1 x2 x3 x4 x5 : Value) :
    (put6 W b x0 x1 x2 x3 x4 x5).cell? ⟨b, 0, none⟩ = some x0 ∧ (put6 W b x0 x1 x2 x3 x4 x5).cell? ⟨b, 1, none⟩ = some x1 ∧ (put6 W b x0 x1 x2 x3 x4 x5).cell? ⟨b, 2, none⟩ = some x2 ∧ (put6 W b x0 x1 x2 x3 x4 x5).cell? ⟨b, 3, none⟩ = some x3 ∧ (put6 W b x0 x1 x2 x3 x4 x5).cell? ⟨b, 4, none⟩ = some x4 ∧ (put6 W b x0 x1 x2 x3 x4 x5).cell? ⟨b, 5, none⟩ = some x5 := by
  have same : ∀ (W : World) (i : Nat) (x : Value), (∃ v, W.cell? ⟨b, i, none⟩ = some v) → (W.setCell ⟨b, i, none⟩ x).cell? ⟨b, i, none⟩ = some x := fun W i x ⟨v, hv⟩ => World.cell?_setCell_same _ _ _ hv
  have keep : ∀ (W : World) (i j : Nat) (x : Value), (∃ v, W.cell? ⟨b, i, none⟩ = some v) → ∃ v, (W.setCell ⟨b, j, none⟩ x).cell? ⟨b, i, none⟩ = some v := fun W i j x ⟨v, hv⟩ => cell?_setCell_some hv
  have other : ∀ (W : World) (i j : Nat) (x v : Value), i ≠ j → W.cell? ⟨b, i, none⟩ = some v → (W.setCell ⟨b, j, none⟩ x).cell? ⟨b, i, none⟩ = some v := fun W i j x v hne hv => by rw [World.cell?_setCell_other _ _ _ _ (six_ne b j i (fun e => hne e.symm))]; exact hv
  unfold put6
  refine ⟨?_, ?_, ?_, ?_, ?_, ?_⟩
  · exact other _ 0 5 _ _ (by decide) (other _ 0 4 _ _ (by decide) (other _ 0 3 _ _ (by decide) (other _ 0 2 _ _ (by decide) (other _ 0 1 _ _ (by decide) (same _ 0 _ (h.cell 0 (by decide)))))))
  · exact other _ 1 5 _ _ (by decide) (other _ 1 4 _ _ (by decide) (other _ 1 3 _ _ (by decide) (other _ 1 2 _ _ (by decide) (same _ 1 _ (keep _ 1 0 _ (h.cell 1 (by decide)))))))
  · exact other _ 2 5 _ _ (by decide) (other _ 2 4 _ _ (by decide) (other _ 2 3 _ _ (by decide) (same _ 2 _ (keep _ 2 1 _ (keep _ 2 0 _ (h.cell 2 (by decide)))))))
  · exact other _ 3 5 _ _ (by decide) (other _ 3 4 _ _ (by decide) (same _ 3 _ (keep _ 3 2 _ (keep _ 3 1 _ (keep _ 3 0 _ (h.cell 3 (by decide)))))))
  · exact other _ 4 5 _ _ (by decide) (same _ 4 _ (keep _ 4 3 _ (keep _ 4 2 _ (keep _ 4 1 _ (keep _ 4 0 _ (h.cell 4 (by decide)))))))
  · exact same _ 5 _ (keep _ 5 4 _ (keep _ 5 3 _ (keep _ 5 2 _ (keep _ 5 1 _ (keep _ 5 0 _ (h.cell 5 (by decide)))))))
theorem Six.start (w X : World) (h : Below w.heap.size w X) (T : TypeId) : Six X.heap.size w (X.alloc (.cells #[.int .i64 0, .int .i64 0, .int .i64 0, .slice none 0 0, .string ⟨#[]⟩, .int .i64 0] T)) where
  ge := h.size
  below := h.alloc h.size _
  cell := fun i hi => by
    rw [World.cell?_alloc_new]
    match i, hi with
    | 0, _ => exact ⟨_, rfl⟩
    | 1, _ => exact ⟨_, rfl⟩
    | 2, _ => exact ⟨_, rfl⟩
    | 3, _ => exact ⟨_, rfl⟩
    | 4, _ => exact ⟨_, rfl⟩
    | 5, _ => exact ⟨_, rfl⟩
  free := fun i _ => World.frozen?_alloc_new _ _ _ _
set_option maxHeartbeats 1000000 in
set_option maxRecDepth 20000 in
theorem opened_no (w : World) (n1 n2 n3 : Int) (a : Option Addr) (cap : Nat) (xs : List ByteArray) (s : ByteArray) (hs : s.size ≤ 1048576) (hn : xs.length ≤ 1048576) (hl : Strs w a xs) (hz : ∀ i (hi : i < xs.length), xs[i].size ≤ 1048576) (him : imageB n1 n2 n3 xs s = false) :
    Calls Try.prog 24 #[.agg #[.int .i64 n1, .int .i64 n2, .int .i64 n3, .slice a xs.length cap], .string s] w fun e w' => e = .returned (.tuple #[.agg #[.int .i64 0, .int .i64 0, .int .i64 0, .slice none 0 0, .string ⟨#[]⟩, .int .i64 0], .bool false]) ∧ Below w.heap.size w w' := by
  obtain ⟨V, hV⟩ : ∃ V, V = w.alloc (.cells #[.int .i64 n1, .int .i64 n2, .int .i64 n3, .slice a xs.length cap] 29) := ⟨_, rfl⟩
  have hv0 : Below w.heap.size w V := by rw [hV]; exact (Below.refl _ _).alloc (Nat.le_refl _) _
  have hbv : Box4 w.heap.size n1 n2 n3 (.slice a xs.length cap) V := by rw [hV]; exact Box4.start _ _ _ _ _ _
  obtain ⟨W, hW⟩ : ∃ W, W = V.alloc (.cells #[.int .i64 0, .int .i64 0, .int .i64 0, .slice none 0 0, .string ⟨#[]⟩, .int .i64 0] 49) := ⟨_, rfl⟩
  have h6 : Six V.heap.size w W := by rw [hW]; exact Six.start w V hv0 _
  have hvw : Below V.heap.size V W := by rw [hW]; exact (Below.refl _ _).alloc (Nat.le_refl _) _
  have hbx := hbv.below hvw
  have HW : Hid (W = V.alloc (.cells #[.int .i64 0, .int .i64 0, .int .i64 0, .slice none 0 0, .string ⟨#[]⟩, .int .i64 0] 49)) := hW
  have HV : Hid (V = w.alloc (.cells #[.int .i64 n1, .int .i64 n2, .int .i64 n3, .slice a xs.length cap] 29)) := hV
  have HVS : Hid (V.heap.size = w.heap.size + 1) := by show V.heap.size = _; rw [hV]; simp
  have H6 : Hid (Six V.heap.size w W) := h6
  rw [HVS.out] at H6
  have HK : Hid (∀ w', Below W.heap.size W w' → Box4 w.heap.size n1 n2 n3 (.slice a xs.length cap) w') := fun w' h => hbx.below h
  have HCF : Hid (Calls _ _ _ _ _) := impl_conf W n1 n2 n3 a cap xs hn ((hl.below hv0).below (hvw.mono (Nat.le_refl _))) hz
  have HIM : Hid (imageB n1 n2 n3 xs s = (configOk n1 n2 n3 xs && decide ((s.size : Int) = 64 * n1))) := rfl
  have HCL : Hid (configOk n1 n2 n3 xs = true → 8 ≤ n1 ∧ n1 ≤ 128 ∧ 1 ≤ n2 ∧ n2 ≤ 32 ∧ n2 ≤ n1 - 5) := conf_lines
  have HII : Hid (∀ w, 8 ≤ n1 → n1 ≤ 128 → Calls _ _ _ w _) := fun w q1 q2 => isImage_any w n1 (.int .i64 n2) (.int .i64 n3) (.slice a xs.length cap) s hs q1 q2
  have HNOI : Hid (imageB n1 n2 n3 xs s = false) := him
  clear hW hV hv0 hbv h6 hvw hbx hl hz him
  cases hc : configOk n1 n2 n3 xs with
  | false =>
    rw [hc] at HCF
    clear hc
    go_enter Try.func24, Try.ntmps24
    obtain ⟨m0, m1, m2, m3⟩ := HK.out W (Below.refl _ _)
    go_wp2_with fail
    rw [← HV.out, ← HW.out]
    refine HCF.out.mono ?_
    rintro e w2 ⟨rfl, hb2⟩
    have H62 : Hid (Six (w.heap.size + 1) w w2) := H6.out.later hb2
    clear hb2 m0 m1 m2 m3
    obtain ⟨⟨v0, e0⟩, ⟨v1, e1⟩, ⟨v2, e2⟩, ⟨v3, e3⟩, ⟨v4, e4⟩, ⟨v5, e5⟩⟩ := And.intro (H62.out.cell 0 (by decide)) (And.intro (H62.out.cell 1 (by decide)) (And.intro (H62.out.cell 2 (by decide)) (And.intro (H62.out.cell 3 (by decide)) (And.intro (H62.out.cell 4 (by decide)) (H62.out.cell 5 (by decide))))))
    have f0 := H62.out.free 0 (by decide)
    have f1 := H62.out.free 1 (by decide)
    have f2 := H62.out.free 2 (by decide)
    have f3 := H62.out.free 3 (by decide)
    have f4 := H62.out.free 4 (by decide)
    have f5 := H62.out.free 5 (by decide)
    go_wp2
    refine bodyPost_ret (v := .tuple #[.agg #[.int .i64 0, .int .i64 0, .int .i64 0, .slice none 0 0, .string ⟨#[]⟩, .int .i64 0], .bool false]) ?_ rfl ⟨rfl, H62.out.put _ _ _ _ _ _⟩
    obtain ⟨q0, q1, q2, q3, q4, q5⟩ := H62.out.got (.int .i64 0) (.int .i64 0) (.int .i64 0) (.slice none 0 0) (.string ⟨#[]⟩) (.int .i64 0)
    unfold put6 at q0 q1 q2 q3 q4 q5
    simp [results, Try.results24, go_sem, q0, q1, q2, q3, q4, q5]
  | true =>
    rw [hc] at HCF HIM
    obtain ⟨g1, g2, _, _, _⟩ := HCL.out hc
    have HI2 : Hid (∀ w, Calls _ _ _ w _) := fun w => HII.out w g1 g2
    have HDF : Hid (decide ((s.size : Int) = 64 * n1) = false) := by
      have h := HNOI.out
      rw [HIM.out, Bool.true_and] at h
      exact h
    rw [HDF.out] at HI2
    clear hc g1 g2
    go_enter Try.func24, Try.ntmps24
    obtain ⟨m0, m1, m2, m3⟩ := HK.out W (Below.refl _ _)
    go_wp2_with fail
    rw [← HV.out, ← HW.out]
    refine HCF.out.mono ?_
    rintro e w2 ⟨rfl, hb2⟩
    have H62 : Hid (Six (w.heap.size + 1) w w2) := H6.out.later hb2
    clear m0 m1 m2 m3
    obtain ⟨m0, m1, m2, m3⟩ := HK.out w2 hb2
    clear hb2
    go_wp2_with fail
    refine (HI2.out _).mono ?_
    rintro e w3 ⟨rfl, hb3⟩
    have H63 : Hid (Six (w.heap.size + 1) w w3) := H62.out.later hb3
    clear m0 m1 m2 m3 hb3 H62
    obtain ⟨⟨v0, e0⟩, ⟨v1, e1⟩, ⟨v2, e2⟩, ⟨v3, e3⟩, ⟨v4, e4⟩, ⟨v5, e5⟩⟩ := And.intro (H63.out.cell 0 (by decide)) (And.intro (H63.out.cell 1 (by decide)) (And.intro (H63.out.cell 2 (by decide)) (And.intro (H63.out.cell 3 (by decide)) (And.intro (H63.out.cell 4 (by decide)) (H63.out.cell 5 (by decide))))))
    have f0 := H63.out.free 0 (by decide)
    have f1 := H63.out.free 1 (by decide)
    have f2 := H63.out.free 2 (by decide)
    have f3 := H63.out.free 3 (by decide)
    have f4 := H63.out.free 4 (by decide)
    have f5 := H63.out.free 5 (by decide)
    go_wp2
    refine bodyPost_ret (v := .tuple #[.agg #[.int .i64 0, .int .i64 0, .int .i64 0, .slice none 0 0, .string ⟨#[]⟩, .int .i64 0], .bool false]) ?_ rfl ⟨rfl, H63.out.put _ _ _ _ _ _⟩
    obtain ⟨q0, q1, q2, q3, q4, q5⟩ := H63.out.got (.int .i64 0) (.int .i64 0) (.int .i64 0) (.slice none 0 0) (.string ⟨#[]⟩) (.int .i64 0)
    unfold put6 at q0 q1 q2 q3 q4 q5
    simp [results, Try.results24, go_sem, q0, q1, q2, q3, q4, q5]
theorem four_past {b c : Nat} {w' : World} {y0 y1 y2 y3 : Value} (hne : b ≠ c) (h : w'.cell? ⟨b, 0, none⟩ = some y0 ∧ w'.cell? ⟨b, 1, none⟩ = some y1 ∧ w'.cell? ⟨b, 2, none⟩ = some y2 ∧ w'.cell? ⟨b, 3, none⟩ = some y3) (x0 x1 x2 x3 x4 x5 : Value) :
    ((((((w'.setCell ⟨c, 0, none⟩ x0).setCell ⟨c, 1, none⟩ x1).setCell ⟨c, 2, none⟩ x2).setCell ⟨c, 3, none⟩ x3).setCell ⟨c, 4, none⟩ x4).setCell ⟨c, 5, none⟩ x5).cell? ⟨b, 0, none⟩ = some y0 ∧ ((((((w'.setCell ⟨c, 0, none⟩ x0).setCell ⟨c, 1, none⟩ x1).setCell ⟨c, 2, none⟩ x2).setCell ⟨c, 3, none⟩ x3).setCell ⟨c, 4, none⟩ x4).setCell ⟨c, 5, none⟩ x5).cell? ⟨b, 1, none⟩ = some y1 ∧ ((((((w'.setCell ⟨c, 0, none⟩ x0).setCell ⟨c, 1, none⟩ x1).setCell ⟨c, 2, none⟩ x2).setCell ⟨c, 3, none⟩ x3).setCell ⟨c, 4, none⟩ x4).setCell ⟨c, 5, none⟩ x5).cell? ⟨b, 2, none⟩ = some y2 ∧ ((((((w'.setCell ⟨c, 0, none⟩ x0).setCell ⟨c, 1, none⟩ x1).setCell ⟨c, 2, none⟩ x2).setCell ⟨c, 3, none⟩ x3).setCell ⟨c, 4, none⟩ x4).setCell ⟨c, 5, none⟩ x5).cell? ⟨b, 3, none⟩ = some y3 := by
  have other : ∀ (W : World) (i j : Nat) (x v : Value), W.cell? ⟨b, i, none⟩ = some v → (W.setCell ⟨c, j, none⟩ x).cell? ⟨b, i, none⟩ = some v := fun W i j x v hv => by rw [World.cell?_setCell_other _ _ _ _ (fun e => hne (congrArg Addr.block e).symm)]; exact hv
  have all : ∀ (i : Nat) (v : Value), w'.cell? ⟨b, i, none⟩ = some v → ((((((w'.setCell ⟨c, 0, none⟩ x0).setCell ⟨c, 1, none⟩ x1).setCell ⟨c, 2, none⟩ x2).setCell ⟨c, 3, none⟩ x3).setCell ⟨c, 4, none⟩ x4).setCell ⟨c, 5, none⟩ x5).cell? ⟨b, i, none⟩ = some v := fun i v hv => other _ _ _ _ _ (other _ _ _ _ _ (other _ _ _ _ _ (other _ _ _ _ _ (other _ _ _ _ _ (other _ _ _ _ _ hv)))))
  exact ⟨all 0 _ h.1, all 1 _ h.2.1, all 2 _ h.2.2.1, all 3 _ h.2.2.2⟩
set_option maxHeartbeats 1000000 in
set_option maxRecDepth 20000 in
theorem opened_yes (w : World) (n1 n2 n3 : Int) (a : Option Addr) (cap : Nat) (xs : List ByteArray) (s : ByteArray) (hs : s.size ≤ 1048576) (hn : xs.length ≤ 1048576) (hl : Strs w a xs) (hz : ∀ i (hi : i < xs.length), xs[i].size ≤ 1048576) (him : imageB n1 n2 n3 xs s = true) :
    Calls Try.prog 24 #[.agg #[.int .i64 n1, .int .i64 n2, .int .i64 n3, .slice a xs.length cap], .string s] w fun e w' => e = .returned (.tuple #[.agg #[.int .i64 n1, .int .i64 n2, .int .i64 n3, .slice a xs.length cap, .string s, .int .i64 (4 + n2)], .bool true]) ∧ Below w.heap.size w w' := by
  obtain ⟨V, hV⟩ : ∃ V, V = w.alloc (.cells #[.int .i64 n1, .int .i64 n2, .int .i64 n3, .slice a xs.length cap] 29) := ⟨_, rfl⟩
  have hv0 : Below w.heap.size w V := by rw [hV]; exact (Below.refl _ _).alloc (Nat.le_refl _) _
  have hbv : Box4 w.heap.size n1 n2 n3 (.slice a xs.length cap) V := by rw [hV]; exact Box4.start _ _ _ _ _ _
  obtain ⟨W, hW⟩ : ∃ W, W = V.alloc (.cells #[.int .i64 0, .int .i64 0, .int .i64 0, .slice none 0 0, .string ⟨#[]⟩, .int .i64 0] 49) := ⟨_, rfl⟩
  have h6 : Six V.heap.size w W := by rw [hW]; exact Six.start w V hv0 _
  have hvw : Below V.heap.size V W := by rw [hW]; exact (Below.refl _ _).alloc (Nat.le_refl _) _
  have hbx := hbv.below hvw
  have HW : Hid (W = V.alloc (.cells #[.int .i64 0, .int .i64 0, .int .i64 0, .slice none 0 0, .string ⟨#[]⟩, .int .i64 0] 49)) := hW
  have HV : Hid (V = w.alloc (.cells #[.int .i64 n1, .int .i64 n2, .int .i64 n3, .slice a xs.length cap] 29)) := hV
  have HVS : Hid (V.heap.size = w.heap.size + 1) := by show V.heap.size = _; rw [hV]; simp
  have H6 : Hid (Six V.heap.size w W) := h6
  rw [HVS.out] at H6
  have HK : Hid (∀ w', Below W.heap.size W w' → w'.cell? ⟨w.heap.size, 0, none⟩ = some (.int .i64 n1) ∧ w'.cell? ⟨w.heap.size, 1, none⟩ = some (.int .i64 n2) ∧ w'.cell? ⟨w.heap.size, 2, none⟩ = some (.int .i64 n3) ∧ w'.cell? ⟨w.heap.size, 3, none⟩ = some (.slice a xs.length cap)) := fun w' h => ⟨(hbx.below h).c0, (hbx.below h).c1, (hbx.below h).c2, (hbx.below h).c3⟩
  have hlW : Strs W a xs := (hl.below hv0).below hvw
  have hic : configOk n1 n2 n3 xs = true ∧ (s.size : Int) = 64 * n1 := by
    unfold imageB at him
    rw [Bool.and_eq_true] at him
    exact ⟨him.1, of_decide_eq_true him.2⟩
  obtain ⟨g1, g2, _, _, _⟩ := conf_lines hic.1
  have HCF : Hid (∀ w', Below W.heap.size W w' → Calls _ _ _ w' _) := fun w' h => impl_conf w' n1 n2 n3 a cap xs hn (hlW.below h) hz
  have HFD : Hid (∀ w', Below W.heap.size W w' → Calls _ _ _ w' _) := fun w' h => impl_first w' n1 n2 n3 a cap xs hn (hlW.below h) hz
  have HII : Hid (∀ w, Calls _ _ _ w _) := fun w => isImage_any w n1 (.int .i64 n2) (.int .i64 n3) (.slice a xs.length cap) s hs g1 g2
  rw [hic.1] at HCF
  rw [decide_eq_true hic.2] at HII
  have hfd : firstData n1 n2 n3 xs = 4 + n2 := by unfold firstData; rw [hic.1, if_pos rfl]
  rw [hfd] at HFD
  have HNE : Hid (w.heap.size ≠ w.heap.size + 1) := by show w.heap.size ≠ w.heap.size + 1; omega
  generalize 4 + n2 = f at HFD ⊢
  clear hW hV hv0 hbv h6 hvw hbx hl hz him hlW hic g1 g2 hfd
  go_enter Try.func24, Try.ntmps24
  obtain ⟨m0, m1, m2, m3⟩ := HK.out W (Below.refl _ _)
  go_wp2_with fail
  rw [← HV.out, ← HW.out]
  refine (HCF.out W (Below.refl _ _)).mono ?_
  rintro e w2 ⟨rfl, hb2⟩
  have HB2 : Hid (Below W.heap.size W w2) := hb2
  clear m0 m1 m2 m3 hb2
  obtain ⟨m0, m1, m2, m3⟩ := HK.out w2 HB2.out
  go_wp2_with fail
  refine (HII.out _).mono ?_
  rintro e w3 ⟨rfl, hb3⟩
  have HB3 : Hid (Below W.heap.size W w3) := HB2.out.trans (hb3.mono HB2.out.size)
  clear m0 m1 m2 m3 hb3 HB2
  have hacc : Below W.heap.size W w3.drew := HB3.out.drew
  go_wp2_with fail
  go_region_held3 (fun w' => w'.cell? ⟨w.heap.size, 0, none⟩ = some (.int .i64 n1) ∧ w'.cell? ⟨w.heap.size, 1, none⟩ = some (.int .i64 n2) ∧ w'.cell? ⟨w.heap.size, 2, none⟩ = some (.int .i64 n3) ∧ w'.cell? ⟨w.heap.size, 3, none⟩ = some (.slice a xs.length cap)) (first | with_reducible exact HK.out _ hacc | with_reducible exact four_past HNE.out (HK.out _ hacc) _ _ _ _ _ _)
    (first | (go_at_call 37; refine (HFD.out _ hacc).mono ?_; rintro e wF ⟨rfl, hbX⟩; have hac2 : Below W.heap.size W wF := hacc.trans (hbX.mono hacc.size); clear hacc hbX; have hacc := hac2; clear hac2; obtain ⟨⟨v0, e0⟩, ⟨v1, e1⟩, ⟨v2, e2⟩, ⟨v3, e3⟩, ⟨v4, e4⟩, ⟨v5, e5⟩⟩ := And.intro ((H6.out.later hacc).cell 0 (by decide)) (And.intro ((H6.out.later hacc).cell 1 (by decide)) (And.intro ((H6.out.later hacc).cell 2 (by decide)) (And.intro ((H6.out.later hacc).cell 3 (by decide)) (And.intro ((H6.out.later hacc).cell 4 (by decide)) ((H6.out.later hacc).cell 5 (by decide)))))); have f0 := (H6.out.later hacc).free 0 (by decide); have f1 := (H6.out.later hacc).free 1 (by decide); have f2 := (H6.out.later hacc).free 2 (by decide); have f3 := (H6.out.later hacc).free 3 (by decide); have f4 := (H6.out.later hacc).free 4 (by decide); have f5 := (H6.out.later hacc).free 5 (by decide)))
  all_goals
    have H63 : Hid (Six (w.heap.size + 1) w wF) := H6.out.later hacc
    clear e0 e1 e2 e3 e4 e5 f0 f1 f2 f3 f4 f5 hacc
    go_wp2
    refine bodyPost_ret (v := .tuple #[.agg #[.int .i64 n1, .int .i64 n2, .int .i64 n3, .slice a xs.length cap, .string s, .int .i64 f], .bool true]) ?_ rfl ⟨rfl, H63.out.put _ _ _ _ _ _⟩
    obtain ⟨q0, q1, q2, q3, q4, q5⟩ := H63.out.got (.int .i64 n1) (.int .i64 n2) (.int .i64 n3) (.slice a xs.length cap) (.string s) (.int .i64 f)
    unfold put6 at q0 q1 q2 q3 q4 q5
    simp [results, Try.results24, go_sem, q0, q1, q2, q3, q4, q5]
end Go.Proofs.Ythmohmfkgoipkaa.img
