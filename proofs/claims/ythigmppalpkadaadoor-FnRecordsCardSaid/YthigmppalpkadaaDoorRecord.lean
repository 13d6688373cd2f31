/-
  A record's line, by the program and by the specification; nothing that was there is written.
-/
import Derived.Test.YthigmppalpkadaaDoorEpoch
import Derived.Deep.RegionHeld
import Derived.Deep.RegionHeld3
namespace Go.Proofs.YthigmppalpkadaaDoor.crc
open Go.RowKit
open wmath wb num

def byteStr (n : Int) : ByteArray := strOfNums [n % 256]
def recOk (e s h : Int) (old : ByteArray) : Bool := (decide (0 ≤ e) && decide (e ≤ 999999999)) && (decide (0 ≤ s) && decide (s ≤ 31)) && (decide (0 ≤ h) && decide (h ≤ 255)) && ((old.size : Int) == 32)
def recBody (e s h : Int) (old : ByteArray) : ByteArray := (⟨#[85]⟩ : ByteArray) ++ byteStr s ++ shortStr h ++ wordStr e ++ old
def recStr (e s h : Int) (old : ByteArray) : ByteArray := if recOk e s h old = true then sealedStr (recBody e s h old) else ⟨#[]⟩
theorem conv1 (w : World) (T : TypeId) (x0 x1 x2 x3 x4 x5 x6 x7 : Int) :
    (convert 22 9 (.slice (some ⟨w.heap.size, 0, none⟩) 1 8)).run Tryd.prog (w.alloc (.cells #[.int .u8 x0, .int .u8 x1, .int .u8 x2, .int .u8 x3, .int .u8 x4, .int .u8 x5, .int .u8 x6, .int .u8 x7] T)) = .ok (.string (strOfNums [x0])) (w.alloc (.cells #[.int .u8 x0, .int .u8 x1, .int .u8 x2, .int .u8 x3, .int .u8 x4, .int .u8 x5, .int .u8 x6, .int .u8 x7] T)) := by
  simpa using wb.conv_at w T [x0, x1, x2, x3, x4, x5, x6, x7] 1 8 (by simp)
set_option maxHeartbeats 1000000 in
theorem high1 (n : Int) (w : World) (_h : 0 ≤ n) :
    Calls Tryd.prog 42 #[.int .u64 n, .int .i64 1] w fun e w' => e = .returned (.string (byteStr n)) ∧ Below w.heap.size w w' := by
  have hcv := conv1
  go_enter Tryd.func42, Tryd.ntmps42
  go_wp2
  go_rounds 2
  go_wp2
  go_ret
  exact ⟨rfl, by go_grown⟩
theorem byteStr_size (n : Int) : (byteStr n).size = 1 := rfl
theorem shortStr_size (n : Int) : (shortStr n).size = 2 := rfl
theorem recBody_size (e s h : Int) (old : ByteArray) (ho : old.size = 32) : (recBody e s h old).size = 44 := by
  unfold recBody
  rw [ByteArray.size_append, ByteArray.size_append, ByteArray.size_append, ByteArray.size_append, byteStr_size, shortStr_size, wordStr_size, ho]
  rfl
theorem recOk_in {e s h : Int} {old : ByteArray} (hr : recOk e s h old = true) : (0 ≤ e ∧ e ≤ 999999999) ∧ (0 ≤ s ∧ s ≤ 31) ∧ (0 ≤ h ∧ h ≤ 255) ∧ old.size = 32 := by
  unfold recOk at hr
  simp at hr
  omega
set_option maxHeartbeats 1000000 in
theorem recordOk_any (w : World) (e s h : Int) (old : ByteArray) :
    Calls Tryd.prog 65 #[.agg #[.int .i64 e, .int .i64 s, .int .i64 h, .string old]] w fun x w' => x = .returned (.bool (recOk e s h old)) ∧ Below w.heap.size w w' := by
  have H1 : Hid (∀ w, _) := fun w => eWithin w e 0 999999999
  have H2 : Hid (∀ w, _) := fun w => eWithin w s 0 31
  have H3 : Hid (∀ w, _) := fun w => eWithin w h 0 255
  have HR : Hid (recOk e s h old = ((decide (0 ≤ e) && decide (e ≤ 999999999)) && (decide (0 ≤ s) && decide (s ≤ 31)) && (decide (0 ≤ h) && decide (h ≤ 255)) && ((old.size : Int) == 32))) := rfl
  generalize recOk e s h old = r at HR ⊢
  generalize (decide (0 ≤ e) && decide (e ≤ 999999999)) = q1 at H1 HR
  generalize (decide (0 ≤ s) && decide (s ≤ 31)) = q2 at H2 HR
  generalize (decide (0 ≤ h) && decide (h ≤ 255)) = q3 at H3 HR
  have HB : Hid (Below w.heap.size w (w.alloc (.cells #[.int .i64 e, .int .i64 s, .int .i64 h, .string old] 35))) := by show Below _ _ _; go_grown
  cases q1 with
  | false =>
    go_enter Tryd.func65, Tryd.ntmps65
    go_wp2_with fail
    refine (H1.out _).mono ?_
    rintro x w' ⟨rfl, rfl⟩
    go_wp2
    go_ret
    exact ⟨by rw [HR.out]; rfl, HB.out⟩
  | true =>
    cases q2 with
    | false =>
      go_enter Tryd.func65, Tryd.ntmps65
      go_wp2_with fail
      refine (H1.out _).mono ?_
      rintro x w' ⟨rfl, rfl⟩
      go_wp2_with fail
      refine (H2.out _).mono ?_
      rintro x w' ⟨rfl, rfl⟩
      go_wp2
      go_ret
      exact ⟨by rw [HR.out]; rfl, HB.out⟩
    | true =>
      cases q3 with
      | false =>
        go_enter Tryd.func65, Tryd.ntmps65
        go_wp2_with fail
        refine (H1.out _).mono ?_
        rintro x w' ⟨rfl, rfl⟩
        go_wp2_with fail
        refine (H2.out _).mono ?_
        rintro x w' ⟨rfl, rfl⟩
        go_wp2_with fail
        refine (H3.out _).mono ?_
        rintro x w' ⟨rfl, rfl⟩
        go_wp2
        go_ret
        exact ⟨by rw [HR.out]; rfl, HB.out⟩
      | true =>
        go_enter Tryd.func65, Tryd.ntmps65
        go_wp2_with fail
        refine (H1.out _).mono ?_
        rintro x w' ⟨rfl, rfl⟩
        go_wp2_with fail
        refine (H2.out _).mono ?_
        rintro x w' ⟨rfl, rfl⟩
        go_wp2_with fail
        refine (H3.out _).mono ?_
        rintro x w' ⟨rfl, rfl⟩
        go_wp2
        go_ret
        exact ⟨by rw [HR.out]; rfl, HB.out⟩
set_option maxHeartbeats 2000000 in
theorem impl_record (w : World) (e s h : Int) (old : ByteArray) (_ho : old.size ≤ 1048576) (ht : TabAt w) (h0 : 0 < w.heap.size) :
    Calls Tryd.prog 22 #[.agg #[.int .i64 e, .int .i64 s, .int .i64 h, .string old]] w fun x w' => x = .returned (.string (recStr e s h old)) ∧ Below w.heap.size w w' := by
  obtain ⟨W, hW⟩ : ∃ W, W = w.alloc (.cells #[.int .i64 e, .int .i64 s, .int .i64 h, .string old] 35) := ⟨_, rfl⟩
  have hb0 : Below w.heap.size w W := by rw [hW]; exact (Below.refl _ _).alloc (Nat.le_refl _) _
  have hsz : w.heap.size < W.heap.size := by rw [hW]; simp
  have HCS : Hid (∀ w', Below W.heap.size W w' → w'.cell? ⟨w.heap.size, 0, none⟩ = some (.int .i64 e) ∧ w'.cell? ⟨w.heap.size, 1, none⟩ = some (.int .i64 s) ∧ w'.cell? ⟨w.heap.size, 2, none⟩ = some (.int .i64 h) ∧ w'.cell? ⟨w.heap.size, 3, none⟩ = some (.string old)) := fun w' hb =>
    ⟨by rw [hb.cell (p := ⟨w.heap.size, 0, none⟩) hsz, hW, World.cell?_alloc_new]; rfl, by rw [hb.cell (p := ⟨w.heap.size, 1, none⟩) hsz, hW, World.cell?_alloc_new]; rfl, by rw [hb.cell (p := ⟨w.heap.size, 2, none⟩) hsz, hW, World.cell?_alloc_new]; rfl, by rw [hb.cell (p := ⟨w.heap.size, 3, none⟩) hsz, hW, World.cell?_alloc_new]; rfl⟩
  have HW : Hid (W = w.alloc (.cells #[.int .i64 e, .int .i64 s, .int .i64 h, .string old] 35)) := hW
  have HB0 : Hid (Below w.heap.size w W) := hb0
  have HT : Hid (∀ w', Below W.heap.size W w' → TabAt w' ∧ 0 < w'.heap.size) := fun w' hb => ⟨(ht.below hb0 h0).below hb (Nat.lt_of_lt_of_le h0 hb0.size), Nat.lt_of_lt_of_le h0 (Nat.le_trans hb0.size hb.size)⟩
  have HO : Hid (∀ w, Calls _ _ _ w _) := fun w => recordOk_any w e s h old
  have HRS : Hid (recStr e s h old = if recOk e s h old = true then sealedStr (recBody e s h old) else ⟨#[]⟩) := rfl
  generalize recStr e s h old = res at HRS ⊢
  clear hW hb0 ht
  cases hr : recOk e s h old with
  | false =>
    rw [hr] at HO HRS
    have HR : Hid (res = ⟨#[]⟩) := HRS.out
    clear hr
    go_enter Tryd.func22, Tryd.ntmps22
    go_wp2_with fail
    rw [← HW.out]
    refine (HO.out _).mono ?_
    rintro x w1 ⟨rfl, hb1⟩
    have HB1 : Hid (Below w.heap.size w w1) := HB0.out.trans (hb1.mono HB0.out.size)
    clear hb1
    go_wp2
    go_ret
    exact ⟨by rw [HR.out]; rfl, HB1.out⟩
  | true =>
    obtain ⟨⟨he0, he1⟩, ⟨hs0, hs1⟩, ⟨hh0, hh1⟩, ho32⟩ := recOk_in hr
    rw [hr] at HO HRS
    have HSE : Hid (∀ w, TabAt w → 0 < w.heap.size → Calls _ _ _ w _) := fun w q1 q2 => impl_sealed (recBody e s h old) w (by rw [recBody_size e s h old ho32]; omega) q1 q2
    have HR : Hid (res = sealedStr (recBody e s h old)) := HRS.out
    have HBD : Hid (recBody e s h old = (⟨#[85]⟩ : ByteArray) ++ byteStr s ++ shortStr h ++ wordStr e ++ old) := rfl
    have H1 : Hid (∀ w, Calls _ _ _ w _) := fun w => high1 s w hs0
    have H2 : Hid (∀ w, Calls _ _ _ w _) := fun w => impl_short_in h w hh0 (by omega)
    have H3 : Hid (∀ w, Calls Tryd.prog 66 #[.int .i64 e] w fun x w' => x = .returned (.string (wordStr e)) ∧ Below w.heap.size w w') := fun w => by
      have := impl_word e w
      rwa [show IntKind.u64.wrap e = e by rw [IntKind.wrap_u64]; omega] at this
    have hsw : IntKind.u64.wrap s = s := by rw [IntKind.wrap_u64]; omega
    have z1 := byteStr_size s
    have z2 := shortStr_size h
    have z3 := wordStr_size e
    generalize sealedStr (recBody e s h old) = sl at HSE HR
    rw [HBD.out] at HSE
    generalize byteStr s = b1 at H1 HSE z1
    generalize shortStr h = b2 at H2 HSE z2
    generalize wordStr e = b3 at H3 HSE z3
    clear hr HBD
    go_enter Tryd.func22, Tryd.ntmps22
    go_wp2_with fail
    rw [← HW.out]
    refine (HO.out _).mono ?_
    rintro x w1 ⟨rfl, hb1⟩
    have h1 : Below W.heap.size W w1.drew := hb1.drew
    have HH1 : Hid (Below W.heap.size W w1) := hb1
    clear hb1
    go_wp2
    go_region_held3 (fun w' => w'.cell? ⟨w.heap.size, 0, none⟩ = some (.int .i64 e) ∧ w'.cell? ⟨w.heap.size, 1, none⟩ = some (.int .i64 s) ∧ w'.cell? ⟨w.heap.size, 2, none⟩ = some (.int .i64 h) ∧ w'.cell? ⟨w.heap.size, 3, none⟩ = some (.string old))
      (first | exact HCS.out _ h1 | exact HCS.out _ h2 | exact HCS.out _ h3 | exact HCS.out _ h4 | exact HCS.out _ h5)
      (first | (go_at_call 42; refine (H1.out _).mono ?_; rintro x w2 ⟨rfl, hb2⟩; have h2 : Below W.heap.size W w2 := h1.trans (hb2.mono h1.size)) | (go_at_call 41; refine (H2.out _).mono ?_; rintro x w3 ⟨rfl, hb3⟩; have h3 : Below W.heap.size W w3 := h2.trans (hb3.mono h2.size)) | (go_at_call 66; refine (H3.out _).mono ?_; rintro x w4 ⟨rfl, hb4⟩; have h4 : Below W.heap.size W w4 := h3.trans (hb4.mono h3.size)) | (go_at_call 44; refine (HSE.out _ (HT.out _ h4).1 (HT.out _ h4).2).mono ?_; rintro x w5 ⟨rfl, hb5⟩; have h5 : Below W.heap.size W w5 := h4.trans (hb5.mono h4.size)))
    all_goals
      have HB5 : Hid (Below w.heap.size w w5) := HB0.out.trans (h5.mono HB0.out.size)
      go_wp2
      go_ret
      exact ⟨by rw [HR.out]; rfl, HB5.out⟩
theorem cell_after {X w2 : World} {g : Nat} {v : Value} (hc : X.cell? ⟨g, 0, none⟩ = some v) (hb : Below X.heap.size X w2) : w2.cell? ⟨g, 0, none⟩ = some v := by
  rw [hb.cell (p := ⟨g, 0, none⟩) (World.block_lt_of_cell? X _ hc)]; exact hc
theorem conv_cell {w : World} {g : Nat} {x : Int} (hc : w.cell? ⟨g, 0, none⟩ = some (.int .u8 x)) : (convert 22 9 (.slice (some ⟨g, 0, none⟩) 1 1)).run Tryd.prog w = .ok (.string (strOfNums [x])) w := by
  refine run_convert_bytes_arg (P := Tryd.prog) w 22 5 Tryd.underlying22 Tryd.underlying5 g 0 1 1 [x] rfl ?_ 9 Tryd.underlying9
  intro i hi
  obtain rfl : i = 0 := by omega
  simpa using hc
theorem cell_new (Y : World) (x : Int) (T : TypeId) : (Y.alloc (.cells #[.int .u8 x] T)).cell? ⟨Y.heap.size, 0, none⟩ = some (.int .u8 x) := by rw [World.cell?_alloc_new]; rfl
theorem cell_new_drew (Y : World) (x : Int) (T : TypeId) : (Y.alloc (.cells #[.int .u8 x] T)).drew.cell? ⟨Y.heap.size, 0, none⟩ = some (.int .u8 x) := cell_new Y x T
set_option maxHeartbeats 4000000 in
theorem spec_record (w : World) (e s h : Int) (old : ByteArray) (_ho : old.size ≤ 1048576) :
    Calls Tryd.prog 26 #[.agg #[.int .i64 e, .int .i64 s, .int .i64 h, .string old]] w fun x w' => x = .returned (.string (recStr e s h old)) ∧ Below w.heap.size w w' := by
  obtain ⟨W, hW⟩ : ∃ W, W = w.alloc (.cells #[.int .i64 e, .int .i64 s, .int .i64 h, .string old] 35) := ⟨_, rfl⟩
  have hb0 : Below w.heap.size w W := by rw [hW]; exact (Below.refl _ _).alloc (Nat.le_refl _) _
  have hsz : w.heap.size < W.heap.size := by rw [hW]; simp
  have HCS : Hid (∀ w', Below W.heap.size W w' → w'.cell? ⟨w.heap.size, 0, none⟩ = some (.int .i64 e) ∧ w'.cell? ⟨w.heap.size, 1, none⟩ = some (.int .i64 s) ∧ w'.cell? ⟨w.heap.size, 2, none⟩ = some (.int .i64 h) ∧ w'.cell? ⟨w.heap.size, 3, none⟩ = some (.string old)) := fun w' hb =>
    ⟨by rw [hb.cell (p := ⟨w.heap.size, 0, none⟩) hsz, hW, World.cell?_alloc_new]; rfl, by rw [hb.cell (p := ⟨w.heap.size, 1, none⟩) hsz, hW, World.cell?_alloc_new]; rfl, by rw [hb.cell (p := ⟨w.heap.size, 2, none⟩) hsz, hW, World.cell?_alloc_new]; rfl, by rw [hb.cell (p := ⟨w.heap.size, 3, none⟩) hsz, hW, World.cell?_alloc_new]; rfl⟩
  have HW : Hid (W = w.alloc (.cells #[.int .i64 e, .int .i64 s, .int .i64 h, .string old] 35)) := hW
  have HB0 : Hid (Below w.heap.size w W) := hb0
  have H1 : Hid (∀ w, _) := fun w => eIn w e 0 999999999
  have H2 : Hid (∀ w, _) := fun w => eIn w s 0 31
  have H3 : Hid (∀ w, _) := fun w => eIn w h 0 255
  have HRO : Hid (recOk e s h old = ((decide (0 ≤ e) && decide (e ≤ 999999999)) && (decide (0 ≤ s) && decide (s ≤ 31)) && (decide (0 ≤ h) && decide (h ≤ 255)) && ((old.size : Int) == 32))) := rfl
  have HRS : Hid (recStr e s h old = if recOk e s h old = true then sealedStr (recBody e s h old) else ⟨#[]⟩) := rfl
  have HIN : Hid (recOk e s h old = true → (0 ≤ e ∧ e ≤ 999999999) ∧ (0 ≤ s ∧ s ≤ 31) ∧ (0 ≤ h ∧ h ≤ 255) ∧ old.size = 32) := recOk_in
  generalize recStr e s h old = res at HRS ⊢
  generalize recOk e s h old = ro at HRS HRO HIN
  generalize (decide (0 ≤ e) && decide (e ≤ 999999999)) = q1 at H1 HRO
  generalize (decide (0 ≤ s) && decide (s ≤ 31)) = q2 at H2 HRO
  generalize (decide (0 ≤ h) && decide (h ≤ 255)) = q3 at H3 HRO
  obtain ⟨m0, m1, m2, m3⟩ := HCS.out W (Below.refl _ _)
  clear hW hb0
  cases q1 with
  | false =>
    have HR : Hid (res = ⟨#[]⟩) := by show res = _; rw [HRS.out, HRO.out]; rfl
    go_enter Tryd.func26, Tryd.ntmps26
    go_wp2_with fail
    rw [← HW.out]
    refine (H1.out _).mono ?_
    rintro x w' ⟨rfl, rfl⟩
    go_wp2
    go_ret
    exact ⟨by rw [HR.out]; rfl, HB0.out⟩
  | true =>
    cases q2 with
    | false =>
      have HR : Hid (res = ⟨#[]⟩) := by show res = _; rw [HRS.out, HRO.out]; rfl
      go_enter Tryd.func26, Tryd.ntmps26
      go_wp2_with fail
      rw [← HW.out]
      refine (H1.out _).mono ?_
      rintro x w' ⟨rfl, rfl⟩
      go_wp2_with fail
      refine (H2.out _).mono ?_
      rintro x w' ⟨rfl, rfl⟩
      go_wp2
      go_ret
      exact ⟨by rw [HR.out]; rfl, HB0.out⟩
    | true =>
      cases q3 with
      | false =>
        have HR : Hid (res = ⟨#[]⟩) := by show res = _; rw [HRS.out, HRO.out]; rfl
        go_enter Tryd.func26, Tryd.ntmps26
        go_wp2_with fail
        rw [← HW.out]
        refine (H1.out _).mono ?_
        rintro x w' ⟨rfl, rfl⟩
        go_wp2_with fail
        refine (H2.out _).mono ?_
        rintro x w' ⟨rfl, rfl⟩
        go_wp2_with fail
        refine (H3.out _).mono ?_
        rintro x w' ⟨rfl, rfl⟩
        go_wp2
        go_ret
        exact ⟨by rw [HR.out]; rfl, HB0.out⟩
      | true =>
        by_cases h32 : old.size = 32
        · have hne : ((old.size : Int) != 32) = false := by rw [h32]; rfl
          have hro : ro = true := by rw [HRO.out, h32]; rfl
          obtain ⟨⟨he0, he1⟩, ⟨hs0, hs1⟩, ⟨hh0, hh1⟩, _⟩ := HIN.out hro
          have HSE : Hid (∀ w, Calls _ _ _ w _) := fun w => spec_sealed (recBody e s h old) w (by rw [recBody_size e s h old h32]; omega)
          have HR : Hid (res = sealedStr (recBody e s h old)) := by show res = _; rw [HRS.out, hro]; rfl
          have hb1 : byteStr s = strOfNums [s] := by unfold byteStr; rw [show s % 256 = s by omega]
          have HBD : Hid (recBody e s h old = (⟨#[85]⟩ : ByteArray) ++ strOfNums [s] ++ shortStr h ++ wordStr e ++ old) := by show recBody e s h old = _; unfold recBody; rw [hb1]
          have K2 : Hid (∀ w, Calls _ _ _ w _) := fun w => spec_short_in h w hh0 (by omega)
          have K3 : Hid (∀ w, Calls Tryd.prog 71 #[.int .i64 e] w fun x w' => x = .returned (.string (wordStr e)) ∧ Below w.heap.size w w') := fun w => by
            have := spec_word e w
            rwa [show IntKind.u64.wrap e = e by rw [IntKind.wrap_u64]; omega] at this
          have hsw : IntKind.u8.wrap s = s := by rw [IntKind.wrap_u8']; omega
          have z1 : (strOfNums [s]).size = 1 := rfl
          have z2 := shortStr_size h
          have z3 := wordStr_size e
          have hcv : ∀ w : World, ∀ T, (convert 22 9 (.slice (some ⟨w.heap.size, 0, none⟩) 1 1)).run Tryd.prog (w.alloc (.cells #[.int .u8 s] T)) = .ok (.string (strOfNums [s])) (w.alloc (.cells #[.int .u8 s] T)) := fun w T => conv_cell (cell_new w s T)
          have hcd : ∀ w : World, ∀ T, (convert 22 9 (.slice (some ⟨w.heap.size, 0, none⟩) 1 1)).run Tryd.prog (w.alloc (.cells #[.int .u8 s] T)).drew = .ok (.string (strOfNums [s])) (w.alloc (.cells #[.int .u8 s] T)).drew := fun w T => conv_cell (cell_new_drew w s T)
          have CC : Hid (∀ (w : World) (g : Nat), w.cell? ⟨g, 0, none⟩ = some (.int .u8 s) → (convert 22 9 (.slice (some ⟨g, 0, none⟩) 1 1)).run Tryd.prog w = .ok (.string (strOfNums [s])) w) := fun w g hc => conv_cell hc
          generalize sealedStr (recBody e s h old) = sl at HSE HR
          rw [HBD.out] at HSE
          generalize strOfNums [s] = b1 at HSE z1 hcv hcd CC
          generalize shortStr h = b2 at K2 HSE z2
          generalize wordStr e = b3 at K3 HSE z3
          have h1 : Below W.heap.size W W.drew := (Below.refl _ _).drew
          clear HBD HRS HRO HIN hb1
          go_enter Tryd.func26, Tryd.ntmps26
          go_wp2_with fail
          rw [← HW.out]
          refine (H1.out _).mono ?_
          rintro x w' ⟨rfl, rfl⟩
          go_wp2_with fail
          refine (H2.out _).mono ?_
          rintro x w' ⟨rfl, rfl⟩
          go_wp2_with fail
          refine (H3.out _).mono ?_
          rintro x w' ⟨rfl, rfl⟩
          go_wp2
          clear m0 m1 m2 m3
          go_region_held (fun w' => w'.cell? ⟨w.heap.size, 0, none⟩ = some (.int .i64 e) ∧ w'.cell? ⟨w.heap.size, 1, none⟩ = some (.int .i64 s) ∧ w'.cell? ⟨w.heap.size, 2, none⟩ = some (.int .i64 h) ∧ w'.cell? ⟨w.heap.size, 3, none⟩ = some (.string old))
            (first | exact HCS.out _ h1 | exact HCS.out _ (h1.alloc h1.size _) | exact HCS.out _ h3 | exact HCS.out _ (h3.alloc h3.size _) | exact HCS.out _ h4 | exact HCS.out _ (h4.alloc h4.size _) | exact HCS.out _ h5)
            (first | (go_at_call 70; refine (K2.out _).mono ?_; rintro x w3 ⟨rfl, hb3⟩; have h3 : Below W.heap.size W w3 := (by first | exact h1.trans (hb3.mono h1.size) | exact (h1.alloc h1.size _).trans (hb3.mono (h1.alloc h1.size _).size)); first | (have hc3 := cell_after (cell_new_drew _ s _) hb3; have hv3 := CC.out _ _ hc3) | skip) | (go_at_call 71; refine (K3.out _).mono ?_; rintro x w4 ⟨rfl, hb4⟩; have h4 : Below W.heap.size W w4 := (by first | exact h3.trans (hb4.mono h3.size) | exact (h3.alloc h3.size _).trans (hb4.mono (h3.alloc h3.size _).size)); first | (have hc4 := cell_after (cell_new _ s _) hb4; have hv4 := CC.out _ _ hc4) | (have hc4 := cell_after hc3 hb4; have hv4 := CC.out _ _ hc4) | skip) | (go_at_call 49; refine (HSE.out _).mono ?_; rintro x w5 ⟨rfl, hb5⟩; have h5 : Below W.heap.size W w5 := (by first | exact h4.trans (hb5.mono h4.size) | exact (h4.alloc h4.size _).trans (hb5.mono (h4.alloc h4.size _).size))))
          all_goals
            have HB5 : Hid (Below w.heap.size w w5) := HB0.out.trans (h5.mono HB0.out.size)
            go_wp2
            go_ret
            exact ⟨by rw [HR.out]; rfl, HB5.out⟩
        · have hne : ((old.size : Int) != 32) = true := by simp; omega
          have HR : Hid (res = ⟨#[]⟩) := by
            show res = _
            rw [HRS.out, HRO.out, show ((old.size : Int) == 32) = false by simp; omega]; rfl
          go_enter Tryd.func26, Tryd.ntmps26
          go_wp2_with fail
          rw [← HW.out]
          refine (H1.out _).mono ?_
          rintro x w' ⟨rfl, rfl⟩
          go_wp2_with fail
          refine (H2.out _).mono ?_
          rintro x w' ⟨rfl, rfl⟩
          go_wp2_with fail
          refine (H3.out _).mono ?_
          rintro x w' ⟨rfl, rfl⟩
          go_wp2
          go_ret
          exact ⟨by rw [HR.out]; rfl, HB0.out⟩
end Go.Proofs.YthigmppalpkadaaDoor.crc
