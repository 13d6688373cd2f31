/-
  The line that says what a config is, by the specification; nothing that was there is written.
-/
import Derived.Test.YtpkdkkjdlhillaaDoorSuper
namespace Go.Proofs.YtpkdkkjdlhillaaDoor.crc
open Go.RowKit
open wmath wb num kinds

theorem conv_four (w : World) (T : TypeId) (x0 x1 x2 x3 : Int) :
    (convert 22 9 (.slice (some ⟨w.heap.size, 0, none⟩) 4 4)).run Tryd.prog (w.alloc (.cells #[.int .u8 x0, .int .u8 x1, .int .u8 x2, .int .u8 x3] T)) = .ok (.string (strOfNums [x0, x1, x2, x3])) (w.alloc (.cells #[.int .u8 x0, .int .u8 x1, .int .u8 x2, .int .u8 x3] T)) := by
  simpa using wb.conv_at w T [x0, x1, x2, x3] 4 4 (by simp)
set_option maxHeartbeats 8000000 in
theorem spec_l3super (w : World) (n1 n2 n3 : Int) (a : Option Addr) (cap : Nat) (xs : List ByteArray) (hl : Strs w a xs) (hr : configOk n1 n2 n3 xs = true) :
    Calls Tryd.prog 42 #[.agg #[.int .i64 n1, .int .i64 n2, .int .i64 n3, .slice a xs.length cap]] w fun x w' => x = .returned (.string (sealedStr (upTo n1 n2 n3 xs xs.length))) ∧ Below w.heap.size w w' := by
  obtain ⟨W, hW⟩ : ∃ W, W = w.alloc (.cells #[.int .i64 n1, .int .i64 n2, .int .i64 n3, .slice a xs.length cap] 26) := ⟨_, rfl⟩
  have hb0 : Below w.heap.size w W := by rw [hW]; exact (Below.refl _ _).alloc (Nat.le_refl _) _
  have hsz : w.heap.size < W.heap.size := by rw [hW]; simp
  have HCS : Hid (∀ w', Below W.heap.size W w' → w'.cell? ⟨w.heap.size, 0, none⟩ = some (.int .i64 n1) ∧ w'.cell? ⟨w.heap.size, 1, none⟩ = some (.int .i64 n2) ∧ w'.cell? ⟨w.heap.size, 2, none⟩ = some (.int .i64 n3) ∧ w'.cell? ⟨w.heap.size, 3, none⟩ = some (.slice a xs.length cap)) := fun w' hb =>
    ⟨by rw [hb.cell (p := ⟨w.heap.size, 0, none⟩) hsz, hW, World.cell?_alloc_new]; rfl, by rw [hb.cell (p := ⟨w.heap.size, 1, none⟩) hsz, hW, World.cell?_alloc_new]; rfl, by rw [hb.cell (p := ⟨w.heap.size, 2, none⟩) hsz, hW, World.cell?_alloc_new]; rfl, by rw [hb.cell (p := ⟨w.heap.size, 3, none⟩) hsz, hW, World.cell?_alloc_new]; rfl⟩
  have HW : Hid (W = w.alloc (.cells #[.int .i64 n1, .int .i64 n2, .int .i64 n3, .slice a xs.length cap] 26)) := hW
  have HB0 : Hid (Below w.heap.size w W) := hb0
  have HST : Hid (∀ w', Below W.heap.size W w' → Strs w' a xs) := fun w' hb => (hl.below hb0).below hb
  clear hW hb0 hl
  obtain ⟨⟨a1, a2⟩, ⟨b1, b2, _⟩, ⟨c1, c2⟩, hx12, hty⟩ := conf_in hr
  have HTY : Hid (∀ i (hi : i < xs.length), isType xs[i] = true) := hty
  have hbs := upTo_size n1 n2 n3 xs
  have HSE : Hid (∀ w, Calls _ _ _ w _) := fun w => spec_sealed (upTo n1 n2 n3 xs xs.length) w (by rw [hbs _ (Nat.le_refl _)]; omega)
  have K1 : Hid (∀ w, Calls _ _ _ w _) := fun w => spec_short_in n1 w (by omega) (by omega)
  have K2 : Hid (∀ w, Calls _ _ _ w _) := fun w => spec_short_in n2 w (by omega) (by omega)
  have K3 : Hid (∀ w, Calls _ _ _ w _) := fun w => spec_short_in n3 w (by omega) (by omega)
  have HU0 : Hid (upTo n1 n2 n3 xs 0 = (⟨#[78, 86, 71, 49]⟩ : ByteArray) ++ shortStr n1 ++ shortStr n2 ++ shortStr n3 ++ strOfNums [(xs.length : Int)]) := by
    show headStr n1 n2 n3 ++ byteStr (xs.length : Int) = _
    unfold byteStr
    rw [show (xs.length : Int) % 256 = (xs.length : Int) by omega]
    rfl
  have z1 := shortStr_size n1
  have z2 := shortStr_size n2
  have z3 := shortStr_size n3
  have zb : (strOfNums [(xs.length : Int)]).size = 1 := rfl
  have hw1 : IntKind.u8.wrap (xs.length : Int) = (xs.length : Int) := by rw [IntKind.wrap_u8']; omega
  have CC : Hid (∀ (w : World) (g : Nat), w.cell? ⟨g, 0, none⟩ = some (.int .u8 (xs.length : Int)) → (convert 22 9 (.slice (some ⟨g, 0, none⟩) 1 1)).run Tryd.prog w = .ok (.string (strOfNums [(xs.length : Int)])) w) := fun w g hc => conv_cell hc
  have hcv : ∀ w : World, ∀ T, (convert 22 9 (.slice (some ⟨w.heap.size, 0, none⟩) 1 1)).run Tryd.prog (w.alloc (.cells #[.int .u8 (xs.length : Int)] T)) = .ok (.string (strOfNums [(xs.length : Int)])) (w.alloc (.cells #[.int .u8 (xs.length : Int)] T)) := fun w T => conv_cell (cell_new w _ T)
  have hcd : ∀ w : World, ∀ T, (convert 22 9 (.slice (some ⟨w.heap.size, 0, none⟩) 1 1)).run Tryd.prog (w.alloc (.cells #[.int .u8 (xs.length : Int)] T)).drew = .ok (.string (strOfNums [(xs.length : Int)])) (w.alloc (.cells #[.int .u8 (xs.length : Int)] T)).drew := fun w T => conv_cell (cell_new_drew w _ T)
  clear hr hty
  have h1 : Below W.heap.size W W.drew := (Below.refl _ _).drew
  obtain ⟨m0, m1, m2, m3⟩ := HCS.out W (Below.refl _ _)
  go_enter Tryd.func42, Tryd.ntmps42
  go_upto_region 1 with (rw [← HW.out])
  clear m0 m1 m2 m3
  go_cut [3] (fun s wx => s = .string (upTo n1 n2 n3 xs 0) ∧ Below W.heap.size W wx)
  case first =>
    try rw [← HW.out]
    generalize shortStr n1 = s1 at K1 z1 HU0
    generalize shortStr n2 = s2 at K2 z2 HU0
    generalize shortStr n3 = s3 at K3 z3 HU0
    generalize strOfNums [(xs.length : Int)] = s4 at CC hcv hcd zb HU0
    go_region_held (fun w' => w'.cell? ⟨w.heap.size, 0, none⟩ = some (.int .i64 n1) ∧ w'.cell? ⟨w.heap.size, 1, none⟩ = some (.int .i64 n2) ∧ w'.cell? ⟨w.heap.size, 2, none⟩ = some (.int .i64 n3) ∧ w'.cell? ⟨w.heap.size, 3, none⟩ = some (.slice a xs.length cap))
      (first | exact HCS.out _ h1 | exact HCS.out _ (h1.alloc h1.size _) | exact HCS.out _ h2 | exact HCS.out _ (h2.alloc h2.size _) | exact HCS.out _ h3 | exact HCS.out _ (h3.alloc h3.size _) | exact HCS.out _ h4 | exact HCS.out _ (h4.alloc h4.size _))
      (first | (go_at_call 62; have hq := h3; clear hq; refine (K3.out _).mono ?_; rintro x w4 ⟨rfl, hb4⟩; have h4 : Below W.heap.size W w4 := (by first | exact h3.trans (hb4.mono h3.size) | exact (h3.alloc h3.size _).trans (hb4.mono (h3.alloc h3.size _).size)); first | (have hc4 := cell_after (cell_new _ (xs.length : Int) _) hb4; have hv4 := CC.out _ _ hc4) | (have hc4 := cell_after hc3 hb4; have hv4 := CC.out _ _ hc4) | skip) | (go_at_call 62; have hq := h2; clear hq; refine (K2.out _).mono ?_; rintro x w3 ⟨rfl, hb3⟩; have h3 : Below W.heap.size W w3 := (by first | exact h2.trans (hb3.mono h2.size) | exact (h2.alloc h2.size _).trans (hb3.mono (h2.alloc h2.size _).size)); first | (have hc3 := cell_after (cell_new _ (xs.length : Int) _) hb3; have hv3 := CC.out _ _ hc3) | (have hc3 := cell_after hc2 hb3; have hv3 := CC.out _ _ hc3) | skip) | (go_at_call 62; refine (K1.out _).mono ?_; rintro x w2 ⟨rfl, hb2⟩; have h2 : Below W.heap.size W w2 := (by first | exact h1.trans (hb2.mono h1.size) | exact (h1.alloc h1.size _).trans (hb2.mono (h1.alloc h1.size _).size)); first | (have hc2 := cell_after (cell_new_drew _ (xs.length : Int) _) hb2; have hv2 := CC.out _ _ hc2) | skip))
    all_goals
      go_wp2_with fail
      go_meet
      exact ⟨by rw [HU0.out], by first | exact h4 | exact h4.alloc h4.size _⟩
  case rest =>
    obtain ⟨rfl, hc⟩ := hcut
    have HC : Hid (Below W.heap.size W wc) := hc
    clear hc h1 hcv hcd
    go_wp2
    go_loopw [3, 4] (fun s i wr => ∃ k : Nat, k ≤ xs.length ∧ i = .int .i64 (k : Int) ∧ s = .string (upTo n1 n2 n3 xs k) ∧ Below W.heap.size W wr) (fun _ i _ => xs.length - (intOf i).toNat)
    case atStart => exact ⟨0, Nat.zero_le _, rfl, rfl, HC.out⟩
    case round =>
      obtain ⟨k, hk, rfl, rfl, hbr⟩ := hrel
      have HBR : Hid (Below W.heap.size W wr) := hbr
      clear hbr
      obtain ⟨m0, m1, m2, m3⟩ := HCS.out wr HBR.out
      clear m0 m1 m2
      by_cases hlt : (k : Int) < (xs.length : Int)
      · have hkl : k < xs.length := by omega
        obtain ⟨b, off, rfl, c0⟩ := HST.out wr HBR.out k hkl
        have hs23 := isType_size (HTY.out k hkl)
        have HUS : Hid (upTo n1 n2 n3 xs (k + 1) = upTo n1 n2 n3 xs k ++ typeStr xs[k]) := by
          show upTo n1 n2 n3 xs (k + 1) = _
          rw [upTo, dif_pos hkl]
        have zu := hbs k hk
        generalize upTo n1 n2 n3 xs k = tx at HUS zu ⊢
        generalize xs[k] = kd at c0 hs23 HUS
        go_wp2
        go_loopw [5, 6] (fun m j wq => ∃ q : Nat, q ≤ kd.size ∧ j = .int .i64 (q : Int) ∧ m = .int .i64 ((maskN kd q : Nat) : Int) ∧ wq = wr) (fun _ j _ => kd.size - (intOf j).toNat)
        case atStart => exact ⟨0, Nat.zero_le _, rfl, rfl, rfl⟩
        case round =>
          obtain ⟨q, hq, rfl, rfl, rfl⟩ := hrel
          by_cases hlq : (q : Int) < (kd.size : Int)
          · have hqs : q < kd.size := by omega
            have h223 := pow_23 (show q < 23 by omega)
            have hml := maskN_lt kd q
            have HM : Hid (maskN kd (q + 1) = if (kd[q].toNat : Int) = 114 then maskN kd q + 2 ^ q else maskN kd q) := by
              show maskN kd (q + 1) = if (kd[q].toNat : Int) = 114 then maskN kd q + 2 ^ q else maskN kd q
              rw [maskN, dif_pos hqs]
            have HOR := or_i64 (maskN kd q) (2 ^ q) (by omega) (by omega)
            rw [or_pow hml] at HOR
            by_cases h114 : (kd[q].toNat : Int) = 114
            · have e1 : ((kd[q].toNat : Int) == 114) = true := by simpa using h114
              rw [if_pos h114] at HM
              have hp2 : wrap64 ((2 : Int) ^ q) = ((2 ^ q : Nat) : Int) := by
                have e0 : ((2 : Int) ^ q) = ((2 ^ q : Nat) : Int) := by rw [Int.natCast_pow]; rfl
                rw [e0]
                unfold wrap64
                omega
              have HOR2 : Hid (bits BinOp.or IntKind.i64 ((maskN kd q : Nat) : Int) (wrap64 ((2 : Int) ^ q)) = ((maskN kd (q + 1) : Nat) : Int)) := by
                show bits BinOp.or IntKind.i64 ((maskN kd q : Nat) : Int) (wrap64 ((2 : Int) ^ q)) = ((maskN kd (q + 1) : Nat) : Int)
                rw [hp2, HOR, HM.out]
              clear hp2 HOR HM h114 hml h223
              go_wp2
              go_roundw
              case rel => exact ⟨q + 1, by omega, by go_num, by rw [HOR2.out], trivial⟩
              case measure => simp [intOf]; omega
            · have e1 : ((kd[q].toNat : Int) == 114) = false := by simpa using h114
              rw [if_neg h114] at HM
              generalize maskN kd q = mq at HM
              clear HOR hml
              go_wp2
              go_roundw
              case rel => exact ⟨q + 1, by omega, by go_num, by rw [HM.out], trivial⟩
              case measure => simp [intOf]; omega
          · obtain rfl : q = kd.size := by omega
            have hcv4 := conv_four
            have hml := maskN_lt kd kd.size
            have h223 : (2 : Nat) ^ kd.size ≤ 8388608 := by
              have := Nat.pow_le_pow_right (n := 2) (by decide) hs23.2
              simpa using this
            have hmk : maskN kd kd.size < 8388608 := by omega
            have HTS : Hid (typeStr kd = strOfNums [(kd.size : Int), (maskN kd kd.size : Int) / 65536, (maskN kd kd.size : Int) / 256 % 256, (maskN kd kd.size : Int) % 256]) := by
              show strOfNums [(kd.size : Int) % 256, (maskN kd kd.size : Int) / 65536 % 256, (maskN kd kd.size : Int) / 256 % 256, (maskN kd kd.size : Int) % 256] = _
              rw [show (kd.size : Int) % 256 = (kd.size : Int) by omega, show (maskN kd kd.size : Int) / 65536 % 256 = (maskN kd kd.size : Int) / 65536 by omega]
            have zf : ∀ x0 x1 x2 x3 : Int, (strOfNums [x0, x1, x2, x3]).size = 4 := fun _ _ _ _ => rfl
            generalize maskN kd kd.size = mk at HTS hmk ⊢
            clear hml h223
            go_wp2
            go_roundw
            case rel =>
              refine ⟨k + 1, by omega, by go_num, ?_, HBR.out.alloc HBR.out.size _⟩
              rw [HUS.out, HTS.out]
            case measure => simp [intOf]; omega
      · obtain rfl : k = xs.length := by omega
        have zu := hbs xs.length (Nat.le_refl _)
        go_wp2_with fail
        refine (HSE.out _).mono ?_
        rintro x w6 ⟨rfl, hb6⟩
        have HB6 : Hid (Below w.heap.size w w6) := HB0.out.trans ((HBR.out.trans (hb6.mono HBR.out.size)).mono HB0.out.size)
        clear hb6
        go_wp2
        go_ret
        exact ⟨rfl, HB6.out⟩
theorem spec_super (w : World) (n1 n2 n3 : Int) (a : Option Addr) (cap : Nat) (xs : List ByteArray) (hn : xs.length ≤ 1048576) (hl : Strs w a xs) (hz : ∀ i (hi : i < xs.length), xs[i].size ≤ 1048576) :
    Calls Tryd.prog 12 #[.agg #[.int .i64 n1, .int .i64 n2, .int .i64 n3, .slice a xs.length cap]] w fun x w' => x = .returned (.string (superStr n1 n2 n3 xs)) ∧ Below w.heap.size w w' := by
  obtain ⟨W, hW⟩ : ∃ W, W = w.alloc (.cells #[.int .i64 n1, .int .i64 n2, .int .i64 n3, .slice a xs.length cap] 26) := ⟨_, rfl⟩
  have hb0 : Below w.heap.size w W := by rw [hW]; exact (Below.refl _ _).alloc (Nat.le_refl _) _
  have hsz : w.heap.size < W.heap.size := by rw [hW]; simp
  have HCS : Hid (∀ w', Below W.heap.size W w' → w'.cell? ⟨w.heap.size, 0, none⟩ = some (.int .i64 n1) ∧ w'.cell? ⟨w.heap.size, 1, none⟩ = some (.int .i64 n2) ∧ w'.cell? ⟨w.heap.size, 2, none⟩ = some (.int .i64 n3) ∧ w'.cell? ⟨w.heap.size, 3, none⟩ = some (.slice a xs.length cap)) := fun w' hb =>
    ⟨by rw [hb.cell (p := ⟨w.heap.size, 0, none⟩) hsz, hW, World.cell?_alloc_new]; rfl, by rw [hb.cell (p := ⟨w.heap.size, 1, none⟩) hsz, hW, World.cell?_alloc_new]; rfl, by rw [hb.cell (p := ⟨w.heap.size, 2, none⟩) hsz, hW, World.cell?_alloc_new]; rfl, by rw [hb.cell (p := ⟨w.heap.size, 3, none⟩) hsz, hW, World.cell?_alloc_new]; rfl⟩
  have HW : Hid (W = w.alloc (.cells #[.int .i64 n1, .int .i64 n2, .int .i64 n3, .slice a xs.length cap] 26)) := hW
  have HB0 : Hid (Below w.heap.size w W) := hb0
  have HST : Hid (∀ w', Below W.heap.size W w' → Strs w' a xs) := fun w' hb => (hl.below hb0).below hb
  have HO : Hid (Calls _ _ _ _ _) := spec_conf W n1 n2 n3 a cap xs hn (hl.below hb0) hz
  have HRS : Hid (superStr n1 n2 n3 xs = if configOk n1 n2 n3 xs = true then sealedStr (upTo n1 n2 n3 xs xs.length) else ⟨#[]⟩) := rfl
  generalize superStr n1 n2 n3 xs = res at HRS ⊢
  obtain ⟨m0, m1, m2, m3⟩ := HCS.out W (Below.refl _ _)
  clear hW hb0 hl hz
  cases hr : configOk n1 n2 n3 xs with
  | false =>
    rw [hr] at HO HRS
    have HR : Hid (res = ⟨#[]⟩) := HRS.out
    clear hr
    go_enter Tryd.func12, Tryd.ntmps12
    go_wp2_with (rw [← HW.out])
    refine HO.out.mono ?_
    rintro x w1 ⟨rfl, hb1⟩
    have HB1 : Hid (Below w.heap.size w w1) := HB0.out.trans (hb1.mono HB0.out.size)
    clear hb1
    go_wp2
    go_ret
    exact ⟨by rw [HR.out]; rfl, HB1.out⟩
  | true =>
    have HL3 : Hid (∀ w, Strs w a xs → Calls _ _ _ w _) := fun w h => spec_l3super w n1 n2 n3 a cap xs h hr
    rw [hr] at HO HRS
    have HR : Hid (res = sealedStr (upTo n1 n2 n3 xs xs.length)) := HRS.out
    generalize sealedStr (upTo n1 n2 n3 xs xs.length) = sl at HL3 HR
    clear hr
    go_enter Tryd.func12, Tryd.ntmps12
    go_wp2_with (rw [← HW.out])
    refine HO.out.mono ?_
    rintro x w1 ⟨rfl, hb1⟩
    have HB1 : Hid (Below W.heap.size W w1) := hb1
    clear hb1 m0 m1 m2 m3
    obtain ⟨m0, m1, m2, m3⟩ := HCS.out w1 HB1.out
    go_wp2_with fail
    refine (HL3.out _ (HST.out _ HB1.out)).mono ?_
    rintro x w2 ⟨rfl, hb2⟩
    have HB2 : Hid (Below w.heap.size w w2) := HB0.out.trans ((HB1.out.trans (hb2.mono HB1.out.size)).mono HB0.out.size)
    clear hb2
    go_wp2
    go_ret
    exact ⟨by rw [HR.out]; rfl, HB2.out⟩
end Go.Proofs.YtpkdkkjdlhillaaDoor.crc
