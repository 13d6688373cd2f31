/-
  Whether a device is right, by the specification's DeviceOk.
-/
import Derived.Test.YtgpmpijaggnocaaDev3
import Derived.Test.YtgpmpijaggnocaaLater
namespace Go.Proofs.Ytgpmpijaggnocaa.dev
open Go.RowKit
open later

theorem l1In_any (w : World) (x lo hi : Int) :
    Calls Try.prog 42 #[.int .i64 x, .int .i64 lo, .int .i64 hi] w fun e w' => e = .returned (.bool (decide (lo ≤ x) && decide (x ≤ hi))) ∧ w = w' := by
  by_cases h : lo ≤ x
  · have hd : decide (lo ≤ x) = true := by simpa using h
    rw [hd]
    go_enter Try.func42, Try.ntmps42
    go_wp2
    go_ret
    exact ⟨by simp, rfl⟩
  · have hd : decide (lo ≤ x) = false := by simpa using h
    rw [hd]
    go_enter Try.func42, Try.ntmps42
    go_wp2
    go_ret
    exact ⟨rfl, rfl⟩

theorem spec_ok_size (w : World) (safe : ByteArray) (v : Value) (hs : safe.size ≤ 1048576) (hbad : ¬ (safe.size % 64 = 0 ∧ 64 ≤ safe.size ∧ safe.size ≤ 8192)) :
    Calls Try.prog 18 #[.agg #[.string safe, v]] w fun e w' => e = .returned (.bool false) ∧ Below w.heap.size w w' := by
  have hb0 : Below w.heap.size w (w.alloc (.cells #[.string safe, v] 26)) := by go_grown
  have HC : Hid (∀ w, _) := fun w => l2Count_any w safe v hs
  by_cases h64 : safe.size % 64 = 0
  · have e0 : ((safe.size : Int) % 64 != 0) = false := by simp; omega
    have hb : (decide ((1 : Int) ≤ ((safe.size / 64 : Nat) : Int)) && decide (((safe.size / 64 : Nat) : Int) ≤ 128)) = false := by rw [← Bool.not_eq_true]; simp; omega
    have HI : Hid (∀ w, _) := fun w => l1In_any w ((safe.size / 64 : Nat) : Int) 1 128
    rw [hb] at HI
    clear hb
    generalize ((safe.size / 64 : Nat) : Int) = n at HC HI
    go_enter Try.func18, Try.ntmps18
    go_wp2_with fail
    refine (HC.out _).mono ?_
    rintro e w2 ⟨rfl, hb2⟩
    go_wp2_with fail
    refine (HI.out _).mono ?_
    rintro e w3 ⟨rfl, rfl⟩
    go_wp2
    go_ret
    exact ⟨rfl, hb0.trans (hb2.mono hb0.size)⟩
  · have e0 : ((safe.size : Int) % 64 != 0) = true := by simp; omega
    go_enter Try.func18, Try.ntmps18
    go_wp2
    go_ret
    exact ⟨rfl, hb0⟩

set_option maxHeartbeats 8000000 in
theorem spec_ok (w : World) (safe : ByteArray) (a : Option Addr) (cap : Nat) (ls : List Ln) (hs : safe.size ≤ 1048576) (hn : ls.length ≤ 1048576) (hl : Lines w a ls) (hz : ∀ i (hi : i < ls.length), ls[i].data.size ≤ 1048576 ∧ ls[i].sent.size ≤ 1048576) :
    Calls Try.prog 18 #[.agg #[.string safe, .slice a ls.length cap]] w fun e w' => ∃ b : Bool, e = .returned (.bool b) ∧ (b = true ↔ DevOk safe ls) ∧ Below w.heap.size w w' := by
  by_cases hgood : safe.size % 64 = 0 ∧ 64 ≤ safe.size ∧ safe.size ≤ 8192
  case neg =>
    refine (spec_ok_size w safe _ hs hgood).mono ?_
    rintro e w2 ⟨rfl, hb⟩
    exact ⟨false, rfl, iff_no (fun h => hgood ⟨h.1, h.2.1, h.2.2.1⟩), hb⟩
  case pos =>
    have HL : Hid (Lines w a ls) := hl
    have HZ : Hid (∀ i (hi : i < ls.length), ls[i].data.size ≤ 1048576 ∧ ls[i].sent.size ≤ 1048576) := hz
    have e0 : ((safe.size : Int) % 64 != 0) = false := by simp; omega
    have HC : Hid (∀ w v, _) := fun w v => l2Count_any w safe v hs
    have HDO : Hid (DevOk safe ls ↔ ∀ k (hk : k < ls.length), LnOk ((safe.size / 64 : Nat) : Int) (prevOf ls k) ls[k]) := ⟨fun h => h.2.2.2, fun h => ⟨hgood.1, hgood.2.1, hgood.2.2, h⟩⟩
    have hn1 : 1 ≤ ((safe.size / 64 : Nat) : Int) := by omega
    have hn2 : ((safe.size / 64 : Nat) : Int) ≤ 128 := by omega
    generalize ((safe.size / 64 : Nat) : Int) = n at HC HDO hn1 hn2
    clear hgood hl hz
    have hwn : IntKind.i64.wrap (n - 1) = n - 1 := by rw [IntKind.wrap_i64]; omega
    obtain ⟨W, hW⟩ : ∃ W, W = w.alloc (.cells #[.string safe, .slice a ls.length cap] 26) := ⟨_, rfl⟩
    have HB0 : Hid (Below w.heap.size w W) := by rw [hW]; exact (Below.refl _ _).alloc (Nat.le_refl _) _
    have hsz : w.heap.size < W.heap.size := by rw [hW]; simp
    have k0 : W.cell? ⟨w.heap.size, 0, none⟩ = some (.string safe) := by rw [hW, World.cell?_alloc_new]; rfl
    have k1 : W.cell? ⟨w.heap.size, 1, none⟩ = some (.slice a ls.length cap) := by rw [hW, World.cell?_alloc_new]; rfl
    have HK : Hid (∀ w', Below W.heap.size W w' → w'.cell? ⟨w.heap.size, 0, none⟩ = some (.string safe) ∧ w'.cell? ⟨w.heap.size, 1, none⟩ = some (.slice a ls.length cap)) := fun w' h =>
      ⟨by rw [h.cell (p := ⟨w.heap.size, 0, none⟩) hsz]; exact k0, by rw [h.cell (p := ⟨w.heap.size, 1, none⟩) hsz]; exact k1⟩
    have HW : Hid (W = w.alloc (.cells #[.string safe, .slice a ls.length cap] 26)) := hW
    have HI0 : Hid (∀ w, _) := fun w => l1In_any w n 1 128
    rw [show (decide ((1 : Int) ≤ n) && decide (n ≤ 128)) = true by simp; omega] at HI0
    clear k0 k1 hW
    go_enter Try.func18, Try.ntmps18
    go_wp2_with fail
    rw [← HW.out]
    refine (HC.out _ _).mono ?_
    rintro e w2 ⟨rfl, hb2⟩
    have HB2 : Hid (Below W.heap.size W w2) := hb2
    clear hb2
    go_wp2_with fail
    refine (HI0.out _).mono ?_
    rintro e w3 ⟨rfl, rfl⟩
    obtain ⟨m0, m1⟩ := HK.out w2 HB2.out
    go_wp2
    go_loopw [3] (fun i wr => ∃ k : Nat, k ≤ ls.length ∧ i = .int .i64 k ∧ (∀ j (hj : j < ls.length), j < k → LnOk n (prevOf ls j) ls[j]) ∧ Below W.heap.size W wr) (fun i _ => ls.length - (intOf i).toNat)
    case atStart => exact ⟨0, Nat.zero_le _, rfl, fun j hj h => by omega, HB2.out⟩
    case round =>
      obtain ⟨k, hk, rfl, hall, hb⟩ := hrel
      have HA : Hid (∀ j (hj : j < ls.length), j < k → LnOk n (prevOf ls j) ls[j]) := hall
      have HB : Hid (Below W.heap.size W wr) := hb
      have HBw : Hid (Below w.heap.size w wr) := HB0.out.trans (hb.mono HB0.out.size)
      clear hall hb m0 m1
      obtain ⟨m0, m1⟩ := HK.out wr HB.out
      by_cases hlt : k < ls.length
      · have hzk := HZ.out k hlt
        have HBad : Hid (¬ LnOk n (prevOf ls k) ls[k] → ¬ DevOk safe ls) := fun h hd => h (HDO.out.1 hd k hlt)
        have HGood : Hid (LnOk n (prevOf ls k) ls[k] → ∀ j (hj : j < ls.length), j < k + 1 → LnOk n (prevOf ls j) ls[j]) := fun h j hj hjk => by
          by_cases hjl : j < k
          · exact HA.out j hj hjl
          · have : j = k := by omega
            subst this; exact h
        obtain ⟨b, off, rfl, c0, c1, c2⟩ := (HL.out k hlt).below HBw.out
        have HPV0 : Hid (∀ m, k = m + 1 → ∃ pd ps, wr.cell? ⟨b, off + m * 3, none⟩ = some (.int .i64 (prevOf ls k)) ∧ wr.cell? ⟨b, off + m * 3 + 1, none⟩ = some (.string pd) ∧ wr.cell? ⟨b, off + m * 3 + 2, none⟩ = some (.string ps)) := by
          rintro m rfl
          obtain ⟨b', off', e, d0, d1, d2⟩ := (HL.out m (by omega)).below HBw.out
          have e1 : b = b' := by simpa using congrArg (fun a : Option Addr => (a.map Addr.block)) e
          have e2 : off = off' := by simpa using congrArg (fun a : Option Addr => (a.map Addr.off)) e
          subst e1; subst e2
          rw [prevOf_succ ls m (by omega)]
          exact ⟨_, _, d0, d1, d2⟩
        have HP0 : Hid (k = 0 → prevOf ls k = -1) := by rintro rfl; rfl
        generalize prevOf ls k = pv at HBad HGood HPV0 HP0
        generalize ls[k] = l at c0 c1 c2 hzk HBad HGood
        obtain ⟨pl, dt, sn⟩ := l
        simp only at c0 c1 c2 hzk HBad HGood
        have hszr : w.heap.size < wr.heap.size := Nat.lt_of_lt_of_le hsz HB.out.size
        have hbr : b < wr.heap.size := World.block_lt_of_cell? wr _ c0
        obtain ⟨X, hX⟩ : ∃ X, X = wr.alloc (.cells #[.int .i64 pl, .string dt, .string sn] 46) := ⟨_, rfl⟩
        have HBX : Hid (Below wr.heap.size wr X) := by rw [hX]; exact (Below.refl _ _).alloc (Nat.le_refl _) _
        have hszX : wr.heap.size < X.heap.size := by rw [hX]; simp
        have HKX : Hid (∀ w', Below X.heap.size X w' → w'.cell? ⟨wr.heap.size, 0, none⟩ = some (.int .i64 pl) ∧ w'.cell? ⟨wr.heap.size, 1, none⟩ = some (.string dt) ∧ w'.cell? ⟨wr.heap.size, 2, none⟩ = some (.string sn)) := fun w' h => by
          refine ⟨?_, ?_, ?_⟩
          · rw [h.cell (p := ⟨wr.heap.size, 0, none⟩) hszX, hX, World.cell?_alloc_new]; rfl
          · rw [h.cell (p := ⟨wr.heap.size, 1, none⟩) hszX, hX, World.cell?_alloc_new]; rfl
          · rw [h.cell (p := ⟨wr.heap.size, 2, none⟩) hszX, hX, World.cell?_alloc_new]; rfl
        have HBXW : Hid (Below W.heap.size W X) := HB.out.trans (HBX.out.mono HB.out.size)
        have HKY : Hid (∀ w', Below X.heap.size X w' → w'.cell? ⟨w.heap.size, 0, none⟩ = some (.string safe) ∧ w'.cell? ⟨w.heap.size, 1, none⟩ = some (.slice (some ⟨b, off, none⟩) ls.length cap)) := fun w' h => HK.out w' (HBXW.out.trans (h.mono HBXW.out.size))
        have HD : Hid (∀ w', Below X.drew.heap.size X.drew w' → Below X.heap.size X w') := fun w' h => ⟨h.os, h.tape, h.output, h.size, h.block⟩
        have HX : Hid (X = wr.alloc (.cells #[.int .i64 pl, .string dt, .string sn] 46)) := hX
        have HEnd : Hid (∀ w', Below X.heap.size X w' → Below w.heap.size w w') := fun w' h => HB0.out.trans ((HBXW.out.trans (h.mono HBXW.out.size)).mono HB0.out.size)
        clear hX
        have HI : Hid (∀ w, _) := fun w => l1In_any w pl 0 (n - 1)
        obtain ⟨x0, x1, x2⟩ := HKX.out X (Below.refl _ _)
        obtain ⟨y0, y1⟩ := HKY.out X (Below.refl _ _)
        have X0 := fun n : Later X => Later.cell x0 n
        have X1 := fun n : Later X => Later.cell x1 n
        have X2 := fun n : Later X => Later.cell x2 n
        have Y0 := fun n : Later X => Later.cell y0 n
        have Y1 := fun n : Later X => Later.cell y1 n
        clear x0 x1 x2 y0 y1
        have hne := some_later X
        have HCV : Hid (∀ (X : World) (n : Later X), _) := fun X n => HC.out n.world (.slice (some ⟨b, off, none⟩) ls.length cap)
        by_cases hin : 0 ≤ pl ∧ pl < n
        case neg =>
          rw [show (decide ((0 : Int) ≤ pl) && decide (pl ≤ n - 1)) = false by rw [← Bool.not_eq_true]; simp; omega] at HI
          go_wp2
          rw [← HX.out]
          refine region_later (by kernel_rfl) (by kernel_rfl) ?_
          repeat (go_big_quiet_step (first | (go_at_call 48; exact later_of (HCV.out _ _)) | (go_at_call 42; exact later_same (HI.out _))))
          refine wpQuiet_nil ?_
          intro w' hw'
          obtain ⟨nn, rfl⟩ := hw'
          have HB4 : Hid (Below X.heap.size X nn.world) := nn.below
          generalize nn.world = w4 at HB4 ⊢
          clear X0 X1 X2 Y0 Y1
          go_wp2
          go_ret
          exact ⟨false, rfl, iff_no (HBad.out (fun q => hin ⟨q.2.1, q.2.2.1⟩)), HEnd.out _ HB4.out⟩
        case pos =>
          rw [show (decide ((0 : Int) ≤ pl) && decide (pl ≤ n - 1)) = true by simp; omega] at HI
          by_cases hk0 : k = 0
          case pos =>
            subst hk0
            simp only [Nat.zero_mul, Nat.add_zero] at c0 c1 c2
            have hpv := HP0.out rfl
            have hlt0 : pv < pl := by omega
            have HPV1 : Hid (pv < pl) := hlt0
            clear hpv hlt0
            by_cases hdt : dt.size = 64
            case neg =>
              have e1 : ((dt.size : Int) != 64) = true := by simp; omega
              go_wp2
              rw [← HX.out]
              refine region_later (by kernel_rfl) (by kernel_rfl) ?_
              repeat (go_big_quiet_step (first | (go_at_call 48; exact later_of (HCV.out _ _)) | (go_at_call 42; exact later_same (HI.out _))))
              refine wpQuiet_nil ?_
              intro w' hw'
              obtain ⟨nn, rfl⟩ := hw'
              have HB4 : Hid (Below X.heap.size X nn.world) := nn.below
              generalize nn.world = w4 at HB4 ⊢
              clear X0 X1 X2 Y0 Y1
              go_wp2
              go_ret
              exact ⟨false, rfl, iff_no (HBad.out (fun q => hdt q.2.2.2.1)), HEnd.out _ HB4.out⟩
            case pos =>
              have e1 : ((dt.size : Int) != 64) = false := by simp; omega
              by_cases hsn : sn.size = 64
              case pos =>
                have e2 : ((sn.size : Int) != 64) = false := by simp; omega
                go_wp2
                rw [← HX.out]
                refine region_later (by kernel_rfl) (by kernel_rfl) ?_
                repeat (go_big_quiet_step (first | (go_at_call 48; exact later_of (HCV.out _ _)) | (go_at_call 42; exact later_same (HI.out _))))
                refine wpQuiet_nil ?_
                intro w' hw'
                obtain ⟨nn, rfl⟩ := hw'
                have HB4 : Hid (Below X.heap.size X nn.world) := nn.below
                generalize nn.world = w4 at HB4 ⊢
                clear X0 X1 X2 Y0 Y1
                go_wp2
                go_roundw
                case rel => exact ⟨1, by omega, by go_num, HGood.out (⟨HPV1.out, hin.1, hin.2, hdt, .inl hsn⟩), HBXW.out.trans (HB4.out.mono HBXW.out.size)⟩
                case measure => simp [intOf]; omega
              case neg =>
                have e2 : ((sn.size : Int) != 64) = true := by simp; omega
                by_cases hs0 : sn.size = 0
                case pos =>
                  have e3 : sn.toList.isEmpty = true := by rw [ByteArray.toList_eq, List.isEmpty_iff_length_eq_zero]; simpa using hs0
                  go_wp2
                  rw [← HX.out]
                  refine region_later (by kernel_rfl) (by kernel_rfl) ?_
                  repeat (go_big_quiet_step (first | (go_at_call 48; exact later_of (HCV.out _ _)) | (go_at_call 42; exact later_same (HI.out _))))
                  refine wpQuiet_nil ?_
                  intro w' hw'
                  obtain ⟨nn, rfl⟩ := hw'
                  have HB4 : Hid (Below X.heap.size X nn.world) := nn.below
                  generalize nn.world = w4 at HB4 ⊢
                  clear X0 X1 X2 Y0 Y1
                  go_wp2
                  go_roundw
                  case rel => exact ⟨1, by omega, by go_num, HGood.out (⟨HPV1.out, hin.1, hin.2, hdt, .inr hs0⟩), HBXW.out.trans (HB4.out.mono HBXW.out.size)⟩
                  case measure => simp [intOf]; omega
                case neg =>
                  have e3 : sn.toList.isEmpty = false := by rw [ByteArray.toList_eq, ← Bool.not_eq_true, List.isEmpty_iff_length_eq_zero]; simpa using hs0
                  go_wp2
                  rw [← HX.out]
                  refine region_later (by kernel_rfl) (by kernel_rfl) ?_
                  repeat (go_big_quiet_step (first | (go_at_call 48; exact later_of (HCV.out _ _)) | (go_at_call 42; exact later_same (HI.out _))))
                  refine wpQuiet_nil ?_
                  intro w' hw'
                  obtain ⟨nn, rfl⟩ := hw'
                  have HB4 : Hid (Below X.heap.size X nn.world) := nn.below
                  generalize nn.world = w4 at HB4 ⊢
                  clear X0 X1 X2 Y0 Y1
                  go_wp2
                  go_ret
                  exact ⟨false, rfl, iff_no (HBad.out (fun q => q.2.2.2.2.elim hsn hs0)), HEnd.out _ HB4.out⟩
          case neg =>
            obtain ⟨m, rfl⟩ : ∃ m, k = m + 1 := ⟨k - 1, by omega⟩
            obtain ⟨pd, ps, d0, d1, d2⟩ := HPV0.out m rfl
            have hbX : Below wr.heap.size wr X := HBX.out
            have D0 := fun n : Later X => Later.cell (show X.cell? ⟨b, off + m * 3, none⟩ = some (.int .i64 pv) by rw [hbX.cell (p := ⟨b, off + m * 3, none⟩) hbr]; exact d0) n
            clear d0 d1 d2 hbX
            have hwm : IntKind.i64.wrap ((m : Int) + 1 - 1) = (m : Int) := by rw [IntKind.wrap_i64]; omega
            by_cases hle : pl ≤ pv
            case pos =>
              go_wp2
              rw [← HX.out]
              refine region_later (by kernel_rfl) (by kernel_rfl) ?_
              repeat (go_big_quiet_step (first | (go_at_call 48; exact later_of (HCV.out _ _)) | (go_at_call 42; exact later_same (HI.out _))))
              refine wpQuiet_nil ?_
              intro w' hw'
              obtain ⟨nn, rfl⟩ := hw'
              have HB4 : Hid (Below X.heap.size X nn.world) := nn.below
              generalize nn.world = w4 at HB4 ⊢
              clear X0 X1 X2 Y0 Y1
              go_wp2
              go_ret
              exact ⟨false, rfl, iff_no (HBad.out (fun q => by have := q.1; simp only at this; omega)), HEnd.out _ HB4.out⟩
            case neg =>
              have hled : decide (pl ≤ pv) = false := by simpa using hle
              by_cases hdt : dt.size = 64
              case neg =>
                have e1 : ((dt.size : Int) != 64) = true := by simp; omega
                go_wp2
                rw [← HX.out]
                refine region_later (by kernel_rfl) (by kernel_rfl) ?_
                repeat (go_big_quiet_step (first | (go_at_call 48; exact later_of (HCV.out _ _)) | (go_at_call 42; exact later_same (HI.out _))))
                refine wpQuiet_nil ?_
                intro w' hw'
                obtain ⟨nn, rfl⟩ := hw'
                have HB4 : Hid (Below X.heap.size X nn.world) := nn.below
                generalize nn.world = w4 at HB4 ⊢
                clear X0 X1 X2 Y0 Y1
                go_wp2
                go_ret
                exact ⟨false, rfl, iff_no (HBad.out (fun q => hdt q.2.2.2.1)), HEnd.out _ HB4.out⟩
              case pos =>
                have e1 : ((dt.size : Int) != 64) = false := by simp; omega
                by_cases hsn : sn.size = 64
                case pos =>
                  have e2 : ((sn.size : Int) != 64) = false := by simp; omega
                  go_wp2
                  rw [← HX.out]
                  refine region_later (by kernel_rfl) (by kernel_rfl) ?_
                  repeat (go_big_quiet_step (first | (go_at_call 48; exact later_of (HCV.out _ _)) | (go_at_call 42; exact later_same (HI.out _))))
                  refine wpQuiet_nil ?_
                  intro w' hw'
                  obtain ⟨nn, rfl⟩ := hw'
                  have HB4 : Hid (Below X.heap.size X nn.world) := nn.below
                  generalize nn.world = w4 at HB4 ⊢
                  clear X0 X1 X2 Y0 Y1
                  go_wp2
                  go_roundw
                  case rel => exact ⟨m + 1 + 1, by omega, by go_num, HGood.out (⟨by simp only; omega, hin.1, hin.2, hdt, .inl hsn⟩), HBXW.out.trans (HB4.out.mono HBXW.out.size)⟩
                  case measure => simp [intOf]; omega
                case neg =>
                  have e2 : ((sn.size : Int) != 64) = true := by simp; omega
                  by_cases hs0 : sn.size = 0
                  case pos =>
                    have e3 : sn.toList.isEmpty = true := by rw [ByteArray.toList_eq, List.isEmpty_iff_length_eq_zero]; simpa using hs0
                    go_wp2
                    rw [← HX.out]
                    refine region_later (by kernel_rfl) (by kernel_rfl) ?_
                    repeat (go_big_quiet_step (first | (go_at_call 48; exact later_of (HCV.out _ _)) | (go_at_call 42; exact later_same (HI.out _))))
                    refine wpQuiet_nil ?_
                    intro w' hw'
                    obtain ⟨nn, rfl⟩ := hw'
                    have HB4 : Hid (Below X.heap.size X nn.world) := nn.below
                    generalize nn.world = w4 at HB4 ⊢
                    clear X0 X1 X2 Y0 Y1
                    go_wp2
                    go_roundw
                    case rel => exact ⟨m + 1 + 1, by omega, by go_num, HGood.out (⟨by simp only; omega, hin.1, hin.2, hdt, .inr hs0⟩), HBXW.out.trans (HB4.out.mono HBXW.out.size)⟩
                    case measure => simp [intOf]; omega
                  case neg =>
                    have e3 : sn.toList.isEmpty = false := by rw [ByteArray.toList_eq, ← Bool.not_eq_true, List.isEmpty_iff_length_eq_zero]; simpa using hs0
                    go_wp2
                    rw [← HX.out]
                    refine region_later (by kernel_rfl) (by kernel_rfl) ?_
                    repeat (go_big_quiet_step (first | (go_at_call 48; exact later_of (HCV.out _ _)) | (go_at_call 42; exact later_same (HI.out _))))
                    refine wpQuiet_nil ?_
                    intro w' hw'
                    obtain ⟨nn, rfl⟩ := hw'
                    have HB4 : Hid (Below X.heap.size X nn.world) := nn.below
                    generalize nn.world = w4 at HB4 ⊢
                    clear X0 X1 X2 Y0 Y1
                    go_wp2
                    go_ret
                    exact ⟨false, rfl, iff_no (HBad.out (fun q => q.2.2.2.2.elim hsn hs0)), HEnd.out _ HB4.out⟩
      · go_wp2
        go_ret
        exact ⟨true, rfl, iff_yes (HDO.out.2 (fun j hj => HA.out j hj (by omega))), HBw.out⟩
end Go.Proofs.Ytgpmpijaggnocaa.dev
