/-
  A formatted image, by the program and by the specification; nothing that was there is written.
-/
import Derived.Test.YtpkdkkjdlhillaaDoorSuper2
import Derived.Test.YtpkdkkjdlhillaaDoorLater
namespace Go.Proofs.YtpkdkkjdlhillaaDoor.crc
open Go.RowKit
open wmath wb num kinds later

def formatStr (n1 n2 n3 : Int) (xs : List ByteArray) : ByteArray := if configOk n1 n2 n3 xs = true then sealedStr (upTo n1 n2 n3 xs xs.length) ++ epochStr 0 ++ zeroStr (64 * n1 - 128).toNat else ⟨#[]⟩
theorem epoch0_size : (epochStr 0).size = 64 := by
  unfold epochStr
  rw [if_pos (by decide), sealedStr_size _ (word8 _)]
set_option maxHeartbeats 2000000 in
theorem impl_format (w : World) (n1 n2 n3 : Int) (a : Option Addr) (cap : Nat) (xs : List ByteArray) (hn : xs.length ≤ 1048576) (hl : Strs w a xs) (hz : ∀ i (hi : i < xs.length), xs[i].size ≤ 1048576) (ht : TabAt w) (h0 : 0 < w.heap.size) :
    Calls Tryd.prog 17 #[.agg #[.int .i64 n1, .int .i64 n2, .int .i64 n3, .slice a xs.length cap]] w fun x w' => x = .returned (.string (formatStr n1 n2 n3 xs)) ∧ Below w.heap.size w w' := by
  obtain ⟨W, hW⟩ : ∃ W, W = w.alloc (.cells #[.int .i64 n1, .int .i64 n2, .int .i64 n3, .slice a xs.length cap] 26) := ⟨_, rfl⟩
  have hb0 : Below w.heap.size w W := by rw [hW]; exact (Below.refl _ _).alloc (Nat.le_refl _) _
  have hsz : w.heap.size < W.heap.size := by rw [hW]; simp
  have HCS : Hid (∀ w', Below W.heap.size W w' → w'.cell? ⟨w.heap.size, 0, none⟩ = some (.int .i64 n1) ∧ w'.cell? ⟨w.heap.size, 1, none⟩ = some (.int .i64 n2) ∧ w'.cell? ⟨w.heap.size, 2, none⟩ = some (.int .i64 n3) ∧ w'.cell? ⟨w.heap.size, 3, none⟩ = some (.slice a xs.length cap)) := fun w' hb =>
    ⟨by rw [hb.cell (p := ⟨w.heap.size, 0, none⟩) hsz, hW, World.cell?_alloc_new]; rfl, by rw [hb.cell (p := ⟨w.heap.size, 1, none⟩) hsz, hW, World.cell?_alloc_new]; rfl, by rw [hb.cell (p := ⟨w.heap.size, 2, none⟩) hsz, hW, World.cell?_alloc_new]; rfl, by rw [hb.cell (p := ⟨w.heap.size, 3, none⟩) hsz, hW, World.cell?_alloc_new]; rfl⟩
  have HW : Hid (W = w.alloc (.cells #[.int .i64 n1, .int .i64 n2, .int .i64 n3, .slice a xs.length cap] 26)) := hW
  have HB0 : Hid (Below w.heap.size w W) := hb0
  have HST : Hid (∀ w', Below W.heap.size W w' → Strs w' a xs) := fun w' hb => (hl.below hb0).below hb
  have HT : Hid (∀ w', Below W.heap.size W w' → TabAt w' ∧ 0 < w'.heap.size) := fun w' hb => ⟨(ht.below hb0 h0).below hb (Nat.lt_of_lt_of_le h0 hb0.size), Nat.lt_of_lt_of_le h0 (Nat.le_trans hb0.size hb.size)⟩
  have HO : Hid (Calls _ _ _ _ _) := impl_conf W n1 n2 n3 a cap xs hn (hl.below hb0) hz
  have HSU : Hid (∀ w, Strs w a xs → TabAt w → 0 < w.heap.size → Calls _ _ _ w _) := fun w h q1 q2 => impl_super w n1 n2 n3 a cap xs hn h hz q1 q2
  have HEP : Hid (∀ w, TabAt w → 0 < w.heap.size → Calls _ _ _ w _) := fun w q1 q2 => impl_epoch 0 w q1 q2
  have HRS : Hid (formatStr n1 n2 n3 xs = if configOk n1 n2 n3 xs = true then sealedStr (upTo n1 n2 n3 xs xs.length) ++ epochStr 0 ++ zeroStr (64 * n1 - 128).toNat else ⟨#[]⟩) := rfl
  have HSS : Hid (superStr n1 n2 n3 xs = if configOk n1 n2 n3 xs = true then sealedStr (upTo n1 n2 n3 xs xs.length) else ⟨#[]⟩) := rfl
  generalize formatStr n1 n2 n3 xs = res at HRS ⊢
  obtain ⟨m0, m1, m2, m3⟩ := HCS.out W (Below.refl _ _)
  clear hW hb0 ht hl hz
  cases hr : configOk n1 n2 n3 xs with
  | false =>
    rw [hr] at HO HRS
    have HR : Hid (res = ⟨#[]⟩) := HRS.out
    clear hr HSU HSS HEP
    go_enter Tryd.func17, Tryd.ntmps17
    go_wp2_with (rw [← HW.out])
    refine HO.out.mono ?_
    rintro x w1 ⟨rfl, hb1⟩
    have HB1 : Hid (Below w.heap.size w w1) := HB0.out.trans (hb1.mono HB0.out.size)
    clear hb1
    go_wp2
    go_ret
    exact ⟨by rw [HR.out]; rfl, HB1.out⟩
  | true =>
    obtain ⟨⟨a1, a2⟩, _, _, hx12, _⟩ := conf_in hr
    rw [hr] at HO HRS HSS
    have zs : (sealedStr (upTo n1 n2 n3 xs xs.length)).size = 64 := sealedStr_size _ (by rw [upTo_size n1 n2 n3 xs _ (Nat.le_refl _)]; omega)
    have ze := epoch0_size
    have HSV : Hid (superStr n1 n2 n3 xs = sealedStr (upTo n1 n2 n3 xs xs.length)) := HSS.out
    rw [HSV.out] at HSU
    have HR : Hid (res = sealedStr (upTo n1 n2 n3 xs xs.length) ++ epochStr 0 ++ zeroStr (64 * n1 - 128).toNat) := HRS.out
    generalize sealedStr (upTo n1 n2 n3 xs xs.length) = su at zs HSU HR
    generalize epochStr 0 = ep at ze HEP HR
    obtain ⟨N, hN⟩ : ∃ N : Nat, (64 * n1 - 128).toNat = N := ⟨_, rfl⟩
    rw [hN] at HR
    have hNi : n1 * 64 - 128 = (N : Int) := by omega
    have hmk := make_zero N (by omega)
    have hcv := conv_zero N
    have zz := zeroStr_size N
    have hN8 : N ≤ 8192 := by omega
    have hN0 : (0 : Int) ≤ (N : Int) := by omega
    have hse : ((su ++ ep).size : Int) = 128 := by rw [ByteArray.size_append, zs, ze]; rfl
    have hsn : (su ++ ep).size = 128 := by rw [ByteArray.size_append, zs, ze]
    clear hr HSS HSV hN HRS
    go_enter Tryd.func17, Tryd.ntmps17
    go_wp2_with (rw [← HW.out])
    refine HO.out.mono ?_
    rintro x w1 ⟨rfl, hb1⟩
    have HB1 : Hid (Below W.heap.size W w1) := hb1
    clear hb1 m0 m1 m2 m3
    obtain ⟨m0, m1, m2, m3⟩ := HCS.out w1 HB1.out
    go_wp2_with fail
    refine (HSU.out _ (HST.out _ HB1.out) (HT.out _ HB1.out).1 (HT.out _ HB1.out).2).mono ?_
    rintro x w2 ⟨rfl, hb2⟩
    have HB2 : Hid (Below W.heap.size W w2) := HB1.out.trans (hb2.mono HB1.out.size)
    clear hb2 m0 m1 m2 m3
    go_wp2_with fail
    refine (HEP.out _ (HT.out _ HB2.out).1 (HT.out _ HB2.out).2).mono ?_
    rintro x w3 ⟨rfl, hb3⟩
    have HB3 : Hid (Below W.heap.size W w3) := HB2.out.trans (hb3.mono HB2.out.size)
    clear hb3
    obtain ⟨m0, m1, m2, m3⟩ := HCS.out w3 HB3.out
    have HB4 : Hid (∀ o, Below w.heap.size w (w3.alloc o)) := fun o => HB0.out.trans ((HB3.out.alloc HB3.out.size o).mono HB0.out.size)
    go_wp2
    go_ret
    exact ⟨by rw [HR.out]; rfl, HB4.out _⟩
set_option maxHeartbeats 2000000 in
theorem spec_format (w : World) (n1 n2 n3 : Int) (a : Option Addr) (cap : Nat) (xs : List ByteArray) (hn : xs.length ≤ 1048576) (hl : Strs w a xs) (hz : ∀ i (hi : i < xs.length), xs[i].size ≤ 1048576) :
    Calls Tryd.prog 18 #[.agg #[.int .i64 n1, .int .i64 n2, .int .i64 n3, .slice a xs.length cap]] w fun x w' => x = .returned (.string (formatStr n1 n2 n3 xs)) ∧ Below w.heap.size w w' := by
  obtain ⟨W, hW⟩ : ∃ W, W = w.alloc (.cells #[.int .i64 n1, .int .i64 n2, .int .i64 n3, .slice a xs.length cap] 26) := ⟨_, rfl⟩
  have hb0 : Below w.heap.size w W := by rw [hW]; exact (Below.refl _ _).alloc (Nat.le_refl _) _
  have hsz : w.heap.size < W.heap.size := by rw [hW]; simp
  have HCS : Hid (∀ w', Below W.heap.size W w' → w'.cell? ⟨w.heap.size, 0, none⟩ = some (.int .i64 n1) ∧ w'.cell? ⟨w.heap.size, 1, none⟩ = some (.int .i64 n2) ∧ w'.cell? ⟨w.heap.size, 2, none⟩ = some (.int .i64 n3) ∧ w'.cell? ⟨w.heap.size, 3, none⟩ = some (.slice a xs.length cap)) := fun w' hb =>
    ⟨by rw [hb.cell (p := ⟨w.heap.size, 0, none⟩) hsz, hW, World.cell?_alloc_new]; rfl, by rw [hb.cell (p := ⟨w.heap.size, 1, none⟩) hsz, hW, World.cell?_alloc_new]; rfl, by rw [hb.cell (p := ⟨w.heap.size, 2, none⟩) hsz, hW, World.cell?_alloc_new]; rfl, by rw [hb.cell (p := ⟨w.heap.size, 3, none⟩) hsz, hW, World.cell?_alloc_new]; rfl⟩
  have HW : Hid (W = w.alloc (.cells #[.int .i64 n1, .int .i64 n2, .int .i64 n3, .slice a xs.length cap] 26)) := hW
  have HB0 : Hid (Below w.heap.size w W) := hb0
  have HST : Hid (∀ w', Below W.heap.size W w' → Strs w' a xs) := fun w' hb => (hl.below hb0).below hb
  have HO : Hid (Calls _ _ _ _ _) := spec_conf W n1 n2 n3 a cap xs hn (hl.below hb0) hz
  have HEP : Hid (∀ w, Calls _ _ _ w _) := fun w => spec_epoch 0 w
  have HRS : Hid (formatStr n1 n2 n3 xs = if configOk n1 n2 n3 xs = true then sealedStr (upTo n1 n2 n3 xs xs.length) ++ epochStr 0 ++ zeroStr (64 * n1 - 128).toNat else ⟨#[]⟩) := rfl
  generalize formatStr n1 n2 n3 xs = res at HRS ⊢
  obtain ⟨m0, m1, m2, m3⟩ := HCS.out W (Below.refl _ _)
  clear hW hb0 hl hz
  cases hr : configOk n1 n2 n3 xs with
  | false =>
    rw [hr] at HO HRS
    have HR : Hid (res = ⟨#[]⟩) := HRS.out
    clear hr HEP
    go_enter Tryd.func18, Tryd.ntmps18
    go_wp2_with (rw [← HW.out])
    refine HO.out.mono ?_
    rintro x w1 ⟨rfl, hb1⟩
    have HB1 : Hid (Below w.heap.size w w1) := HB0.out.trans (hb1.mono HB0.out.size)
    clear hb1
    go_wp2
    go_ret
    exact ⟨by rw [HR.out]; rfl, HB1.out⟩
  | true =>
    obtain ⟨⟨a1, a2⟩, _, _, hx12, _⟩ := conf_in hr
    have HL3 : Hid (∀ w, Strs w a xs → Calls _ _ _ w _) := fun w h => spec_l3super w n1 n2 n3 a cap xs h hr
    rw [hr] at HO HRS
    have zs : (sealedStr (upTo n1 n2 n3 xs xs.length)).size = 64 := sealedStr_size _ (by rw [upTo_size n1 n2 n3 xs _ (Nat.le_refl _)]; omega)
    have ze := epoch0_size
    have HR : Hid (res = sealedStr (upTo n1 n2 n3 xs xs.length) ++ epochStr 0 ++ zeroStr (64 * n1 - 128).toNat) := HRS.out
    generalize sealedStr (upTo n1 n2 n3 xs xs.length) = su at zs HL3 HR
    generalize epochStr 0 = ep at ze HEP HR
    have HZC : Hid (∀ w, Calls Tryd.prog 50 #[.int .i64 (64 * n1 - 128)] w fun e w' => e = .returned (.string (zeroStr (64 * n1 - 128).toNat)) ∧ Below w.heap.size w w') := fun w => by
      have h := zeros_any (64 * n1 - 128).toNat (by omega) w
      rwa [show (((64 * n1 - 128).toNat : Nat) : Int) = 64 * n1 - 128 by omega] at h
    have zz := zeroStr_size (64 * n1 - 128).toNat
    generalize zeroStr (64 * n1 - 128).toNat = zr at HZC HR zz
    have hsz0 : su.size + ep.size ≤ 1000 := by omega
    have hzr : zr.size ≤ 10000 := by omega
    have hw1 : IntKind.i64.wrap (64 * n1) = 64 * n1 := by rw [IntKind.wrap_i64]; omega
    have hw2 : IntKind.i64.wrap (64 * n1 - 128) = 64 * n1 - 128 := by rw [IntKind.wrap_i64]; omega
    clear hr HRS
    go_enter Tryd.func18, Tryd.ntmps18
    go_wp2_with (rw [← HW.out])
    refine HO.out.mono ?_
    rintro x w1 ⟨rfl, hb1⟩
    have HB1 : Hid (Below W.heap.size W w1) := hb1
    clear hb1 m0 m1 m2 m3
    obtain ⟨m0, m1, m2, m3⟩ := HCS.out w1 HB1.out
    have HLL : Hid (∀ n : Later w1, Calls _ _ _ n.world _) := fun n => HL3.out n.world ((HST.out w1 HB1.out).below n.below)
    have L0 := fun n : Later w1 => Later.cell m0 n
    have L1 := fun n : Later w1 => Later.cell m1 n
    have L2 := fun n : Later w1 => Later.cell m2 n
    have L3 := fun n : Later w1 => Later.cell m3 n
    have hne := some_later w1
    go_wp2
    clear m0 m1 m2 m3
    refine region_later (by kernel_rfl) (by kernel_rfl) ?_
    repeat (go_big_quiet_step (first | (go_at_call 42; exact later_of (HLL.out _)) | (go_at_call 49; exact later_of (HEP.out _)) | (go_at_call 50; exact later_of (HZC.out _))))
    refine wpQuiet_nil ?_
    intro w' hw'
    obtain ⟨nn, rfl⟩ := hw'
    have hb9 : Below W.heap.size W nn.world := HB1.out.trans (nn.below.mono HB1.out.size)
    have HB9 : Hid (Below w.heap.size w nn.world) := HB0.out.trans (hb9.mono HB0.out.size)
    generalize nn.world = w9 at HB9 ⊢
    clear L0 L1 L2 L3 hb9
    go_wp2
    go_ret
    exact ⟨by rw [HR.out]; rfl, HB9.out⟩
end Go.Proofs.YtpkdkkjdlhillaaDoor.crc
