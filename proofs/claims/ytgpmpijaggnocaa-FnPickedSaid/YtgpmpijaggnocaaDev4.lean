/-
  Whether a device is right, by the program's DeviceOk.
-/
import Derived.Test.YtgpmpijaggnocaaDev3
namespace Go.Proofs.Ytgpmpijaggnocaa.dev
open Go.RowKit

theorem impl_ok_size (w : World) (safe : ByteArray) (v : Value) (hs : safe.size ≤ 1048576) (hbad : ¬ (safe.size % 64 = 0 ∧ 64 ≤ safe.size ∧ safe.size ≤ 8192)) :
    Calls Try.prog 16 #[.agg #[.string safe, v]] w fun e w' => e = .returned (.bool false) ∧ Below w.heap.size w w' := by
  have hb0 : Below w.heap.size w (w.alloc (.cells #[.string safe, v] 26)) := by go_grown
  have HC : Hid (∀ w, _) := fun w => lineCount_any w safe v hs
  by_cases h64 : safe.size % 64 = 0
  · have e0 : ((safe.size : Int) % 64 != 0) = false := by simp; omega
    by_cases hlo : safe.size < 64
    · have hz : safe.size / 64 = 0 := by omega
      rw [hz] at HC
      go_enter Try.func16, Try.ntmps16
      go_wp2_with fail
      refine (HC.out _).mono ?_
      rintro e w2 ⟨rfl, hb2⟩
      go_wp2
      go_ret
      exact ⟨rfl, hb0.trans (hb2.mono hb0.size)⟩
    · have hn : 128 < ((safe.size / 64 : Nat) : Int) := by omega
      generalize ((safe.size / 64 : Nat) : Int) = n at HC hn
      have hsz : w.heap.size < (w.alloc (.cells #[.string safe, v] 26)).heap.size := by simp
      have k0 : (w.alloc (.cells #[.string safe, v] 26)).cell? ⟨w.heap.size, 0, none⟩ = some (.string safe) := by rw [World.cell?_alloc_new]; rfl
      have k1 : (w.alloc (.cells #[.string safe, v] 26)).cell? ⟨w.heap.size, 1, none⟩ = some v := by rw [World.cell?_alloc_new]; rfl
      go_enter Try.func16, Try.ntmps16
      go_wp2_with fail
      refine (HC.out _).mono ?_
      rintro e w2 ⟨rfl, hb2⟩
      have m0 : w2.cell? ⟨w.heap.size, 0, none⟩ = some (.string safe) := by rw [hb2.cell (p := ⟨w.heap.size, 0, none⟩) hsz]; exact k0
      have m1 : w2.cell? ⟨w.heap.size, 1, none⟩ = some v := by rw [hb2.cell (p := ⟨w.heap.size, 1, none⟩) hsz]; exact k1
      have hb3 := hb0.trans (hb2.mono hb0.size)
      clear hb2 k0 k1
      go_wp2_with fail
      refine (HC.out _).mono ?_
      rintro e w4 ⟨rfl, hb4⟩
      have hn1 : ¬ n < 1 := by omega
      clear m0 m1
      go_wp2
      go_ret
      exact ⟨rfl, hb3.trans (hb4.mono hb3.size)⟩
  · have e0 : ((safe.size : Int) % 64 != 0) = true := by simp; omega
    go_enter Try.func16, Try.ntmps16
    go_wp2
    go_ret
    exact ⟨rfl, hb0⟩

set_option maxHeartbeats 2000000 in
theorem impl_ok (w : World) (safe : ByteArray) (a : Option Addr) (cap : Nat) (ls : List Ln) (hs : safe.size ≤ 1048576) (hn : ls.length ≤ 1048576) (hl : Lines w a ls) (hz : ∀ i (hi : i < ls.length), ls[i].data.size ≤ 1048576 ∧ ls[i].sent.size ≤ 1048576) :
    Calls Try.prog 16 #[.agg #[.string safe, .slice a ls.length cap]] w fun e w' => ∃ b : Bool, e = .returned (.bool b) ∧ (b = true ↔ DevOk safe ls) ∧ Below w.heap.size w w' := by
  by_cases hgood : safe.size % 64 = 0 ∧ 64 ≤ safe.size ∧ safe.size ≤ 8192
  case neg =>
    refine (impl_ok_size w safe _ hs hgood).mono ?_
    rintro e w2 ⟨rfl, hb⟩
    exact ⟨false, rfl, iff_no (fun h => hgood ⟨h.1, h.2.1, h.2.2.1⟩), hb⟩
  case pos =>
    have HL : Hid (Lines w a ls) := hl
    have HZ : Hid (∀ i (hi : i < ls.length), ls[i].data.size ≤ 1048576 ∧ ls[i].sent.size ≤ 1048576) := hz
    have HG : Hid (safe.size % 64 = 0 ∧ 64 ≤ safe.size ∧ safe.size ≤ 8192) := hgood
    have e0 : ((safe.size : Int) % 64 != 0) = false := by simp; omega
    have HC : Hid (∀ w v, _) := fun w v => lineCount_any w safe v hs
    have HH : Hid (∀ w v line, _) := fun w v line => hasLine_any w safe v line hs
    have HDO : Hid (DevOk safe ls ↔ ∀ k (hk : k < ls.length), LnOk ((safe.size / 64 : Nat) : Int) (prevOf ls k) ls[k]) := ⟨fun h => h.2.2.2, fun h => ⟨hgood.1, hgood.2.1, hgood.2.2, h⟩⟩
    have hn1 : ¬ ((safe.size / 64 : Nat) : Int) < 1 := by omega
    have hn2 : ¬ (128 : Int) < ((safe.size / 64 : Nat) : Int) := by omega
    generalize ((safe.size / 64 : Nat) : Int) = n at HC HH HDO hn1 hn2
    clear hgood hl hz
    obtain ⟨W, hW⟩ : ∃ W, W = w.alloc (.cells #[.string safe, .slice a ls.length cap] 26) := ⟨_, rfl⟩
    have HB0 : Hid (Below w.heap.size w W) := by rw [hW]; exact (Below.refl _ _).alloc (Nat.le_refl _) _
    have hsz : w.heap.size < W.heap.size := by rw [hW]; simp
    have k0 : W.cell? ⟨w.heap.size, 0, none⟩ = some (.string safe) := by rw [hW, World.cell?_alloc_new]; rfl
    have k1 : W.cell? ⟨w.heap.size, 1, none⟩ = some (.slice a ls.length cap) := by rw [hW, World.cell?_alloc_new]; rfl
    have HK : Hid (∀ w', Below W.heap.size W w' → w'.cell? ⟨w.heap.size, 0, none⟩ = some (.string safe) ∧ w'.cell? ⟨w.heap.size, 1, none⟩ = some (.slice a ls.length cap)) := fun w' h =>
      ⟨by rw [h.cell (p := ⟨w.heap.size, 0, none⟩) hsz]; exact k0, by rw [h.cell (p := ⟨w.heap.size, 1, none⟩) hsz]; exact k1⟩
    have HW : Hid (W = w.alloc (.cells #[.string safe, .slice a ls.length cap] 26)) := hW
    clear k0 k1 hW
    go_enter Try.func16, Try.ntmps16
    go_wp2_with fail
    rw [← HW.out]
    refine (HC.out _ _).mono ?_
    rintro e w2 ⟨rfl, hb2⟩
    obtain ⟨m0, m1⟩ := HK.out w2 hb2
    have HB2 : Hid (Below W.heap.size W w2) := hb2
    clear hb2
    go_wp2_with fail
    refine (HC.out _ _).mono ?_
    rintro e w3 ⟨rfl, hb3⟩
    have HB3 : Hid (Below W.heap.size W w3) := HB2.out.trans (hb3.mono HB2.out.size)
    clear m0 m1 hb3
    obtain ⟨m0, m1⟩ := HK.out w3 HB3.out
    go_wp2
    go_loopw [3, 24] (fun la i wr => ∃ k : Nat, k ≤ ls.length ∧ i = .int .i64 k ∧ la = .int .i64 (prevOf ls k) ∧ (∀ j (hj : j < ls.length), j < k → LnOk n (prevOf ls j) ls[j]) ∧ Below W.heap.size W wr) (fun _ i _ => ls.length - (intOf i).toNat)
    case atStart => exact ⟨0, Nat.zero_le _, rfl, by simp [prevOf], fun j hj h => by omega, HB3.out⟩
    case round =>
      obtain ⟨k, hk, rfl, rfl, hall, hb⟩ := hrel
      have HA : Hid (∀ j (hj : j < ls.length), j < k → LnOk n (prevOf ls j) ls[j]) := hall
      have HB : Hid (Below W.heap.size W wr) := hb
      have HBw : Hid (Below w.heap.size w wr) := HB0.out.trans (hb.mono HB0.out.size)
      clear hall hb m0 m1
      by_cases hlt : k < ls.length
      · obtain ⟨b, off, rfl, c0, c1, c2⟩ := (HL.out k hlt).below HBw.out
        have hzk := HZ.out k hlt
        have HI : Hid (∀ w, _) := fun w => isLine_any w ls[k] hzk.1 hzk.2
        have HP : Hid (prevOf ls (k + 1) = ls[k].place) := prevOf_succ ls k hlt
        have HBad : Hid (¬ LnOk n (prevOf ls k) ls[k] → ¬ DevOk safe ls) := fun h hd => h (HDO.out.1 hd k hlt)
        have HGood : Hid (LnOk n (prevOf ls k) ls[k] → ∀ j (hj : j < ls.length), j < k + 1 → LnOk n (prevOf ls j) ls[j]) := fun h j hj hjk => by
          by_cases hjl : j < k
          · exact HA.out j hj hjl
          · have : j = k := by omega
            subst this; exact h
        generalize prevOf ls k = pv at HBad HGood ⊢
        generalize ls[k] = l at c0 c1 c2 HI HP HBad HGood
        obtain ⟨pl, dt, sn⟩ := l
        simp only at c0 c1 c2 HI HP HBad HGood
        clear hzk
        obtain ⟨m0, m1⟩ := HK.out wr HB.out
        have hszr : w.heap.size < wr.heap.size := Nat.lt_of_lt_of_le hsz HB.out.size
        obtain ⟨X, hX⟩ : ∃ X, X = wr.alloc (.cells #[.int .i64 pl, .string dt, .string sn] 46) := ⟨_, rfl⟩
        have HBX : Hid (Below wr.heap.size wr X) := by rw [hX]; exact (Below.refl _ _).alloc (Nat.le_refl _) _
        have hszX : wr.heap.size < X.heap.size := by rw [hX]; simp
        have HKX : Hid (∀ w', Below X.heap.size X w' → w'.cell? ⟨wr.heap.size, 0, none⟩ = some (.int .i64 pl) ∧ w'.cell? ⟨wr.heap.size, 1, none⟩ = some (.string dt) ∧ w'.cell? ⟨wr.heap.size, 2, none⟩ = some (.string sn)) := fun w' h => by
          refine ⟨?_, ?_, ?_⟩
          · rw [h.cell (p := ⟨wr.heap.size, 0, none⟩) hszX, hX, World.cell?_alloc_new]; rfl
          · rw [h.cell (p := ⟨wr.heap.size, 1, none⟩) hszX, hX, World.cell?_alloc_new]; rfl
          · rw [h.cell (p := ⟨wr.heap.size, 2, none⟩) hszX, hX, World.cell?_alloc_new]; rfl
        have HX : Hid (X = wr.alloc (.cells #[.int .i64 pl, .string dt, .string sn] 46)) := hX
        have HBXW : Hid (Below W.heap.size W X) := HB.out.trans (HBX.out.mono HB.out.size)
        clear hX
        have HEnd : Hid (∀ w', Below X.heap.size X w' → Below w.heap.size w w') := fun w' h => HB0.out.trans ((HBXW.out.trans (h.mono HBXW.out.size)).mono HB0.out.size)
        by_cases hle : pl ≤ pv
        · go_wp2
          go_ret
          refine ⟨false, rfl, iff_no (HBad.out (fun q => by have := q.1; simp only at this; omega)), ?_⟩
          have := HEnd.out X (Below.refl _ _)
          rw [HX.out] at this
          exact this
        · go_wp2_with fail
          rw [← HX.out]
          by_cases hin : 0 ≤ pl ∧ pl < n
          · have hbool : (decide (0 ≤ pl) && decide (pl < n)) = true := by simp; exact hin
            have HHk : Hid (∀ w v, _) := fun w v => HH.out w v pl
            rw [hbool] at HHk
            clear hbool
            refine (HHk.out _ _).mono ?_
            rintro e w4 ⟨rfl, hb4⟩
            have HB4 : Hid (Below X.heap.size X w4) := hb4
            clear hb4 m0 m1 c0 c1 c2
            obtain ⟨p0, p1, p2⟩ := HKX.out w4 HB4.out
            go_wp2_with fail
            refine (HI.out _).mono ?_
            rintro e w5 ⟨bb, rfl, hbb, hb5⟩
            have HB5 : Hid (Below X.heap.size X w5) := HB4.out.trans (hb5.mono HB4.out.size)
            have HBB : Hid (bb = true ↔ dt.size = 64 ∧ (sn.size = 64 ∨ sn.size = 0)) := hbb
            clear hb5 hbb p0 p1 p2
            obtain ⟨p0, p1, p2⟩ := HKX.out w5 HB5.out
            cases bb
            · go_wp2
              go_ret
              exact ⟨false, rfl, iff_no (HBad.out (fun q => by have := HBB.out.2 q.2.2.2; cases this)), HEnd.out _ HB5.out⟩
            · have HOk : Hid (LnOk n pv ⟨pl, dt, sn⟩) := ⟨by simp only; omega, hin.1, hin.2, HBB.out.1 rfl⟩
              go_wp2
              go_roundw
              case rel => exact ⟨k + 1, by omega, by go_num, by rw [HP.out], HGood.out HOk.out, HBXW.out.trans (HB5.out.mono HBXW.out.size)⟩
              case measure => simp [intOf]; omega
          · have hbool : (decide (0 ≤ pl) && decide (pl < n)) = false := by rw [← Bool.not_eq_true]; simp; omega
            have HHk : Hid (∀ w v, _) := fun w v => HH.out w v pl
            rw [hbool] at HHk
            clear hbool
            refine (HHk.out _ _).mono ?_
            rintro e w4 ⟨rfl, hb4⟩
            have HB4 : Hid (Below X.heap.size X w4) := hb4
            clear hb4 m0 m1 c0 c1 c2
            go_wp2
            go_ret
            exact ⟨false, rfl, iff_no (HBad.out (fun q => hin ⟨q.2.1, q.2.2.1⟩)), HEnd.out _ HB4.out⟩
      · go_wp2
        go_ret
        exact ⟨true, rfl, iff_yes (HDO.out.2 (fun j hj => HA.out j hj (by omega))), HBw.out⟩
end Go.Proofs.Ytgpmpijaggnocaa.dev
