/-
  The marks of lines found again.
-/
import Derived.Test.YtjlhendeofhdlaaMark2
import Derived.Test.YtjlhendeofhdlaaLater
import Derived.Deep.RegionHeld3
namespace Go.Proofs.Ytjlhendeofhdlaa.dev
open Go.RowKit
open later

set_option maxHeartbeats 2000000 in
theorem heldLineS_any (w : World) (a : Option Addr) (n cap : Nat) (k : Nat) (hl : Lines w a (markLs k n)) (hn : n ≤ 1048576) (hk : 0 < k) (hk1 : k ≤ 4194304) :
    Calls Try.prog 30 #[.slice a n cap, .int .i64 (k : Int)] w fun e w' => e = .returned (.int .i64 ((k + n * 3 : Nat) : Int)) ∧ Below w.heap.size w w' := by
  have HL : Hid (∀ w', Below w.heap.size w w' → ∀ i, i < n → LnAt w' a i (markLn k i)) := fun w' h i hi => by
    have := (hl i (by rw [markLs_len]; exact hi)).below h
    rw [markLs_at] at this
    exact this
  clear hl
  go_enter Try.func30, Try.ntmps30
  go_wp2
  go_loopw [1, 5] (fun m i wr => ∃ j : Nat, j ≤ n ∧ i = .int .i64 j ∧ m = .int .i64 ((k + j * 3 : Nat) : Int) ∧ Below w.heap.size w wr) (fun _ i _ => n - (intOf i).toNat)
  case atStart => exact ⟨0, Nat.zero_le _, rfl, rfl, Below.refl _ _⟩
  case round =>
    obtain ⟨j, hj, rfl, rfl, hb⟩ := hrel
    have HB : Hid (Below w.heap.size w wr) := hb
    clear hb
    by_cases hlt : j < n
    · obtain ⟨b, off, rfl, c0, c1, c2⟩ := HL.out wr HB.out j hlt
      have HCS : Hid (∀ w', Below w.heap.size w w' → w'.cell? ⟨b, off + j * 3 + 1, none⟩ = some (.string (markLn k j).data) ∧ w'.cell? ⟨b, off + j * 3 + 2, none⟩ = some (.string (markLn k j).sent)) := fun w' h => by
        obtain ⟨b', o', e', d0, d1, d2⟩ := HL.out w' h j hlt
        simp at e'
        obtain ⟨rfl, rfl⟩ := e'
        exact ⟨d1, d2⟩
      have hpl : (markLn k j).place = ((k + j * 3 : Nat) : Int) := rfl
      have hdt : (markLn k j).data = markStr (k + j * 3 + 1) := rfl
      have hsn : (markLn k j).sent = markStr (k + j * 3 + 2) := rfl
      rw [hpl] at c0
      rw [hdt, hsn] at HCS
      clear hpl hdt hsn c1 c2
      obtain ⟨km, hkm⟩ : ∃ km : Nat, km = k + j * 3 := ⟨_, rfl⟩
      rw [← hkm] at c0 HCS ⊢
      have hkb : km ≤ 8388608 := by omega
      have hkp : 0 < km := by omega
      have HKM : Hid (km = k + j * 3) := hkm
      clear hkm
      have HM : Hid (∀ w, Calls _ _ _ w _) := fun w => markText_any w (km + 1) (by omega) (by omega)
      have HM2 : Hid (∀ w, Calls _ _ _ w _) := fun w => markText_any w (km + 2) (by omega) (by omega)
      generalize markStr (km + 1) = s1 at HCS HM
      generalize markStr (km + 2) = s2 at HCS HM2
      have e1 : ((km + 1 : Nat) : Int) = (km : Int) + 1 := by omega
      have e2 : ((km + 2 : Nat) : Int) = (km : Int) + 2 := by omega
      rw [e1] at HM
      rw [e2] at HM2
      clear e1 e2
      have hq : ((km : Int) != (km : Int)) = false := by simp
      have hss1 : (s1.toList == s1.toList) = true := by simp
      have hss2 : (s2.toList == s2.toList) = true := by simp
      have hj0 : (0 : Int) ≤ (j : Int) := by omega
      have hjn : (j : Int) < (n : Int) := by omega
      have HBd : Hid (Below w.heap.size w wr.drew) := HB.out.drew
      have HSt : Hid (∀ w5, Below wr.drew.heap.size wr.drew w5 → Below w.heap.size w w5) := fun w5 h => HBd.out.trans (h.mono HBd.out.size)
      go_wp2
      go_region_held3 (fun w' => w'.cell? ⟨b, off + j * 3 + 1, none⟩ = some (.string s1) ∧ w'.cell? ⟨b, off + j * 3 + 2, none⟩ = some (.string s2))
        (first | exact HCS.out _ HBd.out | exact HCS.out _ h5)
        (first | (go_at_call 39; refine (HM.out wr.drew).mono ?_; rintro e w5 ⟨rfl, hb5⟩; have h5 := HSt.out w5 hb5))
      all_goals
        have HB5 : Hid (Below w.heap.size w w5) := h5
        have HBe : Hid (Below w.heap.size w w5.drew) := h5.drew
        have HSu : Hid (∀ w7, Below w5.drew.heap.size w5.drew w7 → Below w.heap.size w w7) := fun w7 h => HBe.out.trans (h.mono HBe.out.size)
        clear c0 hb5 h5
        go_wp2
        go_region_held3 (fun w' => w'.cell? ⟨b, off + j * 3 + 1, none⟩ = some (.string s1) ∧ w'.cell? ⟨b, off + j * 3 + 2, none⟩ = some (.string s2))
          (first | exact HCS.out _ HBe.out | exact HCS.out _ h7)
          (first | (go_at_call 39; refine (HM2.out w5.drew).mono ?_; rintro e w7 ⟨rfl, hb7⟩; have h7 := HSu.out w7 hb7))
        all_goals
          have HB7 : Hid (Below w.heap.size w w7) := h7
          clear hb7 h7
          go_wp2
          go_roundw
          case rel => exact ⟨j + 1, by omega, by go_num, by have := HKM.out; go_num, HB7.out⟩
          case measure => simp [intOf]; omega
    · have : j = n := by omega
      subst this
      go_wp2
      go_ret
      exact ⟨rfl, HB.out⟩
theorem heldDevice_any (w : World) (safe : ByteArray) (a : Option Addr) (n cap : Nat) (k : Nat) (hl : Lines w a (markLs k n)) (hn : n ≤ 1048576) (hk : 0 < k) (hk1 : k ≤ 4194304) :
    Calls Try.prog 11 #[.agg #[.string safe, .slice a n cap], .int .i64 (k : Int)] w fun e w' => e = .returned (.int .i64 ((k + n * 3 : Nat) : Int)) ∧ Below w.heap.size w w' := by
  have hb0 : Below w.heap.size w (w.alloc (.cells #[.string safe, .slice a n cap] 28)) := (Below.refl _ _).alloc (Nat.le_refl _) _
  have HC : Hid (Calls _ _ _ _ _) := heldLineS_any (w.alloc (.cells #[.string safe, .slice a n cap] 28)) a n cap k (hl.below hb0) hn hk hk1
  have hk0 : ¬ ((k + n * 3 : Nat) : Int) < 0 := by omega
  clear hl
  go_enter Try.func11, Try.ntmps11
  go_wp2_with fail
  refine HC.out.mono ?_
  rintro e w2 ⟨rfl, hb2⟩
  go_wp2
  go_ret
  exact ⟨rfl, hb0.trans (hb2.mono hb0.size)⟩
end Go.Proofs.Ytjlhendeofhdlaa.dev
