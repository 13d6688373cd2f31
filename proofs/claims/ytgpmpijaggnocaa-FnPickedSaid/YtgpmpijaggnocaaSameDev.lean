/-
  Two devices with the same text and the same lines are the same.
-/
import Derived.Test.YtgpmpijaggnocaaDev2
import Derived.BigQuiet
import Derived.Deep.QuietTactic
namespace Go.Proofs.Ytgpmpijaggnocaa.dev
open Go.RowKit

set_option maxHeartbeats 1000000 in
theorem sameDev_same (w : World) (safe : ByteArray) (a b : Option Addr) (ca cb : Nat) (ls : List Ln) (hn : ls.length ≤ 1048576) (ha : Lines w a ls) (hb : Lines w b ls) :
    Calls Try.prog 13 #[.agg #[.string safe, .slice a ls.length ca], .agg #[.string safe, .slice b ls.length cb]] w fun e w' => e = .returned (.bool true) ∧ Below w.heap.size w w' := by
  obtain ⟨W, hW⟩ : ∃ W, W = (w.alloc (.cells #[.string safe, .slice a ls.length ca] 26)).alloc (.cells #[.string safe, .slice b ls.length cb] 26) := ⟨_, rfl⟩
  have hb0 : Below w.heap.size w W := by rw [hW]; exact ((Below.refl _ _).alloc (Nat.le_refl _) _).alloc (by simp) _
  have HA : Hid (Lines W a ls) := ha.below hb0
  have HB : Hid (Lines W b ls) := hb.below hb0
  have HW : Hid (W = (w.alloc (.cells #[.string safe, .slice a ls.length ca] 26)).alloc (.cells #[.string safe, .slice b ls.length cb] 26)) := hW
  have hss : (safe.toList == safe.toList) = true := by simp
  have hll : ((ls.length : Int) == (ls.length : Int)) = true := by simp
  have a0 : W.cell? ⟨w.heap.size, 0, none⟩ = some (.string safe) := by rw [hW, World.cell?_alloc_lt _ _ _ (by simp), World.cell?_alloc_new]; rfl
  have a1 : W.cell? ⟨w.heap.size, 1, none⟩ = some (.slice a ls.length ca) := by rw [hW, World.cell?_alloc_lt _ _ _ (by simp), World.cell?_alloc_new]; rfl
  have b0 : W.cell? ⟨w.heap.size + 1, 0, none⟩ = some (.string safe) := by
    rw [hW, show w.heap.size + 1 = (w.alloc (.cells #[.string safe, .slice a ls.length ca] 26)).heap.size by simp, World.cell?_alloc_new]; rfl
  have b1 : W.cell? ⟨w.heap.size + 1, 1, none⟩ = some (.slice b ls.length cb) := by
    rw [hW, show w.heap.size + 1 = (w.alloc (.cells #[.string safe, .slice a ls.length ca] 26)).heap.size by simp, World.cell?_alloc_new]; rfl
  have HB0 : Hid (Below w.heap.size w W) := hb0
  clear hW ha hb hb0
  go_enter Try.func13, Try.ntmps13
  go_wp2_with (rw [← HW.out])
  go_loopw [5] (fun i wr => ∃ k : Nat, k ≤ ls.length ∧ i = .int .i64 k ∧ ∃ n, wr = W.drewN n) (fun i _ => ls.length - (intOf i).toNat)
  case atStart => exact ⟨0, Nat.zero_le _, rfl, 0, rfl⟩
  case round =>
    obtain ⟨k, hk, rfl, n, rfl⟩ := hrel
    by_cases hlt : k < ls.length
    · obtain ⟨b, o, rfl, c0, c1, c2⟩ := HA.out k hlt
      obtain ⟨b', o', rfl, d0, d1, d2⟩ := HB.out k hlt
      generalize ls[k] = l at c0 c1 c2 d0 d1 d2
      obtain ⟨p, dt, sn⟩ := l
      simp only at c0 c1 c2 d0 d1 d2
      have hlt' : (k : Int) < (ls.length : Int) := by omega
      have e1 : (p == p) = true := by simp
      have e2 : (dt.toList == dt.toList) = true := by simp
      have e3 : (sn.toList == sn.toList) = true := by simp
      go_wp2
      go_quiet (fail)
      go_wp2
      go_roundw
      case rel => exact ⟨k + 1, by omega, by go_num, _, rfl⟩
      case measure => simp [intOf]; omega
    · have hge : ¬ (k : Int) < (ls.length : Int) := by omega
      go_wp2
      go_ret
      exact ⟨rfl, HB0.out.os, HB0.out.tape, HB0.out.output, HB0.out.size, HB0.out.block⟩
end Go.Proofs.Ytgpmpijaggnocaa.dev
