/-
  What the program's and the specification's Unsealed return; nothing that was there is written.
-/
import Derived.Test.YtpkdkkjdlhillaaDoorSealImpl
namespace Go.Proofs.YtpkdkkjdlhillaaDoor.crc
open Go.RowKit
open conv

theorem impl_unsealed_no (s : ByteArray) (w : World) (hs : s.size ≠ 64) :
    Calls Tryd.prog 37 #[.string s] w fun e w' => e = .returned (.tuple #[.string ⟨#[]⟩, .bool false]) ∧ Below w.heap.size w w' := by
  have h : ((s.size : Int) != 64) = true := by simp; omega
  go_enter Tryd.func37, Tryd.ntmps37
  go_wp2
  go_quiet (fail)
  go_wp2
  go_ret2
  exact ⟨rfl, ⟨rfl, rfl, rfl, Nat.le_refl _, fun _ _ => rfl⟩⟩

/-- Whether the last four of 64 bytes are the sum of the first 60. -/
def sealedB (s : ByteArray) : Bool := (crcStr (s.extract 0 60).data.toList).toList == (s.extract 60 64).toList
def unsealedOf (s : ByteArray) : ByteArray := if sealedB s then s.extract 0 60 else ⟨#[]⟩

theorem below_drew {B : Nat} {w w' : World} (h : Below B w.drew w') : Below B w w' := ⟨h.os, h.tape, h.output, h.size, h.block⟩

set_option maxHeartbeats 1000000 in
theorem impl_unsealed (s : ByteArray) (w : World) (hs : s.size = 64) (ht : TabAt w) :
    Calls Tryd.prog 37 #[.string s] w fun e w' => e = .returned (.tuple #[.string (unsealedOf s), .bool (sealedB s)]) ∧ Below w.heap.size w w' := by
  have h : ((s.size : Int) != 64) = false := by simp; omega
  have hz : (s.extract 0 60).size = 60 := by simp; omega
  have HT : Hid (TabAt w.drew) := ht
  clear ht
  have HC : Hid (∀ w, TabAt w → _) := fun w ht => impl_crc (s.extract 0 60) w (by omega) ht
  have HU : Hid (unsealedOf s = if sealedB s then s.extract 0 60 else ⟨#[]⟩) := rfl
  have hB : sealedB s = ((crcStr (s.extract 0 60).data.toList).toList == (s.extract 60 64).toList) := rfl
  have hsl : ∀ W, (Instr.slice 9 (.string s) (some (.int .i64 60)) none none).run Tryd.prog W = .ok (.string (s.extract 60 64)) W := by
    intro W
    rw [run_slice_string_from_if W 9 s .i64 60 Tryd.underlying9, if_pos (by omega), hs]
    rfl
  have hsk : ∀ W, (Instr.slice 9 (.string s) none (some (.int .i64 60)) none).run Tryd.prog W = .ok (.string (s.extract 0 60)) W := by
    intro W
    rw [run_slice_string_to_if W 9 s .i64 60 Tryd.underlying9, if_pos (by omega)]
    rfl
  generalize crcStr (s.extract 0 60).data.toList = cr at HC hB
  generalize hbb : sealedB s = bb at hB HU ⊢
  generalize unsealedOf s = us at HU ⊢
  generalize s.extract 0 60 = hd at *
  generalize s.extract 60 64 = tl at *
  clear hbb hs
  have hB' : (tl.toList == cr.toList) = bb := by rw [hB]; exact BEq.comm
  clear hB
  cases bb
  all_goals
    go_enter Tryd.func37, Tryd.ntmps37
    go_wp2
    go_region_with (go_at_call 57; refine (HC.out _ HT.out).mono ?_; rintro e w1 ⟨rfl, hb1⟩)
    all_goals
      have hbb1 : Below w.heap.size w _ := below_drew (by assumption)
      go_wp2
      go_ret2
      exact ⟨by rw [HU.out]; rfl, hbb1⟩
end Go.Proofs.YtpkdkkjdlhillaaDoor.crc
