/-
  What the program's Sealed and Unsealed return, and the specification's Unsealed; nothing that was there is written.
-/
import Derived.Test.YtpkdkkjdlhillaaDoorSeal
import Derived.Test.YtpkdkkjdlhillaaDoorCrcImpl
import Derived.Deep.RegionWith
import Derived.BigQuiet
import Derived.Deep.QuietTactic
namespace Go.Proofs.YtpkdkkjdlhillaaDoor.crc
open Go.RowKit
open conv

theorem TabAt.below {w w' : World} (h : TabAt w) (hb : Below w.heap.size w w') (h0 : 0 < w.heap.size) : TabAt w' :=
  fun i hi => by rw [hb.cell (p := ⟨0, i, none⟩) h0]; exact h i hi

theorem impl_sealed_long (s : ByteArray) (w : World) (hs : 60 < s.size) :
    Calls Tryd.prog 30 #[.string s] w fun e w' => e = .returned (.string ⟨#[]⟩) ∧ w = w' := by
  have h : (60 : Int) < (s.size : Int) := by omega
  go_enter Tryd.func30, Tryd.ntmps30
  go_wp2
  go_ret
  exact ⟨rfl, rfl⟩
theorem impl_sealed (s : ByteArray) (w : World) (hs : s.size ≤ 60) (ht : TabAt w) (h0 : 0 < w.heap.size) :
    Calls Tryd.prog 30 #[.string s] w fun e w' => e = .returned (.string (sealedStr s)) ∧ Below w.heap.size w w' := by
  have HT : Hid (TabAt w) := ht
  have h : ¬ (60 : Int) < (s.size : Int) := by omega
  have en : (60 - (s.size : Int)) = ((60 - s.size : Nat) : Int) := by omega
  have hmk := make_zero (60 - s.size) (by omega)
  have hcv := conv_zero (60 - s.size)
  have hp := padded_size s hs
  have HE : Hid (sealedStr s = padded s ++ crcStr (padded s).data.toList) := rfl
  have HPD : Hid (padded s = s ++ zeroStr (60 - s.size)) := rfl
  have hzs := zeroStr_size (60 - s.size)
  rw [← en] at hmk
  generalize zeroStr (60 - s.size) = z at hcv HPD hzs
  generalize madeCells #[Value.int .u8 0] (60 - s.size) = mc at hmk hcv
  have HEN : Hid ((60 - (s.size : Int)) = ((60 - s.size : Nat) : Int)) := en
  clear en ht
  have hsum : s.size + z.size ≤ 60 := by omega
  go_enter Tryd.func30, Tryd.ntmps30
  go_wp2_with fail
  rw [← HPD.out]
  have hcs := crcStr_size (padded s).data.toList
  have HC : Hid (∀ w, TabAt w → _) := fun w ht => impl_crc (padded s) w (by omega) ht
  generalize crcStr (padded s).data.toList = cr at HC hcs HE
  have hb1 : Below w.heap.size w (w.alloc (.cells mc 5)) := (Below.refl _ _).alloc (Nat.le_refl _) _
  refine (HC.out _ (HT.out.below hb1 h0)).mono ?_
  rintro e w2 ⟨rfl, hb2⟩
  clear hmk hcv
  go_wp2
  go_ret
  refine ⟨?_, hb1.trans (hb2.mono hb1.size)⟩
  rw [HE.out]
  rfl
end Go.Proofs.YtpkdkkjdlhillaaDoor.crc
