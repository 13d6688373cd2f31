/-
  Two bytes read as a number, by the program and by the specification; four cells written.
-/
import Derived.Test.YtpkdkkjdlhillaaDoorRecord
import Derived.BigQuiet
import Derived.Deep.QuietTactic
namespace Go.Proofs.YtpkdkkjdlhillaaDoor.sh
open Go.RowKit
open wmath wb num crc

theorem num_two (s : ByteArray) (hs : s.size = 2) : (num s.data.toList : Int) = (s[0].toNat : Int) * 256 + (s[1].toNat : Int) := by
  have h0 : num (s.data.toList.take 1) = 0 * 256 + s[0].toNat := num_take s 0 (by omega)
  have h1 : num (s.data.toList.take 2) = num (s.data.toList.take 1) * 256 + s[1].toNat := num_take s 1 (by omega)
  rw [List.take_of_length_le (l := s.data.toList) (by simp; omega)] at h1
  omega
set_option maxHeartbeats 400000 in
theorem spec_two (s : ByteArray) (w : World) (hs : s.size = 2) :
    Calls Tryd.prog 41 #[.string s] w fun e w' => e = .returned (.tuple #[.int .i64 (num s.data.toList), .bool true]) ∧ ∃ n, w' = w.drewN n := by
  rw [num_two s hs]
  have h2 : ((s.size : Int) != 2) = false := by simp; omega
  have h0 : 0 < s.size := by omega
  have h1 : 1 < s.size := by omega
  have hc0 := s[0].toNat_lt
  have hc1 := s[1].toNat_lt
  go_enter Tryd.func41, Tryd.ntmps41
  go_wp2
  go_quiet (fail)
  go_wp2
  go_ret2
  exact ⟨rfl, _, rfl⟩
theorem shortAt_any (s : ByteArray) (p : Nat) (w : World) (hs : s.size ≤ 1048576) (hp : p + 2 ≤ s.size) :
    Calls Tryd.prog 38 #[.string s, .int .i64 (p : Int)] w fun e w' => e = .returned (.int .i64 (num (s.extract p (p + 2)).data.toList : Nat)) ∧ w' = w := by
  have hz : (s.extract p (p + 2)).size = 2 := by rw [ByteArray.size_extract]; omega
  have HN : Hid (∀ w, Calls _ _ _ w _) := fun w => numberOf_any (s.extract p (p + 2)) w (by omega)
  have hlt : num (s.extract p (p + 2)).data.toList < 65536 := by
    have := num_lt (s.extract p (p + 2)).data.toList
    have hl : ∀ t : ByteArray, t.data.toList.length = t.size := fun t => by simp
    have e : (s.extract p (p + 2)).data.toList.length = 2 := by rw [hl, hz]
    rw [e] at this
    simpa using this
  generalize num (s.extract p (p + 2)).data.toList = m at HN hlt
  have g1 : (p : Int) ≤ (p : Int) + 2 := by omega
  have g2 : (p : Int) + 2 ≤ (s.size : Int) := by omega
  have e1 : ((p : Int) + 2).toNat = p + 2 := by omega
  go_enter Tryd.func38, Tryd.ntmps38
  go_wp2_with fail
  refine (HN.out _).mono ?_
  rintro x w1 ⟨rfl, rfl⟩
  go_wp2
  go_ret
  exact ⟨rfl, rfl⟩
theorem four_set {w : World} {b : Nat} {v0 v1 v2 v3 : Value} (h0 : w.cell? ⟨b, 0, none⟩ = some v0) (h1 : w.cell? ⟨b, 1, none⟩ = some v1) (h2 : w.cell? ⟨b, 2, none⟩ = some v2) (h3 : w.cell? ⟨b, 3, none⟩ = some v3) (x0 x1 x2 x3 : Value) :
    let w' := (((w.setCell ⟨b, 0, none⟩ x0).setCell ⟨b, 1, none⟩ x1).setCell ⟨b, 2, none⟩ x2).setCell ⟨b, 3, none⟩ x3
    w'.cell? ⟨b, 0, none⟩ = some x0 ∧ w'.cell? ⟨b, 1, none⟩ = some x1 ∧ w'.cell? ⟨b, 2, none⟩ = some x2 ∧ w'.cell? ⟨b, 3, none⟩ = some x3 := by
  have ne : ∀ i j : Nat, i ≠ j → (⟨b, i, none⟩ : Addr) ≠ ⟨b, j, none⟩ := fun i j h q => h (by simpa using congrArg Addr.off q)
  refine ⟨?_, ?_, ?_, ?_⟩
  · rw [World.cell?_setCell_other _ _ _ _ (ne 3 0 (by omega)), World.cell?_setCell_other _ _ _ _ (ne 2 0 (by omega)), World.cell?_setCell_other _ _ _ _ (ne 1 0 (by omega))]
    exact World.cell?_setCell_same _ _ _ h0
  · rw [World.cell?_setCell_other _ _ _ _ (ne 3 1 (by omega)), World.cell?_setCell_other _ _ _ _ (ne 2 1 (by omega))]
    exact World.cell?_setCell_same _ _ _ (by rw [World.cell?_setCell_other _ _ _ _ (ne 0 1 (by omega))]; exact h1)
  · rw [World.cell?_setCell_other _ _ _ _ (ne 3 2 (by omega))]
    exact World.cell?_setCell_same _ _ _ (by rw [World.cell?_setCell_other _ _ _ _ (ne 1 2 (by omega)), World.cell?_setCell_other _ _ _ _ (ne 0 2 (by omega))]; exact h2)
  · exact World.cell?_setCell_same _ _ _ (by rw [World.cell?_setCell_other _ _ _ _ (ne 2 3 (by omega)), World.cell?_setCell_other _ _ _ _ (ne 1 3 (by omega)), World.cell?_setCell_other _ _ _ _ (ne 0 3 (by omega))]; exact h3)
end Go.Proofs.YtpkdkkjdlhillaaDoor.sh
