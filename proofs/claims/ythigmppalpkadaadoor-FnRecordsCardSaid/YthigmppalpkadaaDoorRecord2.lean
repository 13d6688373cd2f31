/-
  A record read from a line, by the program and by the specification; nothing that was there is written.
-/
import Derived.Test.YthigmppalpkadaaDoorRecord
import Derived.Deep.RegionWith
import Derived.BigQuiet
import Derived.Deep.QuietTactic
namespace Go.Proofs.YthigmppalpkadaaDoor.crc
open Go.RowKit
open wmath wb num

theorem num_two (s : ByteArray) (hs : s.size = 2) : (num s.data.toList : Int) = (s[0].toNat : Int) * 256 + (s[1].toNat : Int) := by
  have h0 : num (s.data.toList.take 1) = 0 * 256 + s[0].toNat := num_take s 0 (by omega)
  have h1 : num (s.data.toList.take 2) = num (s.data.toList.take 1) * 256 + s[1].toNat := num_take s 1 (by omega)
  rw [List.take_of_length_le (l := s.data.toList) (by simp; omega)] at h1
  omega
set_option maxHeartbeats 400000 in
theorem spec_two (s : ByteArray) (w : World) (hs : s.size = 2) :
    Calls Tryd.prog 55 #[.string s] w fun e w' => e = .returned (.tuple #[.int .i64 (num s.data.toList), .bool true]) ∧ ∃ n, w' = w.drewN n := by
  rw [num_two s hs]
  have h2 : ((s.size : Int) != 2) = false := by simp; omega
  have h0 : 0 < s.size := by omega
  have h1 : 1 < s.size := by omega
  have hc0 := s[0].toNat_lt
  have hc1 := s[1].toNat_lt
  go_enter Tryd.func55, Tryd.ntmps55
  go_wp2
  go_quiet (fail)
  go_wp2
  go_ret2
  exact ⟨rfl, _, rfl⟩
def recEp (s : ByteArray) : Int := wrap64 (num (s.extract 4 12).data.toList)
def recSq (s : ByteArray) : Int := if h : 1 < s.size then (s[1].toNat : Int) else 0
def recHf (s : ByteArray) : Int := (num (s.extract 2 4).data.toList : Nat)
def recOld (s : ByteArray) : ByteArray := s.extract 12 44
def recB (s : ByteArray) : Bool := (recStr (recEp s) (recSq s) (recHf s) (recOld s)).toList == s.toList
def recVal (b : Bool) (s : ByteArray) : Value := if b = true then .agg #[.int .i64 (recEp s), .int .i64 (recSq s), .int .i64 (recHf s), .string (recOld s)] else .agg #[.int .i64 0, .int .i64 0, .int .i64 0, .string ⟨#[]⟩]
def recWorld (w : World) (n : Nat) (q hf ep : Int) (o : ByteArray) : World :=
  ((((w.alloc (.cells #[.int .i64 0, .int .i64 0, .int .i64 0, .string ⟨#[]⟩] 35)).alloc (.cells #[.int .i64 0, .int .i64 q, .int .i64 0, .string o] 35)).drewN n).setCell ⟨w.heap.size + 1, 2, none⟩ (.int .i64 hf)).setCell ⟨w.heap.size + 1, 0, none⟩ (.int .i64 ep)
theorem recWorld_cells (w : World) (n : Nat) (q hf ep : Int) (o : ByteArray) :
    (recWorld w n q hf ep o).cell? ⟨w.heap.size + 1, 0, none⟩ = some (.int .i64 ep) ∧ (recWorld w n q hf ep o).cell? ⟨w.heap.size + 1, 1, none⟩ = some (.int .i64 q) ∧ (recWorld w n q hf ep o).cell? ⟨w.heap.size + 1, 2, none⟩ = some (.int .i64 hf) ∧ (recWorld w n q hf ep o).cell? ⟨w.heap.size + 1, 3, none⟩ = some (.string o)
    ∧ (recWorld w n q hf ep o).cell? ⟨w.heap.size, 0, none⟩ = some (.int .i64 0) ∧ (recWorld w n q hf ep o).cell? ⟨w.heap.size, 1, none⟩ = some (.int .i64 0) ∧ (recWorld w n q hf ep o).cell? ⟨w.heap.size, 2, none⟩ = some (.int .i64 0) ∧ (recWorld w n q hf ep o).cell? ⟨w.heap.size, 3, none⟩ = some (.string ⟨#[]⟩)
    ∧ (∀ k, (recWorld w n q hf ep o).frozen? ⟨w.heap.size, k, none⟩ = false) ∧ (recWorld w n q hf ep o).heap.size = w.heap.size + 2 := by
  unfold recWorld
  refine ⟨by go_simp, by go_simp, by go_simp, by go_simp, by go_simp, by go_simp, by go_simp, by go_simp, fun k => by go_simp, by go_simp⟩
theorem recWorld_below (w : World) (n : Nat) (q hf ep : Int) (o : ByteArray) : Below w.heap.size w (recWorld w n q hf ep o) := by
  have h := ((Below.refl w.heap.size w).alloc (Nat.le_refl _) (.cells #[.int .i64 0, .int .i64 0, .int .i64 0, .string ⟨#[]⟩] 35))
  have h2 := h.alloc h.size (.cells #[.int .i64 0, .int .i64 q, .int .i64 0, .string o] 35)
  have h3 : Below w.heap.size w (((w.alloc (.cells #[.int .i64 0, .int .i64 0, .int .i64 0, .string ⟨#[]⟩] 35)).alloc (.cells #[.int .i64 0, .int .i64 q, .int .i64 0, .string o] 35)).drewN n) := ⟨h2.os, h2.tape, h2.output, h2.size, h2.block⟩
  exact (h3.setCell (p := ⟨w.heap.size + 1, 2, none⟩) (Nat.le_succ _) _).setCell (p := ⟨w.heap.size + 1, 0, none⟩) (Nat.le_succ _) _
theorem four_set {w : World} {b : Nat} {v0 v1 v2 v3 : Value} (h0 : w.cell? ⟨b, 0, none⟩ = some v0) (h1 : w.cell? ⟨b, 1, none⟩ = some v1) (h2 : w.cell? ⟨b, 2, none⟩ = some v2) (h3 : w.cell? ⟨b, 3, none⟩ = some v3) (x0 x1 x2 x3 : Value) :
    let w' := (((w.setCell ⟨b, 0, none⟩ x0).setCell ⟨b, 1, none⟩ x1).setCell ⟨b, 2, none⟩ x2).setCell ⟨b, 3, none⟩ x3
    w'.cell? ⟨b, 0, none⟩ = some x0 ∧ w'.cell? ⟨b, 1, none⟩ = some x1 ∧ w'.cell? ⟨b, 2, none⟩ = some x2 ∧ w'.cell? ⟨b, 3, none⟩ = some x3 := by
  have ne : ∀ i j : Nat, i ≠ j → (⟨b, i, none⟩ : Addr) ≠ ⟨b, j, none⟩ := fun i j h q => h (by simpa using congrArg Addr.off q)
  refine ⟨?_, ?_, ?_, ?_⟩
  · rw [World.cell?_setCell_other _ _ _ _ (ne 3 0 (by omega)), World.cell?_setCell_other _ _ _ _ (ne 2 0 (by omega)), World.cell?_setCell_other _ _ _ _ (ne 1 0 (by omega))]
    exact World.cell?_setCell_same _ _ _ h0
  · rw [World.cell?_setCell_other _ _ _ _ (ne 3 1 (by omega)), World.cell?_setCell_other _ _ _ _ (ne 2 1 (by omega))]
    exact World.cell?_setCell_same _ _ _ (by rw [World.cell?_setCell_other _ _ _ _ (ne 0 1 (by omega))]; exact h1)
  · rw [World.cell?_setCell_other _ _ _ _ (ne 3 2 (by omega))]
    exact World.cell?_setCell_same _ _ _ (by rw [World.cell?_setCell_other _ _ _ _ (ne 1 2 (by omega)), World.cell?_setCell_other _ _ _ _ (ne 0 2 (by omega))]; exact h2)
  · exact World.cell?_setCell_same _ _ _ (by rw [World.cell?_setCell_other _ _ _ _ (ne 2 3 (by omega)), World.cell?_setCell_other _ _ _ _ (ne 1 3 (by omega)), World.cell?_setCell_other _ _ _ _ (ne 0 3 (by omega))]; exact h3)
theorem spec_readrec_no (s : ByteArray) (w : World) (hs : s.size ≠ 64) (_hm : s.size ≤ 1048576) :
    Calls Tryd.prog 25 #[.string s] w fun x w' => x = .returned (.tuple #[.agg #[.int .i64 0, .int .i64 0, .int .i64 0, .string ⟨#[]⟩], .bool false]) ∧ Below w.heap.size w w' := by
  have h2 : ((s.size : Int) != 64) = true := by simp; omega
  go_enter Tryd.func25, Tryd.ntmps25
  go_wp2
  refine bodyPost_ret (v := .tuple #[.agg #[.int .i64 0, .int .i64 0, .int .i64 0, .string ⟨#[]⟩], .bool false]) (by simp [results, Tryd.results25, go_sem]) rfl ⟨rfl, by go_grown⟩
set_option maxHeartbeats 1000000 in
theorem spec_readrec (s : ByteArray) (w : World) (hs : s.size = 64) :
    Calls Tryd.prog 25 #[.string s] w fun x w' => x = .returned (.tuple #[recVal (recB s) s, .bool (recB s)]) ∧ Below w.heap.size w w' := by
  have h2 : ((s.size : Int) != 64) = false := by simp; omega
  have h1 : 1 < s.size := by omega
  have g12 : (12 : Int) ≤ (s.size : Int) := by omega
  have g4 : (4 : Int) ≤ (s.size : Int) := by omega
  have g44 : (44 : Int) ≤ (s.size : Int) := by omega
  have hz2 : (s.extract 2 4).size = 2 := by simp; omega
  have hz8 : (s.extract 4 12).size = 8 := by simp; omega
  have hzo : (s.extract 12 44).size = 32 := by simp; omega
  have HQ : Hid (wrap64 (s[1].toNat : Int) = recSq s) := by
    show _ = recSq s
    unfold recSq
    rw [dif_pos h1]
    have := s[1].toNat_lt
    unfold wrap64
    omega
  have HW2 : Hid (∀ w, Calls _ _ _ w _) := fun w => spec_two (s.extract 2 4) w hz2
  have HW8 : Hid (∀ w, Calls _ _ _ w _) := fun w => spec_eight (s.extract 4 12) w hz8
  change Hid (∀ w, Calls Tryd.prog 55 #[.string (s.extract 2 4)] w fun e w' => e = .returned (.tuple #[.int .i64 (recHf s), .bool true]) ∧ ∃ n, w' = w.drewN n) at HW2
  change Hid (∀ w, Calls Tryd.prog 69 #[.string (s.extract 4 12)] w fun e w' => e = .returned (.tuple #[.int .i64 (recEp s), .bool true]) ∧ w' = w) at HW8
  have HR : Hid (∀ w, Calls _ _ _ w _) := fun w => spec_record w (recEp s) (recSq s) (recHf s) (recOld s) (by unfold recOld; omega)
  have HO : Hid (recOld s = s.extract 12 44) := rfl
  have HB : Hid (((recStr (recEp s) (recSq s) (recHf s) (recOld s)).toList == s.toList) = recB s) := rfl
  have HV : Hid (∀ b, recVal b s = if b = true then .agg #[.int .i64 (recEp s), .int .i64 (recSq s), .int .i64 (recHf s), .string (recOld s)] else .agg #[.int .i64 0, .int .i64 0, .int .i64 0, .string ⟨#[]⟩]) := fun _ => rfl
  rw [HO.out] at HR HB HV
  generalize recEp s = ep at HW8 HR HB HV
  generalize recHf s = hf at HW2 HR HB HV
  rw [← HQ.out] at HR HB HV
  clear HQ HO
  generalize recStr ep _ hf (s.extract 12 44) = t at HR HB
  have e1 : (t.toList == s.toList) = recB s := HB.out
  clear HB
  cases hb : recB s with
  | true =>
    rw [hb] at e1
    have hv := HV.out true
    rw [if_pos rfl] at hv
    have HV2 : Hid (recVal true s = _) := hv
    clear hv HV hb
    go_enter Tryd.func25, Tryd.ntmps25
    go_wp2
    go_region
    all_goals
    go_wp2_with fail
    refine (HW2.out _).mono ?_
    rintro x w1 ⟨rfl, n, rfl⟩
    go_wp2_with fail
    refine (HW8.out _).mono ?_
    rintro x w1 ⟨rfl, rfl⟩
    go_wp2_with fail
    obtain ⟨U, hU⟩ : ∃ U, U = recWorld w (1 + n) (wrap64 (s[1].toNat : Int)) hf ep (s.extract 12 44) := ⟨_, rfl⟩
    have HU : Hid (U = ((((w.alloc (.cells #[.int .i64 0, .int .i64 0, .int .i64 0, .string ⟨#[]⟩] 35)).alloc (.cells #[.int .i64 0, .int .i64 (wrap64 (s[1].toNat : Int)), .int .i64 0, .string (s.extract 12 44)] 35)).drewN (1 + n)).setCell ⟨w.heap.size + 1, 2, none⟩ (.int .i64 hf)).setCell ⟨w.heap.size + 1, 0, none⟩ (.int .i64 ep)) := hU
    have hcs := recWorld_cells w (1 + n) (wrap64 (s[1].toNat : Int)) hf ep (s.extract 12 44)
    have hbu := recWorld_below w (1 + n) (wrap64 (s[1].toNat : Int)) hf ep (s.extract 12 44)
    rw [← hU] at hcs hbu
    rw [← HU.out]
    clear HU hU
    refine (HR.out _).mono ?_
    rintro x w2 ⟨rfl, hb2⟩
    obtain ⟨u0, u1, u2, u3, v0, v1, v2, v3, fz, hsz⟩ := hcs
    rw [← hb2.cell (by simp only [hsz]; omega)] at u0 u1 u2 u3 v0 v1 v2 v3
    have z0 := fz 0
    have z1 := fz 1
    have z2 := fz 2
    have z3 := fz 3
    rw [← hb2.frozen (by simp only [hsz]; omega)] at z0 z1 z2 z3
    have HB2 : Hid (Below w.heap.size w w2) := hbu.trans (hb2.mono hbu.size)
    clear hb2 hbu fz hsz
    have HB3 : Hid (∀ x0 x1 x2 x3, Below w.heap.size w ((((w2.setCell ⟨w.heap.size, 0, none⟩ x0).setCell ⟨w.heap.size, 1, none⟩ x1).setCell ⟨w.heap.size, 2, none⟩ x2).setCell ⟨w.heap.size, 3, none⟩ x3)) := fun x0 x1 x2 x3 => (((HB2.out.setCell (p := ⟨w.heap.size, 0, none⟩) (Nat.le_refl _) x0).setCell (p := ⟨w.heap.size, 1, none⟩) (Nat.le_refl _) x1).setCell (p := ⟨w.heap.size, 2, none⟩) (Nat.le_refl _) x2).setCell (p := ⟨w.heap.size, 3, none⟩) (Nat.le_refl _) x3
    have HC4 : Hid (∀ x0 x1 x2 x3, _) := four_set v0 v1 v2 v3
    go_wp2
    refine bodyPost_ret (v := .tuple #[.agg #[.int .i64 ep, .int .i64 (wrap64 (s[1].toNat : Int)), .int .i64 hf, .string (s.extract 12 44)], .bool true]) ?_ rfl ⟨by rw [HV2.out], HB3.out _ _ _ _⟩
    obtain ⟨q0, q1, q2, q3⟩ := HC4.out (.int .i64 ep) (.int .i64 (wrap64 (s[1].toNat : Int))) (.int .i64 hf) (.string (s.extract 12 44))
    simp [results, Tryd.results25, go_sem, q0, q1, q2, q3]
  | false =>
    rw [hb] at e1
    have hv := HV.out false
    rw [if_neg (by decide)] at hv
    have HV2 : Hid (recVal false s = _) := hv
    clear hv HV hb
    go_enter Tryd.func25, Tryd.ntmps25
    go_wp2
    go_region
    all_goals
    go_wp2_with fail
    refine (HW2.out _).mono ?_
    rintro x w1 ⟨rfl, n, rfl⟩
    go_wp2_with fail
    refine (HW8.out _).mono ?_
    rintro x w1 ⟨rfl, rfl⟩
    go_wp2_with fail
    obtain ⟨U, hU⟩ : ∃ U, U = recWorld w (1 + n) (wrap64 (s[1].toNat : Int)) hf ep (s.extract 12 44) := ⟨_, rfl⟩
    have HU : Hid (U = ((((w.alloc (.cells #[.int .i64 0, .int .i64 0, .int .i64 0, .string ⟨#[]⟩] 35)).alloc (.cells #[.int .i64 0, .int .i64 (wrap64 (s[1].toNat : Int)), .int .i64 0, .string (s.extract 12 44)] 35)).drewN (1 + n)).setCell ⟨w.heap.size + 1, 2, none⟩ (.int .i64 hf)).setCell ⟨w.heap.size + 1, 0, none⟩ (.int .i64 ep)) := hU
    have hcs := recWorld_cells w (1 + n) (wrap64 (s[1].toNat : Int)) hf ep (s.extract 12 44)
    have hbu := recWorld_below w (1 + n) (wrap64 (s[1].toNat : Int)) hf ep (s.extract 12 44)
    rw [← hU] at hcs hbu
    rw [← HU.out]
    clear HU hU
    refine (HR.out _).mono ?_
    rintro x w2 ⟨rfl, hb2⟩
    obtain ⟨u0, u1, u2, u3, v0, v1, v2, v3, fz, hsz⟩ := hcs
    rw [← hb2.cell (by simp only [hsz]; omega)] at u0 u1 u2 u3 v0 v1 v2 v3
    have z0 := fz 0
    have z1 := fz 1
    have z2 := fz 2
    have z3 := fz 3
    rw [← hb2.frozen (by simp only [hsz]; omega)] at z0 z1 z2 z3
    have HB2 : Hid (Below w.heap.size w w2) := hbu.trans (hb2.mono hbu.size)
    clear hb2 hbu fz hsz
    have HB3 : Hid (∀ x0 x1 x2 x3, Below w.heap.size w ((((w2.setCell ⟨w.heap.size, 0, none⟩ x0).setCell ⟨w.heap.size, 1, none⟩ x1).setCell ⟨w.heap.size, 2, none⟩ x2).setCell ⟨w.heap.size, 3, none⟩ x3)) := fun x0 x1 x2 x3 => (((HB2.out.setCell (p := ⟨w.heap.size, 0, none⟩) (Nat.le_refl _) x0).setCell (p := ⟨w.heap.size, 1, none⟩) (Nat.le_refl _) x1).setCell (p := ⟨w.heap.size, 2, none⟩) (Nat.le_refl _) x2).setCell (p := ⟨w.heap.size, 3, none⟩) (Nat.le_refl _) x3
    have HC4 : Hid (∀ x0 x1 x2 x3, _) := four_set v0 v1 v2 v3
    go_wp2
    refine bodyPost_ret (v := .tuple #[.agg #[.int .i64 0, .int .i64 0, .int .i64 0, .string ⟨#[]⟩], .bool false]) ?_ rfl ⟨by rw [HV2.out], HB3.out _ _ _ _⟩
    obtain ⟨q0, q1, q2, q3⟩ := HC4.out (.int .i64 0) (.int .i64 0) (.int .i64 0) (.string ⟨#[]⟩)
    simp [results, Tryd.results25, go_sem, q0, q1, q2, q3]
end Go.Proofs.YthigmppalpkadaaDoor.crc
