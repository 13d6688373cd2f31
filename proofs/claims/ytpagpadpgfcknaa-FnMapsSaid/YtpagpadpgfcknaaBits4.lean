/-
  The specification's maps: whether a text is one, whether a line is taken, whether lines are free, and lines turned; nothing that was there is written.
-/
import Derived.Test.YtpagpadpgfcknaaBits3
import Derived.Test.YtpagpadpgfcknaaBitMath
import Derived.Test.YtpagpadpgfcknaaBb
import Derived.Deep.OwnRows
namespace Go.Proofs.Ytpagpadpgfcknaa.lb
open Go.RowKit

def nulls (n : Nat) : ByteArray := ⟨(List.replicate n (0 : UInt8)).toArray⟩
theorem made_nulls (n : Nat) : madeCells #[Value.int .u8 0] n = (lst (List.replicate n 0)).toArray := by
  apply Array.ext
  · simp [madeCells, lst]
  · intro i h1 h2
    simp [madeCells, lst, Nat.mod_one]
theorem infoU8 : (Try.prog.info? 5).map (fun i => (i.zero, i.size, i.bytes)) = some (some (.int .u8 0), 1, 1) := by kernel_rfl
theorem make_nulls (n : Nat) (h : n ≤ 1048576) (w : World) : (Instr.makeSlice 22 (.int .i64 (n : Int)) (.int .i64 (n : Int))).run Try.prog w = .ok (.slice (some ⟨w.heap.size, 0, none⟩) n n) (w.alloc (.cells (lst (List.replicate n 0)).toArray 5)) := by
  rw [← made_nulls]
  exact run_make_row' 22 5 (.int .u8 0) 1 Try.underlying22 infoU8 rfl .i64 .i64 n (by omega) (by omega) w
theorem conv_list (w : World) (g cap : Nat) (l : List UInt8) (T : TypeId) (h : w.heap[g]? = some (.cells (lst l).toArray T)) :
    (convert 22 9 (.slice (some ⟨g, 0, none⟩) l.length cap)).run Try.prog w = .ok (.string ⟨l.toArray⟩) w :=
  run_convert_bytes_back w 22 9 5 ⟨g, 0, none⟩ cap l Try.underlying22 Try.underlying5 Try.underlying9 (fun j hj => by
    have e : (⟨g, 0, none⟩ : Addr).add j = ⟨g, j, none⟩ := by unfold Addr.add; split <;> simp_all
    rw [e, cell_of_row w g j _ _ _ h]
    simp [lst, hj])
theorem nulls_any (n : Nat) (h : n ≤ 1048576) (w : World) :
    Calls Try.prog 36 #[.int .i64 (n : Int)] w fun e w' => e = .returned (.string (nulls n)) ∧ Below w.heap.size w w' := by
  have hmk := make_nulls n h
  have hcv : ∀ w : World, (convert 22 9 (.slice (some ⟨w.heap.size, 0, none⟩) n n)).run Try.prog (w.alloc (.cells (lst (List.replicate n 0)).toArray 5)) = .ok (.string (nulls n)) (w.alloc (.cells (lst (List.replicate n 0)).toArray 5)) := fun w => by
    have := conv_list (w.alloc (.cells (lst (List.replicate n 0)).toArray 5)) w.heap.size n (List.replicate n 0) 5 (heap_alloc_last w _)
    rw [List.length_replicate] at this
    exact this
  generalize (lst (List.replicate n 0)).toArray = mc at hmk hcv
  generalize nulls n = z at hcv ⊢
  go_enter Try.func36, Try.ntmps36
  go_wp2
  go_ret
  exact ⟨rfl, by go_grown⟩
theorem tail_eq (m : ByteArray) (hm : m.size = 64) : ((m.extract 16 64).toList == (nulls 48).toList) = mapOk m := by
  rw [mapOk, hm, Bool.eq_iff_iff]
  have e1 : ∀ b : ByteArray, b.toList = b.data.toList := ByteArray.toList_eq
  have e2 : (m.extract 16 64).data.toList = m.data.toList.drop 16 := by
    rw [ByteArray.data_extract, Array.toList_extract, List.extract_eq_take_drop, List.take_of_length_le (by simp; omega)]
  rw [e1, e1, e2]
  simp [nulls]
theorem l6Map_any (m : ByteArray) (w : World) :
    Calls Try.prog 29 #[.string m] w fun e w' => e = .returned (.bool (mapOk m)) ∧ Below w.heap.size w w' := by
  by_cases hm : m.size = 64
  · have h1 : ((m.size : Int) != 64) = false := by simp; omega
    have ht := tail_eq m hm
    have HN : Hid (∀ w, _) := fun w => nulls_any 48 (by omega) w
    generalize nulls 48 = z at ht HN
    have h2 : (16 : Int) ≤ (m.size : Int) := by omega
    go_enter Try.func29, Try.ntmps29
    go_wp2
    go_region_with (go_at_call 36; refine (HN.out _).mono ?_; rintro e w1 ⟨rfl, hb⟩)
    all_goals go_wp2
    all_goals go_ret
    all_goals exact ⟨by rw [← ht]; rfl, ⟨hb.os, hb.tape, hb.output, hb.size, hb.block⟩⟩
  · have h1 : ((m.size : Int) != 64) = true := by simp; omega
    have hno : mapOk m = false := by rw [mapOk, decide_eq_false hm]; rfl
    rw [hno]
    go_enter Try.func29, Try.ntmps29
    go_wp2
    go_ret
    exact ⟨rfl, Below.refl _ _⟩
theorem l6Bit_any (m : ByteArray) (hm : m.size = 64) (n : Nat) (hn : n < 128) (w : World) :
    Calls Try.prog 30 #[.string m, .int .i64 (n : Int)] w fun e w' => e = .returned (.bool (bitAt m.data.toList n)) ∧ w = w' := by
  have hq : (n : Int) / 8 < (m.size : Int) := by omega
  have hq0 : (0 : Int) ≤ (n : Int) / 8 := by omega
  have hm0 : (0 : Int) ≤ (n : Int) % 8 := by omega
  have hm1 : (n : Int) % 8 < 8 := by omega
  have hix : n / 8 < m.size := by omega
  have hgd : m.data.toList.getD (n / 8) 0 = m[n / 8] := by
    rw [← getD_at _ _ (by simpa using hix)]; rfl
  have HB : Hid (bitAt m.data.toList n = (bits BinOp.and IntKind.u8 ((m[n / 8].toNat : Int) / 2 ^ (n % 8)) 1 == 1)) := by
    show bitAt m.data.toList n = _
    rw [bit_walk, bitAt, hgd]
  clear hgd
  go_enter Try.func30, Try.ntmps30
  go_wp2
  go_ret
  exact ⟨by rw [HB.out]; rfl, rfl⟩
theorem xor_walk (x : UInt8) (n : Nat) : bits BinOp.xor IntKind.u8 (x.toNat : Int) (2 ^ (n % 8) % 256) = ((x ^^^ bitOf n).toNat : Int) := by
  have e : ((2 : Int) ^ (n % 8) % 256) = ((bitOf n).toNat : Int) := by
    rw [bitOf_nat]
    have : ((2 : Int) ^ (n % 8)) = ((2 ^ (n % 8) : Nat) : Int) := by simp
    rw [this]
    have h2 : 2 ^ (n % 8) < 2 ^ 8 := Nat.pow_lt_pow_right (by omega) (by omega)
    have h3 : 2 ^ (n % 8) % 256 = 2 ^ (n % 8) := Nat.mod_eq_of_lt h2
    rw [← h3]
    simp
  rw [e, u8_xor_nat _ _ x.toNat_lt (bitOf n).toNat_lt, UInt8.toNat_xor]
end Go.Proofs.Ytpagpadpgfcknaa.lb
