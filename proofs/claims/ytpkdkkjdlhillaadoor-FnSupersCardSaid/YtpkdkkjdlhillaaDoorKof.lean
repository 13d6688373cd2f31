/-
  The kinds of a type's fields out of their bits, by the program; nothing that was there is written.
-/
import Derived.Test.YtpkdkkjdlhillaaDoorSuper
import Derived.Test.YtpkdkkjdlhillaaDoorBb
import Derived.Test.YtpkdkkjdlhillaaDoorZeros
namespace Go.Proofs.YtpkdkkjdlhillaaDoor.crc
open Go.RowKit
open wmath wb num kinds

def kindB (m k : Nat) : UInt8 := if m / 2 ^ k % 2 = 1 then 114 else 105
def kindsL (n m : Nat) : List UInt8 := (List.range n).map (kindB m)
def kindsS (n m : Nat) : ByteArray := ⟨(kindsL n m).toArray⟩
theorem kindsL_length (n m : Nat) : (kindsL n m).length = n := by simp [kindsL]
theorem kindsS_size (n m : Nat) : (kindsS n m).size = n := by unfold kindsS; simp [ByteArray.size, kindsL_length]
theorem kindsL_succ (n m : Nat) : kindsL (n + 1) m = kindsL n m ++ [kindB m n] := by simp [kindsL, List.range_succ]
theorem and_one_u64 (m k : Nat) (h : m < 16777216) : bits BinOp.and IntKind.u64 ((m : Int) / 2 ^ k) 1 = ((m / 2 ^ k % 2 : Nat) : Int) := by
  have e : ((m : Int) / 2 ^ k) = ((m / 2 ^ k : Nat) : Int) := by rw [Int.natCast_ediv, Int.natCast_pow]; rfl
  have hx : m / 2 ^ k < 16777216 := Nat.lt_of_le_of_lt (Nat.div_le_self _ _) h
  rw [e]
  generalize m / 2 ^ k = x at hx
  have h1 : (BitVec.ofInt 64 (x : Int)).toNat = x := by
    rw [BitVec.ofInt_natCast, BitVec.toNat_ofNat]; exact Nat.mod_eq_of_lt (by omega)
  show IntKind.u64.wrap ((BitVec.ofInt 64 (x : Int) &&& BitVec.ofInt 64 1).toNat : Int) = _
  rw [BitVec.toNat_and, h1, show (BitVec.ofInt 64 1).toNat = 1 from rfl, Nat.and_one_is_mod, IntKind.wrap_u64]
  omega
theorem and_one_i64 (m k : Nat) (h : m < 16777216) : bits BinOp.and IntKind.i64 ((m : Int) / 2 ^ k) 1 = ((m / 2 ^ k % 2 : Nat) : Int) := by
  have e : ((m : Int) / 2 ^ k) = ((m / 2 ^ k : Nat) : Int) := by rw [Int.natCast_ediv, Int.natCast_pow]; rfl
  have hx : m / 2 ^ k < 16777216 := Nat.lt_of_le_of_lt (Nat.div_le_self _ _) h
  rw [e]
  generalize m / 2 ^ k = x at hx
  have h1 : (BitVec.ofInt 64 (x : Int)).toNat = x := by
    rw [BitVec.ofInt_natCast, BitVec.toNat_ofNat]; exact Nat.mod_eq_of_lt (by omega)
  show IntKind.i64.wrap ((BitVec.ofInt 64 (x : Int) &&& BitVec.ofInt 64 1).toNat : Int) = _
  rw [BitVec.toNat_and, h1, show (BitVec.ofInt 64 1).toNat = 1 from rfl, Nat.and_one_is_mod, IntKind.wrap_i64]
  omega
theorem shift_min (m k : Nat) (h : m < 16777216) : m / 2 ^ min k 64 = m / 2 ^ k := by
  by_cases hk : k ≤ 64
  · rw [Nat.min_eq_left hk]
  · rw [Nat.min_eq_right (by omega)]
    have h1 : 2 ^ 64 ≤ 2 ^ k := Nat.pow_le_pow_right (by decide) (by omega)
    rw [Nat.div_eq_of_lt (by omega), Nat.div_eq_of_lt (by omega)]
theorem made_bytes (n : Nat) (w : World) (T : TypeId) : bb.Bytes (w.alloc (.cells (madeCells #[Value.int .u8 0] n) T)) w.heap.size (List.replicate n 0) := by
  intro j hj
  have hj' : j < n := by simpa using hj
  refine ⟨?_, World.frozen?_alloc_new _ _ _ _⟩
  rw [World.cell?_alloc_new, zeros.made_zero]
  simp [hj']
theorem set_kind (k n : Nat) (m : Nat) (h : k < n) (b : UInt8) : (kindsL k m ++ List.replicate (n - k) 0).set k b = kindsL k m ++ (b :: List.replicate (n - (k + 1)) 0) := by
  rw [List.set_append_right _ _ (by rw [kindsL_length]; exact Nat.le_refl _), kindsL_length, Nat.sub_self, show n - k = (n - (k + 1)) + 1 by omega, List.replicate_succ, List.set_cons_zero]
theorem set_kind2 (k n : Nat) (m : Nat) (b c : UInt8) : (kindsL k m ++ (b :: List.replicate (n - (k + 1)) 0)).set k c = kindsL k m ++ (c :: List.replicate (n - (k + 1)) 0) := by
  rw [List.set_append_right _ _ (by rw [kindsL_length]; exact Nat.le_refl _), kindsL_length, Nat.sub_self, List.set_cons_zero]
set_option maxHeartbeats 2000000 in
theorem kindsOf_any (n m : Nat) (hn : n ≤ 255) (hm : m < 16777216) (w : World) :
    Calls Tryd.prog 39 #[.int .i64 (n : Int), .int .u64 (m : Int)] w fun e w' => e = .returned (.string (kindsS n m)) ∧ Below w.heap.size w w' := by
  have hmk := zeros.make_zero n (by omega) w
  have HB0 : Hid (Below w.heap.size w (w.alloc (.cells (madeCells #[Value.int .u8 0] n) 5))) := (Below.refl _ _).alloc (Nat.le_refl _) _
  have HR0 : Hid (bb.Bytes (w.alloc (.cells (madeCells #[Value.int .u8 0] n) 5)) w.heap.size (kindsL 0 m ++ List.replicate (n - 0) 0)) := made_bytes n w _
  generalize w.alloc (.cells (madeCells #[Value.int .u8 0] n) 5) = w1 at hmk HB0 HR0
  go_enter Tryd.func39, Tryd.ntmps39
  go_wp2
  clear hmk
  go_loopw [11] (fun i wr => ∃ k : Nat, k ≤ n ∧ i = .int .i64 (k : Int) ∧ bb.Bytes wr w.heap.size (kindsL k m ++ List.replicate (n - k) 0) ∧ Below w.heap.size w wr) (fun i _ => n - (intOf i).toNat)
  case atStart => exact ⟨0, Nat.zero_le _, rfl, HR0.out, HB0.out⟩
  case round =>
    obtain ⟨k, hk, rfl, hrow, hb⟩ := hrel
    have HR : Hid (bb.Bytes wr w.heap.size (kindsL k m ++ List.replicate (n - k) 0)) := hrow
    have HB : Hid (Below w.heap.size w wr) := hb
    clear hrow hb
    by_cases hlt : k < n
    · have hlti : (k : Int) < (n : Int) := by omega
      have hk0 : (0 : Int) ≤ (k : Int) := by omega
      have hlen : k < (kindsL k m ++ List.replicate (n - k) 0).length := by rw [List.length_append, kindsL_length, List.length_replicate]; omega
      have c0 := (HR.out k hlen).1
      have f0 := (HR.out k hlen).2
      generalize (kindsL k m ++ List.replicate (n - k) 0)[k] = x0 at c0
      have HR1 : Hid (bb.Bytes (wr.setCell ⟨w.heap.size, k, none⟩ (.int .u8 105)) w.heap.size (kindsL k m ++ (105 :: List.replicate (n - (k + 1)) 0))) := by
        have := HR.out.set k hlen 105 _ rfl
        rw [set_kind k n m hlt] at this
        exact this
      have HR2 : Hid (bb.Bytes ((wr.setCell ⟨w.heap.size, k, none⟩ (.int .u8 105)).setCell ⟨w.heap.size, k, none⟩ (.int .u8 114)) w.heap.size (kindsL k m ++ (114 :: List.replicate (n - (k + 1)) 0))) := by
        have := HR1.out.set k (by rw [List.length_append, kindsL_length]; simp) 114 _ rfl
        rw [set_kind2 k n m] at this
        exact this
      have HB1 : Hid (Below w.heap.size w (wr.setCell ⟨w.heap.size, k, none⟩ (.int .u8 105))) := HB.out.setCell (p := ⟨w.heap.size, k, none⟩) (Nat.le_refl _) _
      have HB2 : Hid (Below w.heap.size w ((wr.setCell ⟨w.heap.size, k, none⟩ (.int .u8 105)).setCell ⟨w.heap.size, k, none⟩ (.int .u8 114))) := HB1.out.setCell (p := ⟨w.heap.size, k, none⟩) (Nat.le_refl _) _
      have HA : Hid (bits BinOp.and IntKind.u64 ((m : Int) / 2 ^ min k 64) 1 = ((m / 2 ^ k % 2 : Nat) : Int)) := by
        have := and_one_u64 m (min k 64) hm
        rw [shift_min m k hm] at this
        exact this
      by_cases hbit : m / 2 ^ k % 2 = 1
      · have HKS : Hid (kindsL (k + 1) m = kindsL k m ++ [114]) := by
          show kindsL (k + 1) m = _
          rw [kindsL_succ, kindB, if_pos hbit]
        have he : (bits BinOp.and IntKind.u64 ((m : Int) / 2 ^ min k 64) 1 == 1) = true := by rw [HA.out, hbit]; rfl
        clear hbit
        go_wp2
        go_roundw
        case rel => exact ⟨k + 1, by omega, by go_num, by rw [HKS.out, List.append_assoc]; exact HR2.out, HB2.out⟩
        case measure => simp [intOf]; omega
      · have HKS : Hid (kindsL (k + 1) m = kindsL k m ++ [105]) := by
          show kindsL (k + 1) m = _
          rw [kindsL_succ, kindB, if_neg hbit]
        have he : (bits BinOp.and IntKind.u64 ((m : Int) / 2 ^ min k 64) 1 == 1) = false := by
          rw [HA.out, show m / 2 ^ k % 2 = 0 by omega]; rfl
        clear hbit
        go_wp2
        go_roundw
        case rel => exact ⟨k + 1, by omega, by go_num, by rw [HKS.out, List.append_assoc]; exact HR1.out, HB1.out⟩
        case measure => simp [intOf]; omega
    · obtain rfl : k = n := by omega
      rw [Nat.sub_self, List.replicate_zero, List.append_nil] at HR
      have hcv := HR.out.text k
      rw [kindsL_length] at hcv
      have HST : Hid (kindsS k m = ⟨(kindsL k m).toArray⟩) := rfl
      generalize ByteArray.mk (kindsL k m).toArray = st at hcv HST
      go_wp2
      go_ret
      exact ⟨by rw [HST.out]; rfl, HB.out⟩
end Go.Proofs.YtpkdkkjdlhillaaDoor.crc
