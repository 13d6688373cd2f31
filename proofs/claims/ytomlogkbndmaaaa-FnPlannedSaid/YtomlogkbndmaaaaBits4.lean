/-
  The specification's maps: whether a text is one, whether a line is taken, whether lines are free, and lines turned; nothing that was there is written.
-/
import Derived.Test.YtomlogkbndmaaaaBits3
import Derived.Test.YtomlogkbndmaaaaBitMath
import Derived.Test.YtomlogkbndmaaaaBb
import Derived.Deep.OwnRows
namespace Go.Proofs.Ytomlogkbndmaaaa.lb
open Go.RowKit

def nulls (n : Nat) : ByteArray := ⟨(List.replicate n (0 : UInt8)).toArray⟩
set_option maxRecDepth 20000 in
theorem made_nulls (n : Nat) : madeCells #[Value.int .u8 0] n = (lst (List.replicate n 0)).toArray := by
  apply Array.ext
  · simp [madeCells, lst]
  · intro i h1 h2
    simp [madeCells, lst, Nat.mod_one]
set_option maxRecDepth 20000 in
theorem infoU8 : (Try.prog.info? 5).map (fun i => (i.zero, i.size, i.bytes)) = some (some (.int .u8 0), 1, 1) := by kernel_rfl
set_option maxRecDepth 20000 in
theorem make_nulls (n : Nat) (h : n ≤ 1048576) (w : World) : (Instr.makeSlice 22 (.int .i64 (n : Int)) (.int .i64 (n : Int))).run Try.prog w = .ok (.slice (some ⟨w.heap.size, 0, none⟩) n n) (w.alloc (.cells (lst (List.replicate n 0)).toArray 5)) := by
  rw [← made_nulls]
  exact run_make_row' 22 5 (.int .u8 0) 1 Try.underlying22 infoU8 rfl .i64 .i64 n (by omega) (by omega) w
set_option maxRecDepth 20000 in
theorem conv_list (w : World) (g cap : Nat) (l : List UInt8) (T : TypeId) (h : w.heap[g]? = some (.cells (lst l).toArray T)) :
    (convert 22 9 (.slice (some ⟨g, 0, none⟩) l.length cap)).run Try.prog w = .ok (.string ⟨l.toArray⟩) w :=
  run_convert_bytes_back w 22 9 5 ⟨g, 0, none⟩ cap l Try.underlying22 Try.underlying5 Try.underlying9 (fun j hj => by
    have e : (⟨g, 0, none⟩ : Addr).add j = ⟨g, j, none⟩ := by unfold Addr.add; split <;> simp_all
    rw [e, cell_of_row w g j _ _ _ h]
    simp [lst, hj])
set_option maxRecDepth 20000 in
theorem nulls_any (n : Nat) (h : n ≤ 1048576) (w : World) :
    Calls Try.prog 34 #[.int .i64 (n : Int)] w fun e w' => e = .returned (.string (nulls n)) ∧ Below w.heap.size w w' := by
  have hmk := make_nulls n h
  have hcv : ∀ w : World, (convert 22 9 (.slice (some ⟨w.heap.size, 0, none⟩) n n)).run Try.prog (w.alloc (.cells (lst (List.replicate n 0)).toArray 5)) = .ok (.string (nulls n)) (w.alloc (.cells (lst (List.replicate n 0)).toArray 5)) := fun w => by
    have := conv_list (w.alloc (.cells (lst (List.replicate n 0)).toArray 5)) w.heap.size n (List.replicate n 0) 5 (heap_alloc_last w _)
    rw [List.length_replicate] at this
    exact this
  generalize (lst (List.replicate n 0)).toArray = mc at hmk hcv
  generalize nulls n = z at hcv ⊢
  go_enter Try.func34, Try.ntmps34
  go_wp2
  go_ret
  exact ⟨rfl, by go_grown⟩
set_option maxRecDepth 20000 in
theorem tail_eq (m : ByteArray) (hm : m.size = 64) : ((m.extract 16 64).toList == (nulls 48).toList) = mapOk m := by
  rw [mapOk, hm, Bool.eq_iff_iff]
  have e1 : ∀ b : ByteArray, b.toList = b.data.toList := ByteArray.toList_eq
  have e2 : (m.extract 16 64).data.toList = m.data.toList.drop 16 := by
    rw [ByteArray.data_extract, Array.toList_extract, List.extract_eq_take_drop, List.take_of_length_le (by simp; omega)]
  rw [e1, e1, e2]
  simp [nulls]
set_option maxRecDepth 20000 in
theorem l6Map_any (m : ByteArray) (w : World) :
    Calls Try.prog 42 #[.string m] w fun e w' => e = .returned (.bool (mapOk m)) ∧ Below w.heap.size w w' := by
  by_cases hm : m.size = 64
  · have h1 : ((m.size : Int) != 64) = false := by simp; omega
    have ht := tail_eq m hm
    have HN : Hid (∀ w, _) := fun w => nulls_any 48 (by omega) w
    generalize nulls 48 = z at ht HN
    have h2 : (16 : Int) ≤ (m.size : Int) := by omega
    go_enter Try.func42, Try.ntmps42
    go_wp2
    go_region_with (go_at_call 34; refine (HN.out _).mono ?_; rintro e w1 ⟨rfl, hb⟩)
    all_goals go_wp2
    all_goals go_ret
    all_goals exact ⟨by rw [← ht]; rfl, ⟨hb.os, hb.tape, hb.output, hb.size, hb.block⟩⟩
  · have h1 : ((m.size : Int) != 64) = true := by simp; omega
    have hno : mapOk m = false := by rw [mapOk, decide_eq_false hm]; rfl
    rw [hno]
    go_enter Try.func42, Try.ntmps42
    go_wp2
    go_ret
    exact ⟨rfl, Below.refl _ _⟩
set_option maxRecDepth 20000 in
theorem l6Bit_any (m : ByteArray) (hm : m.size = 64) (n : Nat) (hn : n < 128) (w : World) :
    Calls Try.prog 101 #[.string m, .int .i64 (n : Int)] w fun e w' => e = .returned (.bool (bitAt m.data.toList n)) ∧ w = w' := by
  have hq : (n : Int) / 8 < (m.size : Int) := by omega
  have hq0 : (0 : Int) ≤ (n : Int) / 8 := by omega
  have hm0 : (0 : Int) ≤ (n : Int) % 8 := by omega
  have hm1 : (n : Int) % 8 < 8 := by omega
  have hix : n / 8 < m.size := by omega
  have hgd : m.data.toList.getD (n / 8) 0 = m[n / 8] := by
    rw [← getD_at _ _ (by simpa using hix)]; rfl
  have HB : Hid (bitAt m.data.toList n = (bits BinOp.and IntKind.u8 ((m[n / 8].toNat : Int) / 2 ^ (n % 8)) 1 == 1)) := by
    show bitAt m.data.toList n = _
    rw [bit_walk, bitAt, hgd]
  clear hgd
  go_enter Try.func101, Try.ntmps101
  go_wp2
  go_ret
  exact ⟨by rw [HB.out]; rfl, rfl⟩
set_option maxRecDepth 20000 in
theorem freeK_le (l : List UInt8) (a k n : Nat) (h : k ≤ n) (hf : freeK l a k = false) : freeK l a n = false := by
  cases e : freeK l a n with
  | false => rfl
  | true =>
    rw [freeK_iff] at e
    have : freeK l a k = true := (freeK_iff l a k).2 (fun q h1 h2 => e q h1 (by omega))
    rw [hf] at this
    exact this.symm
set_option maxRecDepth 20000 in
theorem l6Free_any (m : ByteArray) (hm : m.size = 64) (a n : Nat) (h : a + n ≤ 128) (w : World) :
    Calls Try.prog 94 #[.string m, .int .i64 (a : Int), .int .i64 (n : Int)] w fun e w' => e = .returned (.bool (freeK m.data.toList a n)) ∧ w = w' := by
  have HBIT : Hid (∀ k : Nat, k < 128 → ∀ w, Calls Try.prog 101 #[.string m, .int .i64 (k : Int)] w fun e w' => e = .returned (.bool (bitAt m.data.toList k)) ∧ w = w') := fun k hk w => l6Bit_any m hm k hk w
  generalize m.data.toList = l at *
  have hw1 : IntKind.i64.wrap ((a : Int) + n) = ((a + n : Nat) : Int) := by rw [IntKind.wrap_i64]; omega
  go_enter Try.func94, Try.ntmps94
  go_wp2
  go_loop [7] (fun i => ∃ k : Nat, k ≤ n ∧ i = .int .i64 ((a + k : Nat) : Int) ∧ freeK l a k = true) (fun i => a + n - (intOf i).toNat)
  case atStart => exact ⟨0, Nat.zero_le _, rfl, rfl⟩
  case round =>
    obtain ⟨k, hk, rfl, hf⟩ := hrel
    by_cases hlt : k < n
    · have HS : Hid (freeK l a (k + 1) = !bitAt l (a + k)) := by show freeK l a (k + 1) = _; rw [freeK, hf]; rfl
      have HLE : Hid (freeK l a (k + 1) = false → freeK l a n = false) := freeK_le l a (k + 1) n (by omega)
      obtain ⟨g, hg⟩ : ∃ g, g = a + k := ⟨_, rfl⟩
      have HG : Hid (g = a + k) := hg
      rw [← hg] at HS ⊢
      have HC : Hid (∀ w, _) := HBIT.out g (by omega)
      have e2 : (g : Int) < ((a + n : Nat) : Int) := by omega
      clear hg hf
      cases hb : bitAt l g with
      | true =>
        rw [hb] at HC HS
        have HF : Hid (freeK l a n = false) := HLE.out HS.out
        clear hb
        go_wp2_with fail
        refine (HC.out _).mono ?_
        rintro e w' ⟨rfl, rfl⟩
        go_wp2
        go_ret
        exact ⟨by rw [HF.out]; rfl, rfl⟩
      | false =>
        rw [hb] at HC HS
        clear hb
        go_wp2_with fail
        refine (HC.out _).mono ?_
        rintro e w' ⟨rfl, rfl⟩
        go_wp2
        refine ⟨⟨k + 1, by omega, by have := HG.out; go_num, by rw [HS.out]; rfl⟩, by simp [intOf]; omega⟩
    · have hk2 : k = n := by omega
      subst hk2
      have HF : Hid (freeK l a k = true) := hf
      clear hf
      have e2 : ¬ ((a + k : Nat) : Int) < ((a + k : Nat) : Int) := by omega
      go_wp2
      go_ret
      exact ⟨by rw [HF.out]; rfl, rfl⟩
set_option maxRecDepth 20000 in
theorem xor_walk (x : UInt8) (n : Nat) : bits BinOp.xor IntKind.u8 (x.toNat : Int) (2 ^ (n % 8) % 256) = ((x ^^^ bitOf n).toNat : Int) := by
  have e : ((2 : Int) ^ (n % 8) % 256) = ((bitOf n).toNat : Int) := by
    rw [bitOf_nat]
    have : ((2 : Int) ^ (n % 8)) = ((2 ^ (n % 8) : Nat) : Int) := by simp
    rw [this]
    have h2 : 2 ^ (n % 8) < 2 ^ 8 := Nat.pow_lt_pow_right (by omega) (by omega)
    have h3 : 2 ^ (n % 8) % 256 = 2 ^ (n % 8) := Nat.mod_eq_of_lt h2
    rw [← h3]
    simp
  rw [e, u8_xor_nat _ _ x.toNat_lt (bitOf n).toNat_lt, UInt8.toNat_xor]
open bb in
set_option maxRecDepth 20000 in
set_option maxHeartbeats 2000000 in
theorem l6Turn_any (m : ByteArray) (hm : m.size = 64) (a n : Nat) (h : a + n ≤ 128) (w : World) :
    Calls Try.prog 77 #[.string m, .int .i64 (a : Int), .int .i64 (n : Int)] w fun e w' => e = .returned (.string ⟨(turnK m.data.toList a n).toArray⟩) ∧ Below w.heap.size w w' := by
  have hw1 : IntKind.i64.wrap ((a : Int) + n) = ((a + n : Nat) : Int) := by rw [IntKind.wrap_i64]; omega
  have hrt := run_told m w
  have HTB : Hid (Bytes (told w m) w.heap.size m.data.toList) := told_bytes w m
  have HBL : Hid (Below w.heap.size w (told w m)) := told_below w m
  have hml : m.data.toList.length = 64 := by simpa using hm
  rw [hm] at hrt
  generalize told w m = w1 at HTB HBL hrt
  generalize capOf w m = cp at hrt
  generalize m.data.toList = l at *
  have HML : Hid (l.length = 64) := hml
  clear hml
  go_enter Try.func77, Try.ntmps77
  go_wp2
  clear hrt
  go_loopw [8] (fun i wr => ∃ k : Nat, k ≤ n ∧ i = .int .i64 ((a + k : Nat) : Int) ∧ Bytes wr w.heap.size (turnK l a k) ∧ Below w.heap.size w wr) (fun i _ => a + n - (intOf i).toNat)
  case atStart => exact ⟨0, Nat.zero_le _, rfl, HTB.out, HBL.out⟩
  case round =>
    obtain ⟨k, hk, rfl, hbr, hb⟩ := hrel
    have HBr : Hid (Bytes wr w.heap.size (turnK l a k)) := hbr
    have HB : Hid (Below w.heap.size w wr) := hb
    clear hbr hb
    by_cases hlt : k < n
    · obtain ⟨g, hg⟩ : ∃ g, g = a + k := ⟨_, rfl⟩
      have HG : Hid (g = a + k) := hg
      have e1 : g < 128 := by omega
      have hgi : (g : Int) < ((a + n : Nat) : Int) := by omega
      have HS : Hid (turnK l a (k + 1) = turnBit (turnK l a k) g) := by rw [hg]; rfl
      have hrl : (turnK l a k).length = 64 := by rw [turnK_length]; exact HML.out
      rw [← hg]
      have c0 := (HBr.out (g / 8) (by omega)).1
      rw [getD_at _ (g / 8) (by omega)] at c0
      have f0 := (HBr.out (g / 8) (by omega)).2
      have HO : Hid (bits BinOp.xor IntKind.u8 (((turnK l a k).getD (g / 8) 0).toNat : Int) (2 ^ (g % 8) % 256) = (((turnK l a k).getD (g / 8) 0 ^^^ bitOf g).toNat : Int)) := xor_walk _ _
      have HSB : Hid (turnBit (turnK l a k) g = (turnK l a k).set (g / 8) ((turnK l a k).getD (g / 8) 0 ^^^ bitOf g)) := rfl
      generalize (turnK l a k).getD (g / 8) 0 = x at c0 HO HSB
      generalize turnK l a k = cur at HBr HS hrl HSB
      have hq : (g : Int) / 8 < 64 := by omega
      have hq0 : (0 : Int) ≤ (g : Int) / 8 := by omega
      have hm0 : (0 : Int) ≤ (g : Int) % 8 := by omega
      have hm1 : (g : Int) % 8 < 8 := by omega
      have HRL : Hid (cur.length = 64) := hrl
      clear hrl hg
      go_wp2
      go_roundw
      case rel =>
        refine ⟨k + 1, by omega, by have := HG.out; go_num, ?_, HB.out.setCell (p := ⟨w.heap.size, g / 8, none⟩) (Nat.le_refl _) _⟩
        rw [HS.out, HSB.out]
        exact HBr.out.set (g / 8) (by have := HRL.out; omega) _ _ (by rw [HO.out])
      case measure => simp [intOf]; omega
    · have hk2 : k = n := by omega
      subst hk2
      have hcv := HBr.out.text cp
      rw [turnK_length, HML.out] at hcv
      obtain ⟨st, hst⟩ : ∃ st, st = ByteArray.mk (turnK l a k).toArray := ⟨_, rfl⟩
      rw [← hst] at hcv
      have HST : Hid (st = ByteArray.mk (turnK l a k).toArray) := hst
      clear hst
      have e2 : ¬ ((a + k : Nat) : Int) < ((a + k : Nat) : Int) := by omega
      go_wp2
      go_ret
      exact ⟨by rw [← HST.out]; rfl, HB.out⟩
end Go.Proofs.Ytomlogkbndmaaaa.lb
