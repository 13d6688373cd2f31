/-
  Maps as arrays of 64 bytes: whether a bit is set, the bits of a run, and two arrays held against each other.
-/
import Derived.Test.YtomlogkbndmaaaaBits
import Derived.ChangeKeysEq
import Derived.Laws.StructEq
import Derived.Deep.MidRow
namespace Go.Proofs.Ytomlogkbndmaaaa.lb
open Go.RowKit

def bitAt (l : List UInt8) (n : Nat) : Bool := (l.getD (n / 8) 0).toNat.testBit (n % 8)
theorem bit_walk (x : UInt8) (k : Nat) : (bits BinOp.and IntKind.u8 ((x.toNat : Int) / 2 ^ k) 1 == 1) = x.toNat.testBit k := by
  have e : (x.toNat : Int) / 2 ^ k = ((x.toNat / 2 ^ k : Nat) : Int) := by simp
  have hlt : x.toNat / 2 ^ k < 256 := Nat.lt_of_le_of_lt (Nat.div_le_self _ _) x.toNat_lt
  rw [e, show (1 : Int) = ((1 : Nat) : Int) from rfl, u8_and_nat _ 1 hlt (by omega), Nat.and_one_is_mod, Nat.testBit_eq_decide_div_mod_eq, Bool.eq_iff_iff]
  simp
  omega
theorem getD_at (l : List UInt8) (i : Nat) (h : i < l.length) : l[i] = l.getD i 0 := by
  rw [List.getD_eq_getElem?_getD, List.getElem?_eq_getElem h]; rfl
theorem has_any (l : List UInt8) (hl : l.length = 64) (n : Nat) (hn : n < 128) (w : World) :
    Calls Try.prog 91 #[.agg (cs l), .int .i64 (n : Int)] w fun e w' => e = .returned (.bool (bitAt l n)) ∧ Below w.heap.size w w' := by
  have hr : Row (w.alloc (.cells (cs l) 63)) w.heap.size l := heap_alloc_last w _
  have c0 := hr.cell (n / 8) (by omega)
  rw [getD_at l (n / 8) (by omega)] at c0
  have hq : (n : Int) / 8 < 64 := by omega
  have hq0 : (0 : Int) ≤ (n : Int) / 8 := by omega
  have hm0 : (0 : Int) ≤ (n : Int) % 8 := by omega
  have hm1 : (n : Int) % 8 < 8 := by omega
  have HB : Hid (bitAt l n = (bits BinOp.and IntKind.u8 (((l.getD (n / 8) 0).toNat : Int) / 2 ^ (n % 8)) 1 == 1)) := (bit_walk _ _).symm
  generalize l.getD (n / 8) 0 = x at c0 HB
  clear hr
  go_enter Try.func91, Try.ntmps91
  go_wp2
  go_ret
  exact ⟨by rw [HB.out]; rfl, by go_grown⟩
/-- The bits of k lines from a on. -/
def bitOf (n : Nat) : UInt8 := UInt8.ofNat (2 ^ (n % 8))
theorem bitOf_nat (n : Nat) : (bitOf n).toNat = 2 ^ (n % 8) := by
  unfold bitOf
  rw [UInt8.toNat_ofNat']
  exact Nat.mod_eq_of_lt (Nat.pow_lt_pow_right (by omega) (by omega))
theorem or_walk (x : UInt8) (n : Nat) : bits BinOp.or IntKind.u8 (x.toNat : Int) (2 ^ (n % 8) % 256) = ((x ||| bitOf n).toNat : Int) := by
  have e : ((2 : Int) ^ (n % 8) % 256) = ((bitOf n).toNat : Int) := by
    rw [bitOf_nat]
    have : ((2 : Int) ^ (n % 8)) = ((2 ^ (n % 8) : Nat) : Int) := by simp
    rw [this]
    have h2 : 2 ^ (n % 8) < 2 ^ 8 := Nat.pow_lt_pow_right (by omega) (by omega)
    have h3 : 2 ^ (n % 8) % 256 = 2 ^ (n % 8) := Nat.mod_eq_of_lt h2
    rw [← h3]
    simp
  rw [e, u8or]
def setBit (l : List UInt8) (n : Nat) : List UInt8 := l.set (n / 8) (l.getD (n / 8) 0 ||| bitOf n)
theorem setBit_length (l : List UInt8) (n : Nat) : (setBit l n).length = l.length := by simp [setBit]
def runK (a : Nat) : Nat → List UInt8
  | 0 => zeros
  | k + 1 => setBit (runK a k) (a + k)
theorem runK_length (a k : Nat) : (runK a k).length = 64 := by
  induction k with
  | zero => exact zeros_length
  | succ k ih => rw [runK, setBit_length, ih]
set_option maxHeartbeats 2000000 in
theorem run_any (a n : Nat) (h : a + n ≤ 128) (w : World) :
    Calls Try.prog 47 #[.int .i64 (a : Int), .int .i64 (n : Int)] w fun e w' => e = .returned (.agg (cs (runK a n))) ∧ Below w.heap.size w w' := by
  obtain ⟨W, hW⟩ : ∃ W, W = (w.alloc (.cells (cs zeros) 63)).alloc (.cells (cs zeros) 63) := ⟨_, rfl⟩
  have HB0 : Hid (Below w.heap.size w W) := by rw [hW]; show Below _ _ _; go_grown
  have HR0 : Hid (Row W w.heap.size zeros) := by rw [hW]; show Row _ _ _; unfold Row; rw [Below.heap_alloc _ _ _ (by simp)]; exact heap_alloc_last w _
  have HR1 : Hid (Row W (w.heap.size + 1) zeros) := by
    rw [hW]; show Row _ _ _; unfold Row; have := heap_alloc_last (w.alloc (.cells (cs zeros) 63)) (.cells (cs zeros) 63); simpa using this
  have HW : Hid (W = (w.alloc (.cells (cs zeros) 63)).alloc (.cells (cs zeros) 63)) := hW
  clear hW
  go_enter Try.func47, Try.ntmps47
  go_wp2
  rw [zero_cs, ← HW.out]
  go_loopw [6] (fun i wr => ∃ k : Nat, k ≤ n ∧ i = .int .i64 ((a + k : Nat) : Int) ∧ Row wr w.heap.size zeros ∧ Row wr (w.heap.size + 1) (runK a k) ∧ Below w.heap.size w wr) (fun i _ => a + n - (intOf i).toNat)
  case atStart => exact ⟨0, Nat.zero_le _, rfl, HR0.out, HR1.out, HB0.out⟩
  case round =>
    obtain ⟨k, hk, rfl, hr0, hr1, hb⟩ := hrel
    have H0 : Hid (Row wr w.heap.size zeros) := hr0
    have H1 : Hid (Row wr (w.heap.size + 1) (runK a k)) := hr1
    have HB : Hid (Below w.heap.size w wr) := hb
    clear hr0 hr1 hb
    have hw1 : IntKind.i64.wrap ((a : Int) + n) = ((a + n : Nat) : Int) := by rw [IntKind.wrap_i64]; omega
    by_cases hlt : k < n
    · obtain ⟨g, hg⟩ : ∃ g, g = a + k := ⟨_, rfl⟩
      have HG : Hid (g = a + k) := hg
      have e1 : g < 128 := by omega
      have e2 : g < a + n := by omega
      have hgi : (g : Int) < ((a + n : Nat) : Int) := by omega
      have HS : Hid (runK a (k + 1) = setBit (runK a k) g) := by rw [hg]; rfl
      have hrl := runK_length a k
      rw [← hg]
      have c0 := H1.out.cell (g / 8) (by omega)
      rw [getD_at _ (g / 8) (by omega)] at c0
      have f0 := H1.out.frozen (g / 8)
      have HO : Hid (bits BinOp.or IntKind.u8 (((runK a k).getD (g / 8) 0).toNat : Int) (2 ^ (g % 8) % 256) = (((runK a k).getD (g / 8) 0 ||| bitOf g).toNat : Int)) := or_walk _ _
      have HSB : Hid (setBit (runK a k) g = (runK a k).set (g / 8) ((runK a k).getD (g / 8) 0 ||| bitOf g)) := rfl
      generalize (runK a k).getD (g / 8) 0 = x at c0 HO HSB
      generalize runK a k = cur at H1 HS hrl HSB
      have hq : (g : Int) / 8 < 64 := by omega
      have hq0 : (0 : Int) ≤ (g : Int) / 8 := by omega
      have hm0 : (0 : Int) ≤ (g : Int) % 8 := by omega
      have hm1 : (g : Int) % 8 < 8 := by omega
      clear hrl hg
      go_wp2
      go_region
      all_goals go_wp2
      all_goals go_roundw
      case rel =>
        refine ⟨k + 1, by omega, by have := HG.out; go_num, H0.out.other _ (by simp), ?_, (HB.out.setCell (p := ⟨w.heap.size + 1, g / 8, none⟩) (by show w.heap.size ≤ w.heap.size + 1; omega) _).drew⟩
        rw [HS.out, HSB.out]
        exact H1.out.set (g / 8) _ _ (by rw [HO.out])
      case measure => simp [intOf]; omega
    · have hk2 : k = n := by omega
      subst hk2
      have hml := runK_length a k
      obtain ⟨m, hm⟩ : ∃ m, m = runK a k := ⟨_, rfl⟩
      rw [← hm] at H1 hml
      have HM : Hid (m = runK a k) := hm
      have hld : Hid (_ = _) := H1.out.load hml
      have hsv : Hid (_ = _) := H0.out.store zeros_length hml
      clear hm hlt
      rename_i hKK
      have HKK : Hid _ := hKK
      clear hKK
      go_wp2
      refine HKK.out _ _ ?_
      go_step
      go_step
      refine wpList_load_at _ rfl _ 63 rfl _ _ rfl hld.out ?_
      refine wpList_store_at _ _ rfl _ _ 63 rfl _ _ rfl rfl hsv.out ?_
      rename_i hKZ
      refine wpList_nil ?_
      refine hKZ _ _ ?_
      go_step
      have hfin := (H0.out.stored (l' := m)).load hml
      have hfin2 : Hid ((loadVar 63 ⟨w.heap.size, 0, none⟩).run Try.prog (wr.setRow w.heap.size (cs m)) = .ok (.agg (cs m)) (wr.setRow w.heap.size (cs m))) := by
        show _ = _
        simpa only [Instr.loadAt, Instr.sureAddr, Sem.run_bind, Sem.run_pure, Result.andThen] using hfin
      clear hfin
      refine bodyPost_ret (v := .agg (cs m)) ?_ rfl ⟨by rw [HM.out], below_setRow HB.out (by omega) _⟩
      rw [results_cell Try.results47]
      simp [asAddr, Act.put, Result.andThen, hfin2.out]
set_option maxRecDepth 20000 in
theorem eq_items (a b : List UInt8) (ha : a.length = 64) (hb : b.length = 64) (w : World) : ∀ is : List Nat, (∀ i ∈ is, i < 64) →
    (Op.eqItems 9999 5 (Try.prog.cellsOf 5) (cs a) (cs b) is).run Try.prog w = .ok (is.all fun i => a.getD i 0 == b.getD i 0) w
  | [], _ => by simp [Op.eqItems]
  | i :: is, h => by
    have hi : i < 64 := h i (by simp)
    have ih := eq_items a b ha hb w is (fun j hj => h j (by simp [hj]))
    have hc : Try.prog.cellsOf 5 = 1 := by kernel_rfl
    rw [hc] at ih ⊢
    have hg : ∀ l : List UInt8, l.length = 64 → (lst l)[i]? = some (.int .u8 ((l.getD i 0).toNat : Int)) := fun l hl => by
      unfold lst
      rw [List.getElem?_map, List.getD_eq_getElem?_getD, List.getElem?_eq_getElem (by omega)]
      rfl
    have hp : ∀ l : List UInt8, l.length = 64 → (part 5 (cs l) (i * 1)).run Try.prog w = .ok (.int .u8 ((l.getD i 0).toNat : Int)) w := fun l hl => by
      have := hg l hl
      generalize (l.getD i 0).toNat = x at this ⊢
      simp [part, go_sem, this]
    have he : (Op.equalIn 9999 5 (.int .u8 ((a.getD i 0).toNat : Int)) (.int .u8 ((b.getD i 0).toNat : Int))).run Try.prog w = .ok (a.getD i 0 == b.getD i 0) w := by
      rw [run_equalIn_int w 9998 5 .u8 .u8 _ _ Try.underlying5]
      congr 1
      rw [Bool.eq_iff_iff]
      simp only [beq_iff_eq]
      constructor
      · intro h; exact UInt8.toNat.inj (by omega)
      · intro h; rw [h]
    simp only [Op.eqItems, Sem.run_bind, hp a ha, hp b hb, he, Result.andThen_ok, List.all_cons]
    cases a.getD i 0 == b.getD i 0
    · simp
    · simpa using ih
theorem all_eq (a b : List UInt8) (ha : a.length = 64) (hb : b.length = 64) : ((List.range 64).all fun i => a.getD i 0 == b.getD i 0) = decide (a = b) := by
  rw [Bool.eq_iff_iff]
  simp only [List.all_eq_true, List.mem_range, beq_iff_eq, decide_eq_true_eq]
  constructor
  · intro h
    apply List.ext_getElem (by omega)
    intro i h1 h2
    rw [getD_at _ _ h1, getD_at _ _ h2]
    exact h i (by omega)
  · intro h i _; rw [h]
theorem info5 : ∃ i, Try.prog.info? 5 = some i := by
  cases h : Try.prog.info? 5 with
  | none => exact absurd (show (Try.prog.info? 5).isSome = true by kernel_rfl) (by rw [h]; simp)
  | some i => exact ⟨i, rfl⟩
/-- Two arrays are held against each other. -/
theorem eq_any (a b : List UInt8) (ha : a.length = 64) (hb : b.length = 64) (w : World) :
    (Op.equalIn 10000 63 (.agg (cs a)) (.agg (cs b))).run Try.prog w = .ok (decide (a = b)) w := by
  obtain ⟨i, hi⟩ := info5
  rw [run_equalIn_array w 9999 (cs a) (cs b) Try.underlying63 hi, eq_items a b ha hb w _ (by simp), all_eq a b ha hb]
end Go.Proofs.Ytomlogkbndmaaaa.lb
