/-
  Graphs: whether one is right, by the program.
-/
import Derived.Test.YthjfgibflbbgmaaGr1
import Derived.Test.YthjfgibflbbgmaaLater
import Derived.Deep.RegionHeld3
namespace Go.Proofs.Ythjfgibflbbgmaa.gr
open Go.RowKit
open kinds ints obj ref later

def allIn (n : Nat) (l : List Int) : Bool := l.all fun r => decide (0 ≤ r) && decide (r ≤ (n : Int))
set_option maxRecDepth 20000 in
theorem allIn_snoc (n : Nat) (l : List Int) (r : Int) : allIn n (l ++ [r]) = (allIn n l && (decide (0 ≤ r) && decide (r ≤ (n : Int)))) := by simp [allIn]
set_option maxRecDepth 20000 in
theorem allIn_no {n : Nat} {l : List Int} {k : Nat} (h : allIn n (l.take k) = false) : allIn n l = false := by
  unfold allIn at h ⊢
  rw [List.all_eq_false] at h ⊢
  obtain ⟨x, hx, q⟩ := h
  exact ⟨x, List.mem_of_mem_take hx, q⟩
def nodeB (xs : List ByteArray) (n : Nat) (x : Nd) : Bool := fitsB xs x.1 x.2 && allIn n (refsL (kd xs x.1) x.2 x.2.length)
def nodesB (xs : List ByteArray) (n : Nat) (ns : List Nd) : Bool := ns.all (nodeB xs n)
set_option maxRecDepth 20000 in
theorem nodesB_snoc (xs : List ByteArray) (n : Nat) (ns : List Nd) (x : Nd) : nodesB xs n (ns ++ [x]) = (nodesB xs n ns && nodeB xs n x) := by simp [nodesB]
set_option maxRecDepth 20000 in
theorem nodesB_no {xs : List ByteArray} {n : Nat} {ns : List Nd} {k : Nat} (h : nodesB xs n (ns.take k) = false) : nodesB xs n ns = false := by
  unfold nodesB at h ⊢
  rw [List.all_eq_false] at h ⊢
  obtain ⟨x, hx, q⟩ := h
  exact ⟨x, List.mem_of_mem_take hx, q⟩
def graphB (xs : List ByteArray) (rs : List Int) (ns : List Nd) : Bool := typesOk xs && (decide (rs.length ≤ 40) && (decide (ns.length ≤ 400) && (allIn ns.length rs && nodesB xs ns.length ns)))

set_option maxHeartbeats 1000000 in
set_option maxRecDepth 20000 in
theorem allNodes_any (w : World) (a : Option Addr) (cap : Nat) (xs : List Int) (b c : Option Addr) (q vc n d : Nat) (hn : xs.length ≤ 1048576) (hl : Nums w a xs) :
    Calls Try.prog 59 #[.slice a xs.length cap, .agg #[.slice b q vc, .slice c n d]] w fun e w' => e = .returned (.bool (allIn n xs)) ∧ Below w.heap.size w w' := by
  obtain ⟨W, hW⟩ : ∃ W, W = w.alloc (.cells #[.slice b q vc, .slice c n d] 33) := ⟨_, rfl⟩
  have HW : Hid (W = w.alloc (.cells #[.slice b q vc, .slice c n d] 33)) := hW
  have hb0 : Below w.heap.size w W := by rw [hW]; exact (Below.refl _ _).alloc (Nat.le_refl _) _
  have HB0 : Hid (Below w.heap.size w W) := hb0
  have k1 : W.cell? ⟨w.heap.size, 1, none⟩ = some (.slice c n d) := by rw [hW, World.cell?_alloc_new]; rfl
  have HN : Hid (Nums W a xs) := hl.below hb0
  obtain ⟨res, hres⟩ : ∃ r, r = allIn n xs := ⟨_, rfl⟩
  rw [← hres]
  have HRES : Hid (res = allIn n xs) := hres
  clear hl hres hW hb0
  go_enter Try.func59, Try.ntmps59
  go_wp2_with fail
  rw [← HW.out]
  go_loopw [9] (fun i wr => wr = W ∧ ∃ k : Nat, k ≤ xs.length ∧ i = .int .i64 (k : Int) ∧ allIn n (xs.take k) = true) (fun i _ => xs.length - (intOf i).toNat)
  case atStart => exact ⟨rfl, 0, Nat.zero_le _, rfl, rfl⟩
  case round =>
    obtain ⟨rfl, k, hk, rfl, hok⟩ := hrel
    have HOK : Hid (allIn n (xs.take k) = true) := hok
    clear hok
    by_cases hlt : k < xs.length
    · have hlti : (k : Int) < (xs.length : Int) := by omega
      obtain ⟨b, off, rfl, c0⟩ := HN.out k hlt
      have HT : Hid (allIn n (xs.take (k + 1)) = (allIn n (xs.take k) && (decide (0 ≤ xs[k]) && decide (xs[k] ≤ (n : Int))))) := by
        show allIn n (xs.take (k + 1)) = _
        rw [List.take_succ_eq_append_getElem hlt, allIn_snoc]
      have HIN : Hid (∀ w, Calls _ _ _ w _) := fun w => within_any w xs[k] 0 (n : Int)
      generalize xs[k] = x at c0 HT HIN
      generalize (decide (0 ≤ x) && decide (x ≤ (n : Int))) = ok at HT HIN
      cases ok with
      | false =>
        have HR2 : Hid (res = false) := by
          show res = false
          rw [HRES.out]; exact allIn_no (k := k + 1) (by rw [HT.out]; simp)
        go_wp2_with fail
        refine (HIN.out _).mono ?_
        rintro e w2 ⟨rfl, rfl⟩
        go_wp2
        go_ret
        exact ⟨by rw [HR2.out]; rfl, HB0.out⟩
      | true =>
        have HOK2 : Hid (allIn n (xs.take (k + 1)) = true) := by
          show allIn n (xs.take (k + 1)) = true
          rw [HT.out, HOK.out]
          rfl
        go_wp2_with fail
        refine (HIN.out _).mono ?_
        rintro e w2 ⟨rfl, rfl⟩
        go_wp2
        go_roundw
        case rel => exact ⟨trivial, k + 1, by omega, by go_num, HOK2.out⟩
        case measure => simp [intOf]; omega
    · obtain rfl : k = xs.length := by omega
      have HR2 : Hid (res = true) := by
        show res = true
        have := HOK.out
        rw [List.take_length] at this
        rw [HRES.out, this]
      go_wp2
      go_ret
      exact ⟨by rw [HR2.out]; rfl, HB0.out⟩
end Go.Proofs.Ythjfgibflbbgmaa.gr
