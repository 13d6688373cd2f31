/-
  Objects whose numbers were read from bytes, as bytes again.
-/
import Derived.Test.YtnacdfoejmjlgaaOBox
namespace Go.Proofs.Ytnacdfoejmjlgaa.obj
open Go.RowKit
open kinds ints ref wb wmath num

theorem impl_objvals (w : World) (a : Option Addr) (cap : Nat) (xs : List ByteArray) (p : Nat) (b : Option Addr) (vc : Nat) (s : ByteArray) (n : Nat) (hn : xs.length ≤ 1048576) (hz : ∀ i (hi : i < xs.length), xs[i].size ≤ 1048576) (q1 : Strs w a xs) (q2 : Nums w b (valsR s n)) :
    Calls Try.prog 7 #[.slice a xs.length cap, .agg #[.int .i64 (p : Int), .slice b n vc]] w fun e w' => e = .returned (.string (objStr xs (p : Int) (valsR s n))) ∧ Below w.heap.size w w' := by
  have h := impl_objbytes w a cap xs (p : Int) b vc (valsR s n) hn hz q1 q2 (valsR_lt s n)
  rw [valsR_len] at h
  exact h
theorem spec_objvals (w : World) (a : Option Addr) (cap : Nat) (xs : List ByteArray) (p : Nat) (b : Option Addr) (vc : Nat) (s : ByteArray) (n : Nat) (hn : xs.length ≤ 1048576) (hz : ∀ i (hi : i < xs.length), xs[i].size ≤ 1048576) (q1 : Strs w a xs) (q2 : Nums w b (valsR s n)) :
    Calls Try.prog 11 #[.slice a xs.length cap, .agg #[.int .i64 (p : Int), .slice b n vc]] w fun e w' => e = .returned (.string (objStr xs (p : Int) (valsR s n))) ∧ Below w.heap.size w w' := by
  have h := spec_objbytes w a cap xs (p : Int) b vc (valsR s n) hn hz q1 q2 (valsR_lt s n)
  rw [valsR_len] at h
  exact h
theorem pre_short (xs : List ByteArray) (s : ByteArray) (h : s.size < 64) : preB xs s = false := by
  cases hp : preB xs s with
  | false => rfl
  | true =>
    exfalso
    unfold preB at hp
    rw [Bool.and_eq_true, Bool.and_eq_true, Bool.and_eq_true] at hp
    obtain ⟨ht, _, hm, hs⟩ := hp
    unfold markB at hm
    rw [Bool.and_eq_true] at hm
    have h1 := of_decide_eq_true hm.1
    have h2 := of_decide_eq_true hm.2
    obtain ⟨p, hpe⟩ : ∃ p : Nat, wAt s 0 = (p : Int) + 1 := ⟨(wAt s 0 - 1).toNat, by omega⟩
    have hpl : p < xs.length := by omega
    rw [hpe, show (p : Int) + 1 - 1 = (p : Int) by omega, kd_at p hpl] at hs
    have hty : isType xs[p] = true := by
      unfold typesOk at ht
      rw [Bool.and_eq_true, List.all_eq_true] at ht
      exact ht.2 _ (List.getElem_mem hpl)
    have h23 := isType_size hty
    have hru : runOf xs[p] = (((xs[p].size + 8) / 8 : Nat) : Int) := by unfold runOf; rw [if_pos hty]; omega
    rw [hru] at hs
    have hs2 : (s.size : Int) = 64 * (((xs[p].size + 8) / 8 : Nat) : Int) := by simpa using hs
    omega
end Go.Proofs.Ytnacdfoejmjlgaa.obj
