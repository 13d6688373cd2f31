/-
  The words of a set, one after another, each with what an image has there: the iterator's contract.
-/
import Derived.RangeFuncNested
import Derived.RangeFuncBound
import Derived.RangeFuncCalls
import Derived.RangeFuncLeaves
import Derived.RangeFuncBox
import Derived.Shelf.Abstract
import Derived.Shelf.RegionOpen
import Derived.WalkKit
import Derived.OwnWalkIn
import Derived.TacticsInMore
import Derived.LoopNIn
import Derived.LoopIn
import Derived.Maps.AppendAt
import Derived.Test.YtjdlphebnhkghaaYwB
namespace Go.Proofs.Ytjdlphebnhkghaa.yw
open Go.RowKit Go.Shelf
open wmath num ints ref
attribute [local go_sem] Oper.semAt_some

/-- A word and what lies there. -/
abbrev Wd := { x : Int × Int // x.2 < 9223372036854775808 }
/-- All blocks below n₀ but one are as they were. -/
def Kq (n₀ r : Nat) (W W' : World) : Prop := ∀ k, k < n₀ → k ≠ r → W'.heap[k]? = W.heap[k]?
theorem Kq.refl (n₀ r : Nat) (W : World) : Kq n₀ r W W := fun _ _ _ => rfl
theorem Kq.trans {n₀ r : Nat} {A B C : World} (h : Kq n₀ r A B) (k : Kq n₀ r B C) : Kq n₀ r A C := fun i h1 h2 => (k i h1 h2).trans (h i h1 h2)
theorem Kq.put {n₀ r : Nat} {w : World} (hn : n₀ ≤ w.heap.size) (W : World) (l : Nat) (o o' : Obj) (hl : w.heap.size ≤ l) (_ : W.heap[l]? = some o) (_ : o.isCells = false) (_ : o.isWalk = false) : Kq n₀ r W (W.putObj l o') := fun k hk _ => (grownBy_putObj' W l o').block k (by have := (Array.getElem?_eq_some_iff.1 (by assumption : W.heap[l]? = some o)).1; omega) (fun e => by have := Option.some.inj e; omega)
def fK (s : ByteArray) (xs : List Int) (j : Nat) : Wd := ⟨(xs.getD j 0, wOf s xs j), wAt_lt _ _⟩
def upto (s : ByteArray) (xs : List Int) (k : Nat) : List Wd := (List.range k).map (fK s xs)
theorem upto_succ (s : ByteArray) (xs : List Int) (k : Nat) : upto s xs (k + 1) = upto s xs k ++ [fK s xs k] := by simp [upto, List.range_succ]
theorem upto_length (s : ByteArray) (xs : List Int) (k : Nat) : (upto s xs k).length = k := by simp [upto]

set_option maxRecDepth 100000 in
set_option maxHeartbeats 2000000 in
theorem words1_in (n : Nat) (hn : 1 ≤ n) (l Bw Bi n₀ r b off len cap : Nat) (s : ByteArray) (xs : List Int) (hlen : len ≤ 1048576) (hs : s.size ≤ 1048576) (hx : ∀ k, k < len → 0 ≤ xs.getD k 0 ∧ 8 * xs.getD k 0 + 8 ≤ (s.size : Int)) (hb : b < n₀ ∧ b ≠ r) (hi : Bi < n₀ ∧ Bi ≠ r) (J Jx : List Wd → World → Prop)
    (hY : ∀ pre x W, J pre W → pre.length < len → YieldAt Fence.wide (n - 1) Try.prog l #[.int .i64 x.1.1, .int .i64 x.1.2] W fun e W' =>
      (e = .returned (.bool true) ∧ J (pre ++ [x]) W' ∧ Kq n₀ r W W') ∨ (e = .returned (.bool false) ∧ Jx (pre ++ [x]) W'))
    (W : World) (hBw : W.cell? ⟨Bw, 0, none⟩ = some (.slice (some ⟨b, off, none⟩) len cap)) (hBi : W.cell? ⟨Bi, 0, none⟩ = some (.string s)) (hc : ∀ j, j < len → W.cell? ⟨b, off + j, none⟩ = some (.int .i64 (xs.getD j 0))) (h0 : J [] W) :
    CallsIn Fence.wide n Try.prog 60 #[.func (.yield l) #[] #[], .pointer (some ⟨Bw, 0, none⟩), .pointer (some ⟨Bi, 0, none⟩)] W fun e W' => (∃ v, e = .returned v) ∧
      ((∃ ys, ys = upto s xs len ∧ J ys W') ∨ (∃ pre, (∃ k, k ≤ len ∧ pre = upto s xs k) ∧ Jx pre W')) := by
  refine callsIn_of_wp Try.func60 rfl trivial ?_ rfl
  simp only [Try.ntmps60, List.size_toArray, List.length_cons, List.length_nil, Nat.reduceAdd, Nat.reduceSub, Array.replicate_succ, Array.replicate_zero, List.push_toArray, List.append_toArray, List.nil_append, List.cons_append]
  gi_wp2
  gi_loopw [8] (fun i wr => ∃ k : Nat, k ≤ len ∧ i = .int .i64 k ∧ J (upto s xs k) wr ∧ Kq n₀ r W wr)
    (fun i _ => len - (intOf i).toNat)
  case atStart => exact ⟨0, Nat.zero_le _, rfl, h0, Kq.refl _ _ _⟩
  case round =>
    obtain ⟨k, hk, rfl, hJs, hnx⟩ := hrel
    by_cases hlt : k < len
    · have hcx : wr.cell? ⟨b, off + k, none⟩ = some (.int .i64 (xs.getD k 0)) := by rw [World.cell?_of_block (a := ⟨b, off + k, none⟩) (hnx b hb.1 hb.2)]; exact hc k hlt
      have hci : wr.cell? ⟨Bi, 0, none⟩ = some (.string s) := by rw [World.cell?_of_block (a := ⟨Bi, 0, none⟩) (hnx Bi hi.1 hi.2)]; exact hBi
      obtain ⟨hx0, hx1⟩ := hx k hlt
      obtain ⟨x', hx'⟩ : ∃ x' : Wd, x' = fK s xs k := ⟨_, rfl⟩
      obtain ⟨⟨q1, q2⟩, hq⟩ := x'
      have hq1 : q1 = xs.getD k 0 := congrArg (fun z : Wd => z.1.1) hx'
      have hq2 : q2 = wAt s (8 * (xs.getD k 0).toNat) := congrArg (fun z : Wd => z.1.2) hx'
      have HSU : Hid (upto s xs (k + 1) = upto s xs k ++ [⟨(q1, q2), hq⟩]) := by show upto s xs (k + 1) = _; rw [upto_succ, ← hx']
      rw [← hq1] at hcx hx0 hx1 hq2
      clear hx' hq1
      obtain ⟨p, rfl⟩ := Int.eq_ofNat_of_zero_le hx0
      rw [Int.toNat_natCast] at hq2
      have hW : ∀ w, Calls Try.prog 61 #[.string s, .int .i64 (p : Int)] w fun e w' => e = .returned (.int .i64 q2) ∧ w' = w := fun w => by rw [hq2]; exact wordAt_any w s p hs (by omega)
      obtain ⟨fn, tmps, assign, body, hy, hR⟩ := hY _ ⟨((p : Int), q2), hq⟩ wr hJs (by rw [upto_length]; exact hlt)
      clear hq2 hx0
      dsimp only at hy
      gi_wp2_with (first | (refine ⟨trivial, ?_⟩; gi_at_call 61; refine (callsIn_wide.2 (hW _)).mono ?_; rintro e w' ⟨rfl, rfl⟩) | (gi_at_call 61; refine (callsIn_wide.2 (hW _)).mono ?_; rintro e w' ⟨rfl, rfl⟩))
      refine hR.mono ?_
      rintro e W3 (⟨rfl, hJ3, hk3⟩ | ⟨rfl, hJx3⟩)
      · gi_wp2
        go_roundw
        case rel => exact ⟨k + 1, by omega, by go_num, by rw [HSU.out]; exact hJ3, hnx.trans hk3⟩
        case measure => simp [intOf]; omega
      · gi_wp2
        refine bodyPost_ret (results_none rfl _ _ _) rfl ?_
        exact ⟨⟨_, rfl⟩, .inr ⟨_, ⟨k + 1, by omega, HSU.out.symm⟩, hJx3⟩⟩
    · obtain rfl : k = len := by omega
      gi_wp2
      go_end0
      exact ⟨⟨_, rfl⟩, .inl ⟨_, rfl, hJs⟩⟩
set_option maxRecDepth 100000 in
set_option maxHeartbeats 1000000 in
/-- No word: no round. -/
theorem words1_nil (n : Nat) (l Bw Bi cap : Nat) (a : Option Addr) (J : List Wd → World → Prop) (W : World) (hBw : W.cell? ⟨Bw, 0, none⟩ = some (.slice a 0 cap)) (h0 : J [] W) :
    CallsIn Fence.wide n Try.prog 60 #[.func (.yield l) #[] #[], .pointer (some ⟨Bw, 0, none⟩), .pointer (some ⟨Bi, 0, none⟩)] W fun e W' => (∃ v, e = .returned v) ∧ J [] W' := by
  refine callsIn_of_wp Try.func60 rfl trivial ?_ rfl
  simp only [Try.ntmps60, List.size_toArray, List.length_cons, List.length_nil, Nat.reduceAdd, Nat.reduceSub, Array.replicate_succ, Array.replicate_zero, List.push_toArray, List.append_toArray, List.nil_append, List.cons_append]
  gi_wp2
  gi_loopw [8] (fun i wr => i = .int .i64 0 ∧ J [] wr) (fun _ _ => 0)
  case atStart => exact ⟨rfl, h0⟩
  case round =>
    obtain ⟨rfl, hJs⟩ := hrel
    gi_wp2
    go_end0
    exact ⟨⟨_, rfl⟩, hJs⟩
set_option maxHeartbeats 1000000 in
theorem wordsOf_in (n : Nat) (s : ByteArray) (a : Option Addr) (len cap : Nat) (w : World) :
    CallsIn Fence.wide n Try.prog 32 #[.string s, .slice a len cap] w fun e w' => e = .returned (.func (.func 60) #[] #[.pointer (some ⟨w.heap.size + 1, 0, none⟩), .pointer (some ⟨w.heap.size, 0, none⟩)]) ∧ w' = (w.alloc (.cells #[.string s] 9)).alloc (.cells #[.slice a len cap] 22) := by
  refine callsIn_of_wp Try.func32 rfl trivial ?_ rfl
  simp only [Try.ntmps32, List.size_toArray, List.length_cons, List.length_nil, Nat.reduceAdd, Nat.reduceSub, Array.replicate_succ, Array.replicate_zero, List.push_toArray, List.append_toArray, List.nil_append, List.cons_append]
  gi_wp2
  go_ret
  exact ⟨rfl, rfl⟩
/-- The iterator's contract. -/
theorem words_stops (n : Nat) (hn : 1 ≤ n) (Bw Bi n₀ r : Nat) (a : Option Addr) (cap : Nat) (s : ByteArray) (xs : List Int) (hlen : xs.length ≤ 1048576) (hs : s.size ≤ 1048576) (hx : ∀ k, k < xs.length → 0 ≤ xs.getD k 0 ∧ 8 * xs.getD k 0 + 8 ≤ (s.size : Int)) (w : World)
    (hBw : w.cell? ⟨Bw, 0, none⟩ = some (.slice a xs.length cap)) (hBi : w.cell? ⟨Bi, 0, none⟩ = some (.string s)) (hb : 0 < xs.length → ∀ b off, a = some ⟨b, off, none⟩ → b < n₀ ∧ b ≠ r) (hi : Bi < n₀ ∧ Bi ≠ r) (hl : Nums w a xs) :
    SeqStopsK Fence.wide n Try.prog 60 #[.pointer (some ⟨Bw, 0, none⟩), .pointer (some ⟨Bi, 0, none⟩)] (fun x : Wd => #[Value.int .i64 x.1.1, Value.int .i64 x.1.2]) (Kq n₀ r) (fun ys => ys = upto s xs xs.length)
      (fun pre => ∃ k, k ≤ xs.length ∧ pre = upto s xs k) xs.length w := fun l J Jx W hW _ _ hY h0 => by
  have hBw' : W.cell? ⟨Bw, 0, none⟩ = some (.slice a xs.length cap) := (hW.cell (p := ⟨Bw, 0, none⟩) (World.block_lt_of_cell? w _ hBw)).trans hBw
  have hBi' : W.cell? ⟨Bi, 0, none⟩ = some (.string s) := (hW.cell (p := ⟨Bi, 0, none⟩) (World.block_lt_of_cell? w _ hBi)).trans hBi
  by_cases h1 : 0 < xs.length
  · obtain ⟨b, off, rfl, _⟩ := hl 0 h1
    exact words1_in n hn l Bw Bi n₀ r b off xs.length cap s xs hlen hs hx (hb h1 b off rfl) hi J Jx hY W hBw' hBi' (fun j hj => by
      obtain ⟨b', off', e, hc⟩ := (hl.below hW) j hj
      cases e
      rw [getD_intI xs j hj] at hc
      exact hc) h0
  · have e0 : xs.length = 0 := by omega
    rw [e0] at hBw'
    refine (words1_nil n l Bw Bi cap a J W hBw' h0).mono fun e W' ⟨he, hj⟩ => ⟨he, .inl ⟨_, ?_, hj⟩⟩
    rw [e0]; rfl
end Go.Proofs.Ytjdlphebnhkghaa.yw
