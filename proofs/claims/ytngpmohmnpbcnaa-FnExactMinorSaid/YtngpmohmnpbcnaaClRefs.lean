/-
  The references of places, by the program.
-/
import Derived.Test.YtngpmohmnpbcnaaYOpen3
namespace Go.Proofs.Ytngpmohmnpbcnaa.nu
open Go.RowKit
open kinds ints ref obj

def refsOfN (L : List Nat) : List Int := L.map fun (a : Nat) => 2 * (a : Int) + 1
theorem refsOfN_len (L : List Nat) : (refsOfN L).length = L.length := by unfold refsOfN; simp
theorem refsOfN_next (L : List Nat) (k : Nat) (hk : k < L.length) : refsOfN (L.take (k + 1)) = refsOfN (L.take k) ++ [2 * (L[k] : Int) + 1] := by
  unfold refsOfN
  rw [List.take_succ_eq_append_getElem hk, List.map_append]
  rfl
set_option maxHeartbeats 1000000 in
set_option maxRecDepth 20000 in
theorem youngRefs_any (w : World) (sa : Option Addr) (sc : Nat) (L : List Nat) (hL : L.length ≤ 400) (h4 : ∀ a ∈ L, a ≤ 399) (hv : Nums w sa (numsOf L)) :
    Calls Try.prog 41 #[.slice sa L.length sc] w fun e w' => ∃ a g c, e = .returned (.slice a (refsOfN L).length c) ∧ w.heap.size ≤ g ∧ Ints w' a g (refsOfN L) ∧ Below w.heap.size w w' := by
  have HSN : Hid (∀ w', Below w.heap.size w w' → Nums w' sa (numsOf L)) := fun w' h => hv.below h
  have HLN : Hid (L.length ≤ 400) := hL
  have H4 : Hid (∀ a ∈ L, a ≤ 399) := h4
  clear hv h4
  go_enter Try.func41, Try.ntmps41
  go_wp2
  go_loopw [3, 8] (fun v i wr => ∃ k : Nat, k ≤ L.length ∧ i = .int .i64 (k : Int) ∧ wr.ownsRow w.heap.size 2 1 v (refsOfN (L.take k)).length ((refsOfN (L.take k)).map (Value.int .i64)) ∧ Below w.heap.size w wr) (fun _ i _ => L.length - (intOf i).toNat)
  case atStart => exact ⟨0, Nat.zero_le _, rfl, ⟨rfl, .inl ⟨rfl, rfl⟩⟩, Below.refl _ _⟩
  case round =>
    obtain ⟨k, hk, rfl, hown, hb⟩ := hrel
    have HOW : Hid (wr.ownsRow w.heap.size 2 1 u3 (refsOfN (L.take k)).length ((refsOfN (L.take k)).map (Value.int .i64))) := hown
    have HB : Hid (Below w.heap.size w wr) := hb
    clear hown hb
    by_cases hlt : k < L.length
    · have hki : (k : Int) < (L.length : Int) := by omega
      have hk0 : (0 : Int) ≤ (k : Int) := by omega
      have hk4 : k ≤ 400 := by have := HLN.out; omega
      obtain ⟨b5, o5, rfl, e5⟩ := (HSN.out wr HB.out) k (by rw [numsOf_len]; exact hlt)
      rw [show (numsOf L)[k]'(by rw [numsOf_len]; exact hlt) = (L[k] : Int) by unfold numsOf; simp] at e5
      have HTK : Hid (refsOfN (L.take (k + 1)) = refsOfN (L.take k) ++ [2 * (L[k] : Int) + 1]) := refsOfN_next L k hlt
      have HLK : Hid ((refsOfN (L.take k)).length ≤ 1048576) := by show (refsOfN (L.take k)).length ≤ _; rw [refsOfN_len, List.length_take]; have := HLN.out; omega
      have HAA : Hid (L[k] ≤ 399) := H4.out _ (List.getElem_mem hlt)
      generalize L[k] = aa at e5 HTK HAA
      generalize refsOfN (L.take k) = M at HOW HTK HLK
      have HKN : Hid (k < L.length) := hlt
      go_wp2_with fail
      refine (youngNumber (aa : Int) wr (by omega) (by have := HAA.out; omega)).mono ?_
      rintro e w3 ⟨rfl, rfl⟩
      go_wp2_with (refine wpList_push wr (by rfl) _ _ (by rfl) w.heap.size u3 M (2 * (aa : Int) + 1) HOW.out (by rfl) (by rfl) HLK.out HB.out.size ?_; intro g2 c2 w6 hown6 hb6 hB6; have HO6 : Hid (_) := hown6; have HB6 : Hid (Below w.heap.size w w6) := HB.out.trans hb6; clear hown6 hb6 hB6)
      go_roundw
      case rel => exact ⟨k + 1, by have := HKN.out; omega, by go_num, by rw [HTK.out]; exact HO6.out, HB6.out⟩
      case measure => have := HKN.out; simp [intOf]; omega
    · obtain rfl : k = L.length := by omega
      have hown := HOW.out
      rw [List.take_length] at hown
      obtain ⟨a6, g6, c6, rfl, hg6, hi6⟩ := ints_of_row hown
      have HI6 : Hid (Ints wr a6 g6 (refsOfN L)) := hi6
      have HG6 : Hid (w.heap.size ≤ g6) := hg6
      clear hown HOW hi6 hg6
      go_wp2
      go_ret
      exact ⟨a6, g6, c6, rfl, HG6.out, HI6.out, HB.out⟩
end Go.Proofs.Ytngpmohmnpbcnaa.nu
