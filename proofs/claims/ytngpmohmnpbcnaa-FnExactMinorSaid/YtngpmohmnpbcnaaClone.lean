/-
  A copy of whole numbers that are some.
-/
import Derived.Test.YtngpmohmnpbcnaaInts
import Derived.Deep.WholeRow
namespace Go.Proofs.Ytngpmohmnpbcnaa.nu
open Go.RowKit
open ints

theorem not_nil (b off n c : Nat) (w : World) : (binOp BinOp.eql 23 (.slice (some ⟨b, off, none⟩) n c) (.slice none 0 0)).run Try.prog w = .ok (.bool false) w := by kernel_rfl
set_option maxHeartbeats 1000000 in
set_option maxRecDepth 20000 in
theorem clone_any (w : World) (a : Option Addr) (n cap : Nat) (xs : List Int) (hx : xs.length = n) (h0 : 0 < n) (hn : n ≤ 1048576) (hl : Nums w a xs) :
    Calls Try.prog 98 #[.slice a n cap] w fun e w' => ∃ g c, e = .returned (.slice (some ⟨g, 0, none⟩) n c) ∧ w.heap.size ≤ g ∧ Ints w' (some ⟨g, 0, none⟩) g xs ∧ Below w.heap.size w w' := by
  subst hx
  obtain ⟨b, off, rfl, _⟩ := hl 0 h0
  obtain ⟨i0, hi, hzz⟩ := Option.map_eq_some_iff.1 infoInt64
  simp only [Prod.mk.injEq] at hzz
  obtain ⟨hz0, hz1, hz2⟩ := hzz
  obtain ⟨X, hX⟩ : ∃ X, X = w.alloc (.cells #[] 2) := ⟨_, rfl⟩
  have HX : Hid (X = w.alloc (.cells #[] 2)) := hX
  have hb0 : Below w.heap.size w X := by rw [hX]; exact (Below.refl _ _).alloc (Nat.le_refl _) _
  have hown : X.ownsRow w.heap.size 2 1 (.slice (some ⟨w.heap.size, 0, none⟩) 0 0) 0 [] := ⟨rfl, .inr ⟨w.heap.size, 0, #[], rfl, Nat.le_refl _, by rw [hX]; exact heap_alloc_last w _, Nat.le_refl _, by unfold maxLen; omega, rfl, rfl⟩⟩
  have HOW : Hid (X.ownsRow w.heap.size 2 1 (.slice (some ⟨w.heap.size, 0, none⟩) 0 0) 0 []) := hown
  have HB0 : Hid (Below w.heap.size w X) := hb0
  have HNC : Hid (∀ j u, (xs.map (Value.int .i64))[j]? = some u → X.cell? ((⟨b, off, none⟩ : Addr).add j) = some u) := fun j u hj => by
    rw [List.getElem?_map] at hj
    obtain ⟨y, hy, rfl⟩ := Option.map_eq_some_iff.1 hj
    obtain ⟨hj', rfl⟩ := List.getElem?_eq_some_iff.1 hy
    obtain ⟨b', off', e, hc⟩ := (hl.below hb0) j hj'
    simp at e
    obtain ⟨rfl, rfl⟩ := e
    have hadd : (⟨b, off, none⟩ : Addr).add j = ⟨b, off + j, none⟩ := by unfold Addr.add; split <;> simp_all
    rw [hadd]
    exact hc
  have HLN : Hid ((xs.map (Value.int .i64)).length = xs.length * 1) := by show (xs.map (Value.int .i64)).length = _; simp
  have H1C : Hid (∀ u ∈ xs.map (Value.int .i64), u.oneCell' = true) := fun u hu => by
    obtain ⟨y, _, rfl⟩ := List.mem_map.1 hu
    rfl
  have hnil := not_nil b off xs.length cap
  clear hX hl hb0 hown
  go_enter Try.func98, Try.ntmps98
  go_wp2_with (rw [← HX.out]; refine wpList_append_lies X (by rfl) _ _ 23 (by rfl) w.heap.size 2 i0 (.int .i64 0) 1 8 Try.underlying23 hi hz0 hz1 hz2 rfl (by decide) (.slice (some ⟨w.heap.size, 0, none⟩) 0 0) 0 [] (by rfl) HOW.out ⟨b, off, none⟩ xs.length cap (xs.map (Value.int .i64)) (by rfl) HLN.out HNC.out H1C.out h0 (by unfold maxLen; omega) (by omega) HB0.out.size _ rfl ?_; intro g c w6 hown6 hgrow6 hat6 hlt6; have HO6 : Hid (_) := hown6; have HB6 : Hid (Below w.heap.size w w6) := own_step HOW.out HB0.out HB0.out.size hgrow6; clear hown6 hgrow6 hat6 hlt6)
  go_ret
  have h6 := HO6.out
  rw [Nat.zero_add, List.nil_append] at h6
  obtain ⟨a', g', c', e', hg', hin⟩ := ints_of_row h6
  simp at e'
  obtain ⟨rfl, rfl⟩ := e'
  have hgg : g = g' := by
    have := (hin 0 h0).1
    simpa using this
  subst hgg
  exact ⟨g, c, rfl, hg', hin, HB6.out⟩
end Go.Proofs.Ytngpmohmnpbcnaa.nu
