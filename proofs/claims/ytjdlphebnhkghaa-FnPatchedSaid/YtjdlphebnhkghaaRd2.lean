/-
  More of the specification's reader: the reader that is opened anew; numbers near a range or just outside; the drawn word.
-/
import Derived.Test.YtjdlphebnhkghaaRd
import Derived.OpenShut
namespace Go.Proofs.Ytjdlphebnhkghaa.rd
open Go.RowKit
open wmath

theorem code_of {w : World} {a : Option Addr} {len cap : Nat} {zs : List Int}
    (h : (a = none ∧ len = 0 ∧ cap = 0 ∧ zs = []) ∨ ∃ x, a = some x ∧ len ≤ cap ∧ cap ≤ maxLen ∧ zs.length = cap ∧ (∀ i, i < zs.length → w.cell? (x.add i) = some (.int .u8 (zs.getD i 0))) ∧ ∀ n ∈ zs, (Lit.int .u8 n).wf = true) :
    RdCode w w.heap.size a len := by
  intro i hi
  rcases h with ⟨rfl, rfl, rfl, rfl⟩ | ⟨x, rfl, hl, hm, hz, hcell, hwz⟩
  · omega
  · have hc := hcell i (by omega)
    obtain ⟨b, off, spot⟩ := x
    have hspot : spot = none := by simpa [Addr.add] using World.cell?_spot (hcell 0 (by omega))
    subst hspot
    have hplain : (⟨b, off, none⟩ : Addr).add i = ⟨b, off + i, none⟩ := by unfold Addr.add; split <;> simp_all
    rw [hplain] at hc
    have hb := bounds_u8 (hwz (zs.getD i 0) (by rw [List.getD_eq_getElem?_getD, List.getElem?_eq_getElem (by omega)]; simp))
    obtain ⟨v, hv⟩ := Int.eq_ofNat_of_zero_le hb.1
    rw [hv] at hc hb
    exact ⟨b, off, v, rfl, World.block_lt_of_cell? w _ hc, hc, by omega⟩
theorem RdCode.below {w w' : World} {R R' : Nat} {a : Option Addr} {len : Nat} (h : RdCode w R a len) (hb : Below R w w') (hR : R ≤ R') : RdCode w' R' a len := by
  intro i hi
  obtain ⟨b, off, v, e, hbR, hc, hv⟩ := h i hi
  exact ⟨b, off, v, e, Nat.lt_of_lt_of_le hbR hR, by rw [hb.cell (p := ⟨b, off + i, none⟩) hbR]; exact hc, hv⟩

theorem big_no (w : World) (a : Option Addr) (len cap : Nat) (hs : len ≤ 1048576) :
    Calls Try.prog 11 #[.slice a len cap] w fun e w' => e = .returned (.bool false) ∧ w = w' := by
  have h : ¬ (1048576 : Int) < (len : Int) := by omega
  go_enter Try.func11, Try.ntmps11
  go_wp2
  go_ret
  exact ⟨rfl, rfl⟩
theorem big_yes (w : World) (a : Option Addr) (len cap : Nat) (hs : 1048576 < len) :
    Calls Try.prog 11 #[.slice a len cap] w fun e w' => e = .returned (.bool true) ∧ w = w' := by
  have h : (1048576 : Int) < (len : Int) := by omega
  go_enter Try.func11, Try.ntmps11
  go_wp2
  go_ret
  exact ⟨rfl, rfl⟩

theorem open_any (w : World) (a : Option Addr) (len cap : Nat) (hs : len ≤ 1048576) (hc : RdCode w w.heap.size a len) :
    Calls Try.prog 35 #[.slice a len cap] w fun e w' => e = .returned (.pointer (some ⟨w.heap.size, 0, none⟩)) ∧ Rd w' w.heap.size a len cap ∧ Below w.heap.size w w' := by
  have HC : Hid (RdCode w w.heap.size a len) := hc
  clear hc
  go_enter Try.func35, Try.ntmps35
  go_wp2
  go_ret
  refine ⟨rfl, ⟨hs, by simp, ?_, by rw [World.cell?_alloc_new]; rfl, ⟨0, Nat.zero_le _, by rw [World.cell?_alloc_new]; rfl⟩, ?_⟩, (Below.refl _ _).alloc (Nat.le_refl _) _⟩
  · intro i hi
    obtain ⟨b, off, v, e, hbR, hc, hv⟩ := HC.out i hi
    exact ⟨b, off, v, e, hbR, by rw [World.cell?_alloc_lt _ _ _ hbR]; exact hc, hv⟩
  · exact World.frozen?_alloc_new _ _ _ _

end Go.Proofs.Ytjdlphebnhkghaa.rd
