/-
  The draws of types: texts of at most so many bytes; nothing that was there is written.
-/
import Derived.Test.YtnacdfoejmjlgaaRd3
namespace Go.Proofs.Ytnacdfoejmjlgaa.rd
open Go.RowKit

set_option maxHeartbeats 2000000 in
theorem kinds_any (w : World) (R : Nat) (a : Option Addr) (len cap : Nat) (h : Rd w R a len cap) (most : Nat) (h1 : 1 ≤ most) (h2 : most ≤ 1000) :
    Calls Try.prog 51 #[.pointer (some ⟨R, 0, none⟩), .int .i64 (most : Int)] w fun e w' => ∃ s : ByteArray, e = .returned (.string s) ∧ 1 ≤ s.size ∧ s.size ≤ most ∧ Rd w' R a len cap ∧ w.grownBy w' (some R) := by
  have HR : Hid (Rd w R a len cap) := h
  clear h
  go_enter Try.func51, Try.ntmps51
  go_wp2_with fail
  refine (below_pos _ R a len cap HR.out (most : Int) (by omega) (by omega)).mono ?_
  rintro e w1 ⟨v, rfl, hv, hr1, hb1⟩
  have HR1 : Hid (Rd w1 R a len cap) := hr1
  have HG1 : Hid (w.grownBy w1 (some R)) := hb1
  clear hr1 hb1
  go_wp2
  go_loopw [5, 6] (fun t i wr => ∃ (s : ByteArray) (k : Nat), t = .string s ∧ i = .int .i64 (k : Int) ∧ s.size + k = v + 1 ∧ Rd wr R a len cap ∧ w.grownBy wr (some R)) (fun _ i _ => (intOf i).toNat)
  case atStart => exact ⟨⟨#[]⟩, v + 1, rfl, by go_num, by show 0 + (v + 1) = v + 1; omega, HR1.out, HG1.out⟩
  case round =>
    obtain ⟨s, k, rfl, rfl, hsk, hrr, hgr⟩ := hrel
    have HRr : Hid (Rd wr R a len cap) := hrr
    have HGr : Hid (w.grownBy wr (some R)) := hgr
    clear hrr hgr
    by_cases hk : 0 < k
    · have hki : (0 : Int) < (k : Int) := by omega
      go_wp2_with fail
      refine (below_pos _ R a len cap (HRr.out.alloc _) 2 (by omega) (by omega)).mono ?_
      rintro e w2 ⟨u, rfl, hu, hr2, hb2⟩
      have HR2 : Hid (Rd w2 R a len cap) := hr2
      have hsz := HRr.out.size
      have hne : some wr.heap.size ≠ some R := by simp; omega
      have c0 := hb2.cell (a := ⟨wr.heap.size, 0, none⟩) (by rw [World.cell?_alloc_new]; rfl) hne
      have c1 := hb2.cell (a := ⟨wr.heap.size, 1, none⟩) (by rw [World.cell?_alloc_new]; rfl) hne
      have HG : Hid (w.grownBy w2 (some R)) := gtrans (galloc HGr.out _) hb2
      clear hr2 hb2 hsz hne
      have hs1 : s.size + 1 ≤ 2000 := by omega
      have hcase : u = 0 ∨ u = 1 := by omega
      rcases hcase with rfl | rfl
      all_goals
        go_wp2
        go_roundw
        case rel => exact ⟨_, k - 1, rfl, by go_num, by rw [ByteArray.size_append]; show s.size + 1 + (k - 1) = v + 1; omega, HR2.out, HG.out⟩
        case measure => simp [intOf]; omega
    · have hk0 : k = 0 := by omega
      subst hk0
      go_wp2
      go_ret
      exact ⟨s, rfl, by omega, by omega, HRr.out, HGr.out⟩
end Go.Proofs.Ytnacdfoejmjlgaa.rd
