/-
  The draws of types: texts of at most so many bytes; nothing that was there is written.
-/
import Derived.Test.YtnghhfdbibbpcacRd3
namespace Go.Proofs.Ytnghhfdbibbpcac.rd
open Go.RowKit

set_option maxHeartbeats 2000000 in
theorem kinds_any (w : World) (R : Nat) (a : Option Addr) (len cap : Nat) (h : Rd w R a len cap) (most : Nat) (h1 : 1 ≤ most) (h2 : most ≤ 1000) :
    Calls Try.prog 39 #[.pointer (some ⟨R, 0, none⟩), .int .i64 (most : Int)] w fun e w' => ∃ s : ByteArray, e = .returned (.string s) ∧ 1 ≤ s.size ∧ s.size ≤ most ∧ Rd w' R a len cap ∧ w.grownBy w' (some R) := by
  have HR : Hid (Rd w R a len cap) := h
  clear h
  go_enter Try.func39, Try.ntmps39
  go_wp2_with fail
  refine (below_pos _ R a len cap HR.out (most : Int) (by omega) (by omega)).mono ?_
  rintro e w1 ⟨v, rfl, hv, hr1, hb1⟩
  have HR1 : Hid (Rd w1 R a len cap) := hr1
  have HG1 : Hid (w.grownBy w1 (some R)) := hb1
  clear hr1 hb1
  go_wp2
  go_loopw [5, 6] (fun t i wr => ∃ (s : ByteArray) (k : Nat), t = .string s ∧ i = .int .i64 (k : Int) ∧ s.size + k = v + 1 ∧ Rd wr R a len cap ∧ w.grownBy wr (some R)) (fun _ i _ => (intOf i).toNat)
  case atStart => exact ⟨⟨#[]⟩, v + 1, rfl, by go_num, by show 0 + (v + 1) = v + 1; omega, HR1.out, HG1.out⟩
  case round =>
    obtain ⟨s, k, rfl, rfl, hsk, hrr, hgr⟩ := hrel
    have HRr : Hid (Rd wr R a len cap) := hrr
    have HGr : Hid (w.grownBy wr (some R)) := hgr
    clear hrr hgr
    by_cases hk : 0 < k
    · have hki : (0 : Int) < (k : Int) := by omega
      go_wp2_with fail
      refine (below_pos _ R a len cap (HRr.out.alloc _) 2 (by omega) (by omega)).mono ?_
      rintro e w2 ⟨u, rfl, hu, hr2, hb2⟩
      have HR2 : Hid (Rd w2 R a len cap) := hr2
      have hsz := HRr.out.size
      have hne : some wr.heap.size ≠ some R := by simp; omega
      have c0 := hb2.cell (a := ⟨wr.heap.size, 0, none⟩) (by rw [World.cell?_alloc_new]; rfl) hne
      have c1 := hb2.cell (a := ⟨wr.heap.size, 1, none⟩) (by rw [World.cell?_alloc_new]; rfl) hne
      have HG : Hid (w.grownBy w2 (some R)) := gtrans (galloc HGr.out _) hb2
      clear hr2 hb2 hsz hne
      have hs1 : s.size + 1 ≤ 2000 := by omega
      have hcase : u = 0 ∨ u = 1 := by omega
      rcases hcase with rfl | rfl
      all_goals
        go_wp2
        go_roundw
        case rel => exact ⟨_, k - 1, rfl, by go_num, by rw [ByteArray.size_append]; show s.size + 1 + (k - 1) = v + 1; omega, HR2.out, HG.out⟩
        case measure => simp [intOf]; omega
    · have hk0 : k = 0 := by omega
      subst hk0
      go_wp2
      go_ret
      exact ⟨s, rfl, by omega, by omega, HRr.out, HGr.out⟩
theorem draw_run (w : World) (a : Option Addr) (len cap : Nat) (hs : len ≤ 1048576) (hc : RdCode w w.heap.size a len) :
    Calls Try.prog 9 #[.slice a len cap] w fun e w' => ∃ s : ByteArray, e = .returned (.string s) ∧ s.size ≤ 1000 ∧ Below w.heap.size w w' := by
  have HC : Hid (RdCode w w.heap.size a len) := hc
  clear hc
  go_enter Try.func9, Try.ntmps9
  go_wp2_with fail
  refine (open_any _ a len cap hs HC.out).mono ?_
  rintro e w1 ⟨rfl, hr1, hb1⟩
  have HR1 : Hid (Rd w1 w.heap.size a len cap) := hr1
  clear hr1
  go_wp2_with fail
  refine (kinds_any _ _ a len cap HR1.out 25 (by omega) (by omega)).mono ?_
  rintro e w2 ⟨s, rfl, hs1, hs2, hr2, hb2⟩
  have HR2 : Hid (Rd w2 w.heap.size a len cap) := hr2
  have HB2 : Hid (Below w.heap.size w w2) := below_of hb1 hb2 (Nat.le_refl _) hb1.size
  clear hr2 hb1 hb2
  go_wp2_with fail
  refine (once_any _ _ a len cap HR2.out 8 (by omega) (by omega)).mono ?_
  rintro e w3 ⟨b, rfl, hr3, hb3⟩
  have HR3 : Hid (Rd w3 w.heap.size a len cap) := hr3
  have HB3 : Hid (Below w.heap.size w w3) := below_of HB2.out hb3 (Nat.le_refl _) HB2.out.size
  clear hr3 hb3
  cases b with
  | false =>
    go_wp2
    go_ret
    exact ⟨s, rfl, by omega, HB3.out⟩
  | true =>
    go_wp2_with fail
    refine (hurt_any _ _ a len cap HR3.out s (by omega)).mono ?_
    rintro e w4 ⟨t, rfl, ht, hr4, hb4⟩
    have HB4 : Hid (Below w.heap.size w w4) := below_of HB3.out hb4 (Nat.le_refl _) HB3.out.size
    clear hr4 hb4
    go_wp2
    go_ret
    exact ⟨t, rfl, by omega, HB4.out⟩
end Go.Proofs.Ytnghhfdbibbpcac.rd
