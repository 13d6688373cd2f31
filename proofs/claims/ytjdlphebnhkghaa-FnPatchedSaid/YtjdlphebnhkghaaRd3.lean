/-
  More of the specification's reader: numbers near a range or just outside, hurt texts.
-/
import Derived.Test.YtjdlphebnhkghaaRd2
import Derived.Deep.RegionWith
namespace Go.Proofs.Ytjdlphebnhkghaa.rd
open Go.RowKit
open wmath

set_option maxHeartbeats 400000 in
theorem near_any (w : World) (R : Nat) (a : Option Addr) (len cap : Nat) (h : Rd w R a len cap) (low high : Int) (h0 : -1073741824 ≤ low) (h1 : low ≤ high) (h2 : high ≤ 1073741824) :
    Calls Try.prog 72 #[.pointer (some ⟨R, 0, none⟩), .int .i64 low, .int .i64 high] w fun e w' => ∃ n : Int, e = .returned (.int .i64 n) ∧ low ≤ n ∧ n ≤ high ∧ Rd w' R a len cap ∧ w.grownBy w' (some R) := by
  have HR : Hid (Rd w R a len cap) := h
  clear h
  go_enter Try.func72, Try.ntmps72
  go_wp2_with fail
  refine (below_pos _ R a len cap HR.out 8 (by omega) (by omega)).mono ?_
  rintro e w1 ⟨v, rfl, hv, hr1, hb1⟩
  have HR1 : Hid (Rd w1 R a len cap) := hr1
  clear hr1
  by_cases hv0 : v = 0
  · subst hv0
    go_wp2
    go_ret
    exact ⟨low, rfl, by omega, by omega, HR1.out, hb1⟩
  · by_cases hv1 : v = 1
    · subst hv1
      go_wp2
      go_ret
      exact ⟨high, rfl, by omega, by omega, HR1.out, hb1⟩
    · have e0 : ((v : Int) == 0) = false := by simp; omega
      have e1 : ((v : Int) == 1) = false := by simp; omega
      have hlh : ¬ high < low := by omega
      go_wp2_with fail
      refine (word_any _ R a len cap HR1.out).mono ?_
      rintro e w2 ⟨u, rfl, hu, hr2, hb2⟩
      have HR2 : Hid (Rd w2 R a len cap) := hr2
      clear hr2
      go_wp2
      go_ret
      have hx0 := Int.emod_nonneg ((u : Int) / 2) (show high - low + 1 ≠ 0 by omega)
      have hx1 := Int.emod_lt_of_pos ((u : Int) / 2) (show 0 < high - low + 1 by omega)
      generalize (u : Int) / 2 % (high - low + 1) = x at hx0 hx1
      refine ⟨low + x, ?_, by omega, by omega, HR2.out, gtrans hb1 hb2⟩
      refine (ret_int ?_ : Ending.returned (.int .i64 (wrap64 (low + wrap64 x))) = _)
      unfold wrap64
      omega
theorem of_four (x0 x1 x2 x3 : ByteArray) (h0 : x0.size = 1) (h1 : x1.size = 1) (h2 : x2.size = 1) (h3 : x3.size = 1) (u : Nat) (hu : (u : Int) < 4) :
    ∃ x : ByteArray, x.size = 1 ∧ #[Value.string x0, .string x1, .string x2, .string x3][u]? = some (.string x) := by
  have hcase : u = 0 ∨ u = 1 ∨ u = 2 ∨ u = 3 := by omega
  rcases hcase with rfl | rfl | rfl | rfl
  · exact ⟨x0, h0, rfl⟩
  · exact ⟨x1, h1, rfl⟩
  · exact ⟨x2, h2, rfl⟩
  · exact ⟨x3, h3, rfl⟩

set_option maxHeartbeats 1000000 in
theorem off_any (w : World) (R : Nat) (a : Option Addr) (len cap : Nat) (h : Rd w R a len cap) (low high : Int) (h0 : -1073741823 ≤ low) (h1 : low ≤ high) (h2 : high ≤ 1073741823) :
    Calls Try.prog 56 #[.pointer (some ⟨R, 0, none⟩), .int .i64 low, .int .i64 high] w fun e w' => ∃ n : Int, e = .returned (.int .i64 n) ∧ (Lit.int .i64 n).wf = true ∧ Rd w' R a len cap ∧ w.grownBy w' (some R) := by
  have HR : Hid (Rd w R a len cap) := h
  clear h
  go_enter Try.func56, Try.ntmps56
  go_wp2_with fail
  refine (once_any _ R a len cap HR.out 24 (by omega) (by omega)).mono ?_
  rintro e w1 ⟨v, rfl, hr1, hb1⟩
  have HR1 : Hid (Rd w1 R a len cap) := hr1
  clear hr1
  cases v
  · go_wp2_with fail
    refine (near_any _ R a len cap HR1.out low high (by omega) (by omega) (by omega)).mono ?_
    rintro e w2 ⟨n, rfl, hn0, hn1, hr2, hb2⟩
    have HR2 : Hid (Rd w2 R a len cap) := hr2
    clear hr2
    go_wp2
    go_ret
    exact ⟨n, rfl, wf_i64 _ (by omega) (by omega), HR2.out, gtrans hb1 hb2⟩
  · go_wp2_with fail
    refine (below_pos _ R a len cap (HR1.out.alloc _) 4 (by omega) (by omega)).mono ?_
    rintro e w2 ⟨u, rfl, hu, hr2, hb2⟩
    have HR2 : Hid (Rd w2 R a len cap) := hr2
    have hsz := HR1.out.size
    have hne : some w1.heap.size ≠ some R := by simp; omega
    have c0 := hb2.cell (a := ⟨w1.heap.size, 0, none⟩) (by rw [World.cell?_alloc_new]; rfl) hne
    have c1 := hb2.cell (a := ⟨w1.heap.size, 1, none⟩) (by rw [World.cell?_alloc_new]; rfl) hne
    have c2 := hb2.cell (a := ⟨w1.heap.size, 2, none⟩) (by rw [World.cell?_alloc_new]; rfl) hne
    have c3 := hb2.cell (a := ⟨w1.heap.size, 3, none⟩) (by rw [World.cell?_alloc_new]; rfl) hne
    have HG : Hid (w.grownBy w2 (some R)) := gtrans (galloc hb1 _) hb2
    clear hr2 hb2 hsz hne
    have hcase : u = 0 ∨ u = 1 ∨ u = 2 ∨ u = 3 := by omega
    rcases hcase with rfl | rfl | rfl | rfl
    all_goals
      go_wp2
      go_ret
      exact ⟨_, rfl, wf_i64 _ (by omega) (by omega), HR2.out, HG.out⟩
theorem tbl_cell {w2 w3 : World} {R u : Nat} {C : Array Value} {T : TypeId} {x : Value} (h : (w2.alloc (.cells C T)).drew.grownBy w3 (some R)) (hR : R < w2.heap.size) (hx : C[u]? = some x) : w3.cell? ⟨w2.heap.size, u, none⟩ = some x := by
  refine h.cell (a := ⟨w2.heap.size, u, none⟩) ?_ (fun e => Nat.ne_of_gt hR (by simpa using e))
  show (w2.alloc (.cells C T)).cell? ⟨w2.heap.size, u, none⟩ = _
  rw [World.cell?_alloc_new]; exact hx
theorem Rd.drew {w : World} {R : Nat} {a : Option Addr} {len cap : Nat} (h : Rd w R a len cap) : Rd w.drew R a len cap := h.draws 1
theorem gdrew {a w : World} {row : Option Nat} (h : a.grownBy w row) : a.grownBy w.drew row := gdraws h 1

set_option maxHeartbeats 1000000 in
theorem hurt_any (w : World) (R : Nat) (a : Option Addr) (len cap : Nat) (h : Rd w R a len cap) (s : ByteArray) (hs : s.size ≤ 1048576) :
    Calls Try.prog 42 #[.pointer (some ⟨R, 0, none⟩), .string s] w fun e w' => ∃ t : ByteArray, e = .returned (.string t) ∧ t.size ≤ s.size + 1 ∧ Rd w' R a len cap ∧ w.grownBy w' (some R) := by
  have HR : Hid (Rd w R a len cap) := h
  clear h
  go_enter Try.func42, Try.ntmps42
  go_wp2_with fail
  refine (below_pos _ R a len cap HR.out 6 (by omega) (by omega)).mono ?_
  rintro e w1 ⟨v, rfl, hv, hr1, hb1⟩
  have HR1 : Hid (Rd w1 R a len cap) := hr1
  clear hr1
  by_cases hv1 : v = 1
  · subst hv1
    go_wp2_with fail
    refine (below_pos _ R a len cap HR1.out _ (by omega) (by omega)).mono ?_
    rintro e w2 ⟨u, rfl, hu, hr2, hb2⟩
    have HR2 : Hid (Rd w2 R a len cap) := hr2
    clear hr2
    go_wp2
    go_ret
    exact ⟨_, rfl, by simp; omega, HR2.out, gtrans hb1 hb2⟩
  · by_cases hv2 : v = 2
    · subst hv2
      by_cases hpos : (0 : Int) < (s.size : Int)
      · go_wp2_with fail
        refine (below_pos _ R a len cap HR1.out _ (by omega) (by omega)).mono ?_
        rintro e w2 ⟨u, rfl, hu, hr2, hb2⟩
        have HR2 : Hid (Rd w2 R a len cap) := hr2
        clear hr2
        have hsz := HR2.out.size
        have HB : Hid (w.grownBy w2 (some R)) := gtrans hb1 hb2
        have hsl : ∀ W, (Instr.slice 9 (.string s) (some (.int .i64 ((u : Int) + 1))) none none).run Try.prog W = .ok (.string (s.extract (u + 1) s.size)) W := by
          intro W
          rw [run_slice_string_from_if W 9 s .i64 ((u : Int) + 1) Try.underlying9, if_pos (by omega)]
          rfl
        have hsk : ∀ W, (Instr.slice 9 (.string s) none (some (.int .i64 (u : Int))) none).run Try.prog W = .ok (.string (s.extract 0 u)) W := by
          intro W
          rw [run_slice_string_to_if W 9 s .i64 (u : Int) Try.underlying9, if_pos (by omega)]
          rfl
        have hwr : IntKind.i64.wrap ((u : Int) + 1) = (u : Int) + 1 := by rw [IntKind.wrap_i64]; omega
        clear hb1 hb2
        go_wp2
        go_region_with (go_at_call 38; refine (below_pos _ R a len cap (by first | exact (HR2.out.alloc _).drew | exact HR2.out.drew) 4 (by omega) (by omega)).mono ?_; rintro e w3 ⟨u3, rfl, hu3, hr3, hb3⟩; obtain ⟨x, hx1, hx⟩ := of_four ⟨#[0]⟩ ⟨#[55]⟩ ⟨#[255]⟩ ⟨#[32]⟩ rfl rfl rfl rfl u3 hu3; (first | (have c0 := tbl_cell hb3 hsz hx) | skip); (first | (have HG : Hid (w.grownBy w3 (some R)) := gtrans (gdrew (galloc HB.out _)) hb3) | (have HG : Hid (w.grownBy w3 (some R)) := gtrans (gdrew HB.out) hb3)); have HR3 : Hid (Rd w3 R a len cap) := hr3; clear hr3 hb3)
        all_goals
          go_wp2
          go_ret
          refine ⟨_, rfl, by simp; omega, ?_, ?_⟩
          · first | exact Hid.out (by assumption) | exact Rd.alloc (Hid.out (by assumption)) _
          · first | exact Hid.out (by assumption) | exact galloc (Hid.out (by assumption)) _
      · go_wp2
        go_ret
        exact ⟨s, rfl, by omega, HR1.out, hb1⟩
    · by_cases hv3 : v = 3
      · subst hv3
        go_wp2_with fail
        refine (below_pos _ R a len cap (HR1.out.alloc _) 4 (by omega) (by omega)).mono ?_
        rintro e w2 ⟨u, rfl, hu, hr2, hb2⟩
        have HR2 : Hid (Rd w2 R a len cap) := hr2
        have hsz := HR1.out.size
        have hne : some w1.heap.size ≠ some R := by simp; omega
        obtain ⟨x, hx1, hx⟩ := of_four ⟨#[0]⟩ ⟨#[49]⟩ ⟨#[10]⟩ ⟨#[32]⟩ rfl rfl rfl rfl u hu
        have c0 := hb2.cell (a := ⟨w1.heap.size, u, none⟩) (by rw [World.cell?_alloc_new]; exact hx) hne
        have HG : Hid (w.grownBy w2 (some R)) := gtrans (galloc hb1 _) hb2
        clear hr2 hb2 hsz hne hx
        go_wp2
        go_ret
        exact ⟨_, rfl, by simp; omega, HR2.out, HG.out⟩
      · have e1 : ((v : Int) == 1) = false := by simp; omega
        have e2 : ((v : Int) == 2) = false := by simp; omega
        have e3 : ((v : Int) == 3) = false := by simp; omega
        go_wp2
        go_ret
        exact ⟨s, rfl, by omega, HR1.out, hb1⟩
end Go.Proofs.Ytjdlphebnhkghaa.rd
