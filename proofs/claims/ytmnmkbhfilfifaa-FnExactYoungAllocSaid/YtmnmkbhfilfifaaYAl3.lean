/-
  A new object, by the specification.
-/
import Derived.Test.YtmnmkbhfilfifaaYSet2
import Derived.Test.YtmnmkbhfilfifaaYZer
namespace Go.Proofs.Ytmnmkbhfilfifaa.nu
open Go.RowKit
open kinds ints ref obj

set_option maxHeartbeats 2000000 in
set_option maxRecDepth 20000 in
theorem spec_l8own_pos (w : World) (z : Int) (a2 : Option Addr) (n vcap : Nat) (ws : List Int) (hx : ws.length = n) (h0 : 0 < n) (hn4 : n ≤ 1048576) (hv : Nums w a2 ws) :
    Calls Try.prog 50 #[.agg #[.int .i64 z, .slice a2 n vcap]] w fun e w' => ∃ g c, e = .returned (.agg #[.int .i64 z, .slice (some ⟨g, 0, none⟩) n c]) ∧ w'.ownsRow w.heap.size 2 1 (.slice (some ⟨g, 0, none⟩) n c) n (ws.map (Value.int .i64)) ∧ Below w.heap.size w w' := by
  obtain ⟨i0, hi, hzz⟩ := Option.map_eq_some_iff.1 infoInt64
  simp only [Prod.mk.injEq] at hzz
  obtain ⟨hz0, hz1, hz2⟩ := hzz
  obtain ⟨W, hW⟩ : ∃ W, W = (w.alloc (.cells #[.int .i64 z, .slice a2 n vcap] 30)).alloc (.cells #[.int .i64 0, .slice none 0 0] 30) := ⟨_, rfl⟩
  have HW : Hid (W = (w.alloc (.cells #[.int .i64 z, .slice a2 n vcap] 30)).alloc (.cells #[.int .i64 0, .slice none 0 0] 30)) := hW
  obtain ⟨hb0, hsz, c0, c1, r0, r1, rf⟩ := boxT _ w z a2 n vcap W hW
  obtain ⟨b, off, rfl, hx9⟩ := (hv.below hb0) 0 (by omega)
  clear hx9
  have HCS : Hid (∀ w', Below W.heap.size W w' → w'.cell? ⟨w.heap.size, 0, none⟩ = some (.int .i64 z) ∧ w'.cell? ⟨w.heap.size, 1, none⟩ = some (.slice (some ⟨b, off, none⟩) n vcap)) := fun w' h =>
    ⟨by rw [h.cell (p := ⟨w.heap.size, 0, none⟩) (by show w.heap.size < _; omega)]; exact c0, by rw [h.cell (p := ⟨w.heap.size, 1, none⟩) (by show w.heap.size < _; omega)]; exact c1⟩
  have HC2 : Hid (∀ w' x0 x1, Below W.heap.size W w' → ((w'.setCell ⟨w.heap.size + 1, 0, none⟩ x0).setCell ⟨w.heap.size + 1, 1, none⟩ x1).cell? ⟨w.heap.size, 0, none⟩ = some (.int .i64 z) ∧ ((w'.setCell ⟨w.heap.size + 1, 0, none⟩ x0).setCell ⟨w.heap.size + 1, 1, none⟩ x1).cell? ⟨w.heap.size, 1, none⟩ = some (.slice (some ⟨b, off, none⟩) n vcap)) := fun w' x0 x1 h =>
    ⟨by rw [World.cell?_setCell_other _ _ _ _ (cell_ne2 _ _ _ _ (by omega)), World.cell?_setCell_other _ _ _ _ (cell_ne2 _ _ _ _ (by omega))]; exact (HCS.out w' h).1, by rw [World.cell?_setCell_other _ _ _ _ (cell_ne2 _ _ _ _ (by omega)), World.cell?_setCell_other _ _ _ _ (cell_ne2 _ _ _ _ (by omega))]; exact (HCS.out w' h).2⟩
  have HRS : Hid (∀ w', Below W.heap.size W w' → w'.cell? ⟨w.heap.size + 1, 0, none⟩ = some (.int .i64 0) ∧ w'.cell? ⟨w.heap.size + 1, 1, none⟩ = some (.slice none 0 0) ∧ ∀ k, w'.frozen? ⟨w.heap.size + 1, k, none⟩ = false) := fun w' h =>
    ⟨by rw [h.cell (p := ⟨w.heap.size + 1, 0, none⟩) (by show w.heap.size + 1 < _; omega)]; exact r0, by rw [h.cell (p := ⟨w.heap.size + 1, 1, none⟩) (by show w.heap.size + 1 < _; omega)]; exact r1, fun k => by rw [h.frozen (p := ⟨w.heap.size + 1, k, none⟩) (by show w.heap.size + 1 < _; omega)]; exact rf k⟩
  have HB0 : Hid (Below w.heap.size w W) := hb0
  have HSZ : Hid (W.heap.size = w.heap.size + 2) := hsz
  have HBX : Hid (Below W.heap.size W (W.alloc (.cells #[] 2)).drew) := ((Below.refl _ _).alloc (Nat.le_refl _) _).drew
  have HBd : Hid (Below W.heap.size W W.drew) := (Below.refl _ _).drew
  have HOX : Hid ((W.alloc (.cells #[] 2)).drew.ownsRow W.heap.size 2 1 (.slice (some ⟨W.heap.size, 0, none⟩) 0 0) 0 []) :=
    ⟨rfl, .inr ⟨W.heap.size, 0, #[], rfl, Nat.le_refl _, heap_alloc_new W _, Nat.le_refl _, Nat.zero_le _, rfl, rfl⟩⟩
  have HNU : Hid (Nums W (some ⟨b, off, none⟩) ws) := hv.below hb0
  have HNC : Hid (∀ j u, (ws.map (Value.int .i64))[j]? = some u → (W.alloc (.cells #[] 2)).drew.cell? ((⟨b, off, none⟩ : Addr).add j) = some u) := fun j u hj => by
    rw [List.getElem?_map] at hj
    obtain ⟨y, hy, rfl⟩ := Option.map_eq_some_iff.1 hj
    obtain ⟨hj', rfl⟩ := List.getElem?_eq_some_iff.1 hy
    obtain ⟨b', off', e, hc⟩ := (HNU.out.below HBX.out) j hj'
    simp only [Option.some.injEq, Addr.mk.injEq, and_true] at e
    obtain ⟨rfl, e2⟩ := e
    have hadd : (⟨b, off, none⟩ : Addr).add j = ⟨b, off + j, none⟩ := by unfold Addr.add; split <;> simp_all
    rw [hadd, e2]
    exact hc
  have HVN : Hid (ws.length = n) := hx
  have HLN : Hid ((ws.map (Value.int .i64)).length = n * 1) := by show (ws.map (Value.int .i64)).length = _; rw [List.length_map, HVN.out]; omega
  have H1C : Hid (∀ u ∈ ws.map (Value.int .i64), u.oneCell' = true) := fun u hu => by
    obtain ⟨y, _, rfl⟩ := List.mem_map.1 hu
    rfl
  have HN0 : Hid (0 < n) := h0
  have HN4 : Hid (n ≤ 1048576) := hn4
  clear hW hb0 hsz r0 r1 rf hv HNU hx
  go_enter Try.func50, Try.ntmps50
  go_wp2_with (rw [← HW.out])
  go_region_held3 (fun w' => w'.cell? ⟨w.heap.size, 0, none⟩ = some (.int .i64 z) ∧ w'.cell? ⟨w.heap.size, 1, none⟩ = some (.slice (some ⟨b, off, none⟩) n vcap))
      (first | with_reducible exact HCS.out _ HBd.out | with_reducible exact HCS.out _ HBX.out | with_reducible exact HCS.out _ h6 | with_reducible exact HC2.out _ _ _ h6)
      ((refine step_append_lies _ (by rfl) _ _ _ (by rfl) W.heap.size 2 i0 (.int .i64 0) 1 8 Try.underlying23 hi hz0 hz1 hz2 rfl (by decide) (.slice (some ⟨W.heap.size, 0, none⟩) 0 0) 0 [] (by rfl) HOX.out ⟨b, off, none⟩ n vcap (ws.map (Value.int .i64)) (by rfl) HLN.out HNC.out H1C.out HN0.out (by have := HN4.out; unfold maxLen; omega) (by have := HN4.out; omega) HBX.out.size _ rfl ?_; intro g cp w6 hown6 hgrow6 hat6 hlt6; have h6 : Below W.heap.size W w6 := own_step HOX.out HBX.out HBX.out.size hgrow6; obtain ⟨t0, t1, tf⟩ := HRS.out w6 h6; have y0 := tf 0; have y1 := tf 1))
  all_goals
    have hraw : w6.ownsRow W.heap.size 2 1 (.slice (some ⟨g, 0, none⟩) n cp) n (ws.map (Value.int .i64)) := by
      simpa using hown6
    have hgl := (hraw.lt g rfl).1
    have HRW : Hid (w6.ownsRow w.heap.size 2 1 (.slice (some ⟨g, 0, none⟩) n cp) n (ws.map (Value.int .i64))) := own_mono hraw HB0.out.size
    have HG6 : Hid (w.heap.size + 2 ≤ g) := by show w.heap.size + 2 ≤ g; have := HSZ.out; omega
    have HB6 : Hid (Below w.heap.size w w6) := HB0.out.trans (h6.mono HB0.out.size)
    have HP6 : Hid (∀ x0 x1, _) := pair_set t0 t1
    clear hown6 hraw hgrow6 hat6 hlt6 h6 hgl c0 c1
    go_wp2
    refine bodyPost_ret (v := .agg #[.int .i64 z, .slice (some ⟨g, 0, none⟩) n cp]) ?_ rfl ⟨g, cp, rfl, (HRW.out.kept (grown_set _ _ _ _) (.inr (by have := HG6.out; simp [Value.ownBlock]; omega))).kept (grown_set _ _ _ _) (.inr (by have := HG6.out; simp [Value.ownBlock]; omega)), (HB6.out.setCell (p := ⟨w.heap.size + 1, 0, none⟩) (by show w.heap.size ≤ w.heap.size + 1; omega) _).setCell (p := ⟨w.heap.size + 1, 1, none⟩) (by show w.heap.size ≤ w.heap.size + 1; omega) _⟩
    obtain ⟨q0, q1⟩ := HP6.out (.int .i64 z) (.slice (some ⟨g, 0, none⟩) n cp)
    simp [results, Try.results50, go_sem, q0, q1]
theorem append_nix (w : World) (g : Nat) (a : Option Addr) (cap : Nat) : (Builtin.append_ #[23, 23] 23 #[.slice (some ⟨g, 0, none⟩) 0 0, .slice a 0 cap]).run Try.prog w = .ok (.slice (some ⟨g, 0, none⟩) 0 0) w := by
  cases a <;> kernel_rfl
set_option maxHeartbeats 2000000 in
set_option maxRecDepth 20000 in
theorem spec_l8own_none (w : World) (z : Int) (a2 : Option Addr) (vcap : Nat) :
    Calls Try.prog 50 #[.agg #[.int .i64 z, .slice a2 0 vcap]] w fun e w' => ∃ g c, e = .returned (.agg #[.int .i64 z, .slice (some ⟨g, 0, none⟩) 0 c]) ∧ w'.ownsRow w.heap.size 2 1 (.slice (some ⟨g, 0, none⟩) 0 c) 0 [] ∧ Below w.heap.size w w' := by
  have HNN : Hid (∀ x0 x1 y0 y1 : Value, ((((w.alloc (.cells #[x0, x1] 30)).alloc (.cells #[y0, y1] 30)).alloc (.cells #[] 2)).drew).ownsRow w.heap.size 2 1 (.slice (some ⟨w.heap.size + 1 + 1, 0, none⟩) 0 0) 0 []) := fun x0 x1 y0 y1 =>
    ⟨rfl, .inr ⟨w.heap.size + 1 + 1, 0, #[], rfl, by omega, by
      have := heap_alloc_new ((w.alloc (.cells #[x0, x1] 30)).alloc (.cells #[y0, y1] 30)) (.cells #[] 2)
      simp only [World.size_alloc] at this
      exact this, Nat.le_refl _, Nat.zero_le _, rfl, rfl⟩⟩
  cases a2 with
  | none =>
    go_enter Try.func50, Try.ntmps50
    go_wp2
    go_region
    all_goals
      go_wp2
      refine bodyPost_ret (v := .agg #[.int .i64 z, .slice (some ⟨w.heap.size + 1 + 1, 0, none⟩) 0 0]) (by simp [results, Try.results50, go_sem]) rfl ?_
      exact ⟨_, _, rfl, HNN.out _ _ _ _, by go_grown⟩
  | some a =>
    go_enter Try.func50, Try.ntmps50
    go_wp2
    go_region
    all_goals
      go_wp2
      refine bodyPost_ret (v := .agg #[.int .i64 z, .slice (some ⟨w.heap.size + 1 + 1, 0, none⟩) 0 0]) (by simp [results, Try.results50, go_sem]) rfl ?_
      exact ⟨_, _, rfl, HNN.out _ _ _ _, by go_grown⟩
theorem spec_l8own (w : World) (z : Int) (a2 : Option Addr) (n vcap : Nat) (ws : List Int) (hx : ws.length = n) (hn4 : n ≤ 1048576) (hv : Nums w a2 ws) :
    Calls Try.prog 50 #[.agg #[.int .i64 z, .slice a2 n vcap]] w fun e w' => ∃ g c, e = .returned (.agg #[.int .i64 z, .slice (some ⟨g, 0, none⟩) n c]) ∧ w'.ownsRow w.heap.size 2 1 (.slice (some ⟨g, 0, none⟩) n c) n (ws.map (Value.int .i64)) ∧ Below w.heap.size w w' := by
  by_cases h0 : n = 0
  · subst h0
    obtain rfl := List.length_eq_zero_iff.1 hx
    exact spec_l8own_none w z a2 vcap
  · exact spec_l8own_pos w z a2 n vcap ws hx (by omega) hn4 hv
end Go.Proofs.Ytmnmkbhfilfifaa.nu
