/-
  The configs that laws draw.
-/
import Derived.Test.YtpkdkkjdlhillaaDoorHurtC
namespace Go.Proofs.YtpkdkkjdlhillaaDoor.rd
open Go.RowKit
open txt ints

set_option maxHeartbeats 1000000 in
set_option maxRecDepth 20000 in
theorem draw_format (w : World) (a : Option Addr) (len cap : Nat) (hs : len ≤ 1048576) (hc : RdCode w w.heap.size a len) :
    Calls Tryd.prog 16 #[.slice a len cap] w fun e w' => CfDrawn w e w' := by
  obtain ⟨V, hV⟩ : ∃ V, V = w.alloc (.cells #[.int .i64 0, .int .i64 0, .int .i64 0, .slice none 0 0] 26) := ⟨_, rfl⟩
  have HV : Hid (V = w.alloc (.cells #[.int .i64 0, .int .i64 0, .int .i64 0, .slice none 0 0] 26)) := hV
  have hVS : V.heap.size = w.heap.size + 1 := by rw [hV]; simp
  have hVB : Below w.heap.size w V := by rw [hV]; exact (Below.refl _ _).alloc (Nat.le_refl _) _
  have HVS : Hid (V.heap.size = w.heap.size + 1) := hVS
  have HVB : Hid (Below w.heap.size w V) := hVB
  have HVC : Hid (∀ i, i < 4 → (∃ v, V.cell? ⟨w.heap.size, i, none⟩ = some v) ∧ V.frozen? ⟨w.heap.size, i, none⟩ = false) := fun i hi => by
    rw [hV, World.cell?_alloc_new]
    exact ⟨⟨_, Array.getElem?_eq_getElem (by simpa using hi)⟩, World.frozen?_alloc_new _ _ _ _⟩
  have HC : Hid (Calls _ _ _ V _) := draw_configok V a len cap hs (hc.below hVB (by rw [hVS]; omega))
  clear hc hV hVS hVB
  go_enter Tryd.func16, Tryd.ntmps16
  go_wp2_with (rw [← HV.out])
  refine HC.out.mono ?_
  rintro e w3 ⟨m1, m2, m3, aw, cw, ys, rfl, hw1, hw2, hw3, hyl, hyz, ⟨gw, hgw, htw⟩, hb3⟩
  have HB3 : Hid (Below V.heap.size V w3) := hb3
  have HTW : Hid (Txts w3 aw gw ys) := htw
  have HGW : Hid (V.heap.size ≤ gw) := hgw
  have HW : Hid ((Lit.int .i64 m1).wf = true ∧ (Lit.int .i64 m2).wf = true ∧ (Lit.int .i64 m3).wf = true ∧ ys.length ≤ 13 ∧ ∀ y ∈ ys, y.size ≤ 26) := ⟨hw1, hw2, hw3, hyl, hyz⟩
  have HK : Hid (∀ i, i < 4 → (∃ v, w3.cell? ⟨w.heap.size, i, none⟩ = some v) ∧ w3.frozen? ⟨w.heap.size, i, none⟩ = false) := fun i hi => by
    obtain ⟨⟨v, hv⟩, hf⟩ := HVC.out i hi
    have hlt : w.heap.size < V.heap.size := by rw [HVS.out]; omega
    exact ⟨⟨v, by rw [HB3.out.cell (p := ⟨w.heap.size, i, none⟩) hlt]; exact hv⟩, by rw [HB3.out.frozen (p := ⟨w.heap.size, i, none⟩) hlt]; exact hf⟩
  obtain ⟨⟨⟨x0, z0⟩, r0⟩, ⟨⟨x1, z1⟩, r1⟩, ⟨⟨x2, z2⟩, r2⟩, ⟨⟨x3, z3⟩, r3⟩⟩ := And.intro (HK.out 0 (by decide)) (And.intro (HK.out 1 (by decide)) (And.intro (HK.out 2 (by decide)) (HK.out 3 (by decide))))
  have HQ : Hid (_ ∧ _ ∧ _ ∧ _) := got4 (fun i hi => (HK.out i hi).1) (.int .i64 m1) (.int .i64 m2) (.int .i64 m3) (.slice aw ys.length cw)
  clear hb3 htw hgw hw1 hw2 hw3 hyl hyz
  have HE : Hid (Below w.heap.size w (put4 w3 w.heap.size (.int .i64 m1) (.int .i64 m2) (.int .i64 m3) (.slice aw ys.length cw)) ∧ Txts (put4 w3 w.heap.size (.int .i64 m1) (.int .i64 m2) (.int .i64 m3) (.slice aw ys.length cw)) aw gw ys) := by
    refine ⟨?_, HTW.out.grown (r := w.heap.size) (grown_trans (grown_trans (grown_trans (grown_set _ _ _ _) (grown_set _ _ _ _)) (grown_set _ _ _ _)) (grown_set _ _ _ _)) (fun _ => by have := HGW.out; have := HVS.out; omega)⟩
    have h0 : Below w.heap.size w w3 := HVB.out.trans (HB3.out.mono HVB.out.size)
    exact (((h0.setCell (p := ⟨w.heap.size, 0, none⟩) (Nat.le_refl _) _).setCell (p := ⟨w.heap.size, 1, none⟩) (Nat.le_refl _) _).setCell (p := ⟨w.heap.size, 2, none⟩) (Nat.le_refl _) _).setCell (p := ⟨w.heap.size, 3, none⟩) (Nat.le_refl _) _
  go_wp2
  refine bodyPost_ret (v := .agg #[.int .i64 m1, .int .i64 m2, .int .i64 m3, .slice aw ys.length cw]) ?_ rfl ⟨m1, m2, m3, aw, cw, ys, rfl, HW.out.1, HW.out.2.1, HW.out.2.2.1, HW.out.2.2.2.1, HW.out.2.2.2.2, ⟨gw, by have := HGW.out; have := HVS.out; omega, HE.out.2⟩, HE.out.1⟩
  obtain ⟨q0, q1, q2, q3⟩ := HQ.out
  unfold put4 at q0 q1 q2 q3
  simp [results, Tryd.results16, go_sem, q0, q1, q2, q3]
set_option maxHeartbeats 1000000 in
set_option maxRecDepth 20000 in
theorem draw_superline (w : World) (a : Option Addr) (len cap : Nat) (hs : len ≤ 1048576) (hc : RdCode w w.heap.size a len) :
    Calls Tryd.prog 7 #[.slice a len cap] w fun e w' => CfDrawn w e w' := by
  obtain ⟨V, hV⟩ : ∃ V, V = w.alloc (.cells #[.int .i64 0, .int .i64 0, .int .i64 0, .slice none 0 0] 26) := ⟨_, rfl⟩
  have HV : Hid (V = w.alloc (.cells #[.int .i64 0, .int .i64 0, .int .i64 0, .slice none 0 0] 26)) := hV
  have hVS : V.heap.size = w.heap.size + 1 := by rw [hV]; simp
  have hVB : Below w.heap.size w V := by rw [hV]; exact (Below.refl _ _).alloc (Nat.le_refl _) _
  have HVS : Hid (V.heap.size = w.heap.size + 1) := hVS
  have HVB : Hid (Below w.heap.size w V) := hVB
  have HVC : Hid (∀ i, i < 4 → (∃ v, V.cell? ⟨w.heap.size, i, none⟩ = some v) ∧ V.frozen? ⟨w.heap.size, i, none⟩ = false) := fun i hi => by
    rw [hV, World.cell?_alloc_new]
    exact ⟨⟨_, Array.getElem?_eq_getElem (by simpa using hi)⟩, World.frozen?_alloc_new _ _ _ _⟩
  have HC : Hid (Calls _ _ _ V _) := draw_configok V a len cap hs (hc.below hVB (by rw [hVS]; omega))
  clear hc hV hVS hVB
  go_enter Tryd.func7, Tryd.ntmps7
  go_wp2_with (rw [← HV.out])
  refine HC.out.mono ?_
  rintro e w3 ⟨m1, m2, m3, aw, cw, ys, rfl, hw1, hw2, hw3, hyl, hyz, ⟨gw, hgw, htw⟩, hb3⟩
  have HB3 : Hid (Below V.heap.size V w3) := hb3
  have HTW : Hid (Txts w3 aw gw ys) := htw
  have HGW : Hid (V.heap.size ≤ gw) := hgw
  have HW : Hid ((Lit.int .i64 m1).wf = true ∧ (Lit.int .i64 m2).wf = true ∧ (Lit.int .i64 m3).wf = true ∧ ys.length ≤ 13 ∧ ∀ y ∈ ys, y.size ≤ 26) := ⟨hw1, hw2, hw3, hyl, hyz⟩
  have HK : Hid (∀ i, i < 4 → (∃ v, w3.cell? ⟨w.heap.size, i, none⟩ = some v) ∧ w3.frozen? ⟨w.heap.size, i, none⟩ = false) := fun i hi => by
    obtain ⟨⟨v, hv⟩, hf⟩ := HVC.out i hi
    have hlt : w.heap.size < V.heap.size := by rw [HVS.out]; omega
    exact ⟨⟨v, by rw [HB3.out.cell (p := ⟨w.heap.size, i, none⟩) hlt]; exact hv⟩, by rw [HB3.out.frozen (p := ⟨w.heap.size, i, none⟩) hlt]; exact hf⟩
  obtain ⟨⟨⟨x0, z0⟩, r0⟩, ⟨⟨x1, z1⟩, r1⟩, ⟨⟨x2, z2⟩, r2⟩, ⟨⟨x3, z3⟩, r3⟩⟩ := And.intro (HK.out 0 (by decide)) (And.intro (HK.out 1 (by decide)) (And.intro (HK.out 2 (by decide)) (HK.out 3 (by decide))))
  have HQ : Hid (_ ∧ _ ∧ _ ∧ _) := got4 (fun i hi => (HK.out i hi).1) (.int .i64 m1) (.int .i64 m2) (.int .i64 m3) (.slice aw ys.length cw)
  clear hb3 htw hgw hw1 hw2 hw3 hyl hyz
  have HE : Hid (Below w.heap.size w (put4 w3 w.heap.size (.int .i64 m1) (.int .i64 m2) (.int .i64 m3) (.slice aw ys.length cw)) ∧ Txts (put4 w3 w.heap.size (.int .i64 m1) (.int .i64 m2) (.int .i64 m3) (.slice aw ys.length cw)) aw gw ys) := by
    refine ⟨?_, HTW.out.grown (r := w.heap.size) (grown_trans (grown_trans (grown_trans (grown_set _ _ _ _) (grown_set _ _ _ _)) (grown_set _ _ _ _)) (grown_set _ _ _ _)) (fun _ => by have := HGW.out; have := HVS.out; omega)⟩
    have h0 : Below w.heap.size w w3 := HVB.out.trans (HB3.out.mono HVB.out.size)
    exact (((h0.setCell (p := ⟨w.heap.size, 0, none⟩) (Nat.le_refl _) _).setCell (p := ⟨w.heap.size, 1, none⟩) (Nat.le_refl _) _).setCell (p := ⟨w.heap.size, 2, none⟩) (Nat.le_refl _) _).setCell (p := ⟨w.heap.size, 3, none⟩) (Nat.le_refl _) _
  go_wp2
  refine bodyPost_ret (v := .agg #[.int .i64 m1, .int .i64 m2, .int .i64 m3, .slice aw ys.length cw]) ?_ rfl ⟨m1, m2, m3, aw, cw, ys, rfl, HW.out.1, HW.out.2.1, HW.out.2.2.1, HW.out.2.2.2.1, HW.out.2.2.2.2, ⟨gw, by have := HGW.out; have := HVS.out; omega, HE.out.2⟩, HE.out.1⟩
  obtain ⟨q0, q1, q2, q3⟩ := HQ.out
  unfold put4 at q0 q1 q2 q3
  simp [results, Tryd.results7, go_sem, q0, q1, q2, q3]
end Go.Proofs.YtpkdkkjdlhillaaDoor.rd
