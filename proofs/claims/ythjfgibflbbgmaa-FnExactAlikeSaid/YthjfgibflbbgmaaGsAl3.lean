/-
  Two graphs compared, by the program.
-/
import Derived.Test.YthjfgibflbbgmaaGsAl2
namespace Go.Proofs.Ythjfgibflbbgmaa.gs
open Go.RowKit
open kinds ints obj ref gr cl

set_option maxHeartbeats 1000000 in
theorem sameobj_any (w : World) (t u : Int) (a b : Option Addr) (c d : Nat) (vs us : List Int) (hv : vs.length ≤ 1048576) (ha : Nums w a vs) (hb : Nums w b us) :
    Calls Try.prog 81 #[.agg #[.int .i64 t, .slice a vs.length c], .agg #[.int .i64 u, .slice b us.length d]] w fun e w' => e = .returned (.bool (decide (t = u) && decide (vs = us))) ∧ Below w.heap.size w w' := by
  obtain ⟨W, hW⟩ : ∃ W, W = (w.alloc (.cells #[.int .i64 t, .slice a vs.length c] 53)).alloc (.cells #[.int .i64 u, .slice b us.length d] 53) := ⟨_, rfl⟩
  have HW : Hid (W = (w.alloc (.cells #[.int .i64 t, .slice a vs.length c] 53)).alloc (.cells #[.int .i64 u, .slice b us.length d] 53)) := hW
  have hb0 : Below w.heap.size w W := by rw [hW]; exact ((Below.refl _ _).alloc (Nat.le_refl _) _).alloc (by simp) _
  have HB0 : Hid (Below w.heap.size w W) := hb0
  have k0 : W.cell? ⟨w.heap.size, 0, none⟩ = some (.int .i64 t) := by rw [hW, World.cell?_alloc_past _ _ _ (by simp), World.cell?_alloc_at _ _ _ _ (by simp)]; rfl
  have k1 : W.cell? ⟨w.heap.size, 1, none⟩ = some (.slice a vs.length c) := by rw [hW, World.cell?_alloc_past _ _ _ (by simp), World.cell?_alloc_at _ _ _ _ (by simp)]; rfl
  have k2 : W.cell? ⟨w.heap.size + 1, 0, none⟩ = some (.int .i64 u) := by rw [hW, World.cell?_alloc_at _ _ _ _ (by simp)]; rfl
  have k3 : W.cell? ⟨w.heap.size + 1, 1, none⟩ = some (.slice b us.length d) := by rw [hW, World.cell?_alloc_at _ _ _ _ (by simp)]; rfl
  have HE : Hid (Calls _ _ _ W _) := equal_any W a b c d vs us hv (ha.below hb0) (hb.below hb0)
  clear hW hb0 ha hb hv
  by_cases htu : t = u
  · have hq : (t == u) = true := by simp [htu]
    rw [decide_eq_true htu]
    clear htu
    generalize decide (vs = us) = z at HE ⊢
    go_enter Try.func81, Try.ntmps81
    go_wp2_with (rw [← HW.out])
    refine HE.out.mono ?_
    rintro e w2 ⟨rfl, hb2⟩
    have HB2 : Hid (Below w.heap.size w w2) := HB0.out.trans (hb2.mono HB0.out.size)
    clear hb2 k0 k1 k2 k3
    go_wp2
    go_ret
    exact ⟨rfl, HB2.out⟩
  · have hq : (t == u) = false := by simp [htu]
    rw [decide_eq_false htu]
    clear htu HE
    go_enter Try.func81, Try.ntmps81
    go_wp2_with (rw [← HW.out])
    clear k0 k1 k2 k3
    try go_wp2
    go_ret
    exact ⟨rfl, HB0.out⟩
set_option maxHeartbeats 2000000 in
set_option maxRecDepth 20000 in
theorem equalfn_any (w : World) (p2 q2 : Option Addr) (c2 d2 : Nat) (ns ms : List Nd) (hn : ns.length ≤ 1048576) (hz : ∀ x ∈ ns, x.2.length ≤ 1048576) (na : Og w p2 ns) (nb : Og w q2 ms) :
    Calls Try.prog 80 #[.slice p2 ns.length c2, .slice q2 ms.length d2, .func (.func 81) #[] #[]] w fun e w' => e = .returned (.bool (decide (ns = ms))) ∧ Below w.heap.size w w' := by
  have HNA : Hid (∀ w', Below w.heap.size w w' → Og w' p2 ns) := fun w' h => na.below h
  have HNB : Hid (∀ w', Below w.heap.size w w' → Og w' q2 ms) := fun w' h => nb.below h
  have HZ : Hid (∀ x ∈ ns, x.2.length ≤ 1048576) := hz
  clear na nb hz
  by_cases hl : ns.length = ms.length
  · have HL : Hid (ns.length = ms.length) := hl
    have hne : ((ns.length : Int) != (ms.length : Int)) = false := by rw [hl]; simp
    clear hl
    go_enter Try.func80, Try.ntmps80
    go_wp2
    go_loopw [17] (fun i wr => ∃ k : Nat, k ≤ ns.length ∧ i = .int .i64 (k : Int) ∧ Below w.heap.size w wr ∧ ns.take k = ms.take k) (fun i _ => ns.length - (intOf i).toNat)
    case atStart => exact ⟨0, Nat.zero_le _, rfl, Below.refl _ _, by simp⟩
    case round =>
      obtain ⟨k, hk, rfl, hb, htk⟩ := hrel
      have HTK : Hid (ns.take k = ms.take k) := htk
      have HB : Hid (Below w.heap.size w wr) := hb
      clear hb htk
      by_cases hlt : k < ns.length
      · have hky : k < ms.length := by have := HL.out; omega
        have hlti : (k : Int) < (ns.length : Int) := by omega
        have hltj : (k : Int) < (ms.length : Int) := by omega
        have hk0 : (0 : Int) ≤ (k : Int) := by omega
        obtain ⟨g, gi, ci, rfl, e0, e1, ia⟩ := HNA.out wr HB.out k hlt
        obtain ⟨h, hi, di, rfl, f0, f1, ib⟩ := HNB.out wr HB.out k hky
        have hv := HZ.out _ (List.getElem_mem hlt)
        have HST : Hid (ns[k] = ms[k] → ns.take (k + 1) = ms.take (k + 1)) := fun e => take_nd hlt hky HTK.out e
        have HNE : Hid (ns[k] ≠ ms[k] → decide (ns = ms) = false) := fun e => decide_eq_false (fun h => e (by simp [h]))
        generalize ns[k] = x at e0 e1 ia hv HST HNE
        generalize ms[k] = y at f0 f1 ib HST HNE
        obtain ⟨t, vs⟩ := x
        obtain ⟨u, us⟩ := y
        dsimp only at e0 e1 ia hv f0 f1 ib
        obtain ⟨X1, hX1⟩ : ∃ X, X = wr.alloc (.cells #[.int .i64 t, .slice (some ⟨gi, 0, none⟩) vs.length ci] 53) := ⟨_, rfl⟩
        have HX1 : Hid (X1 = wr.alloc (.cells #[.int .i64 t, .slice (some ⟨gi, 0, none⟩) vs.length ci] 53)) := hX1
        have hb1 : Below wr.heap.size wr X1 := by rw [hX1]; exact (Below.refl _ _).alloc (Nat.le_refl _) _
        obtain ⟨X2, hX2⟩ : ∃ X, X = X1.alloc (.cells #[.int .i64 u, .slice (some ⟨hi, 0, none⟩) us.length di] 53) := ⟨_, rfl⟩
        have HX2 : Hid (X2 = X1.alloc (.cells #[.int .i64 u, .slice (some ⟨hi, 0, none⟩) us.length di] 53)) := hX2
        have hb2 : Below X1.heap.size X1 X2 := by rw [hX2]; exact (Below.refl _ _).alloc (Nat.le_refl _) _
        obtain ⟨B1, hB1⟩ : ∃ B, B = wr.heap.size := ⟨_, rfl⟩
        have HE1 : Hid (B1 = wr.heap.size) := hB1
        obtain ⟨B2, hB2⟩ : ∃ B, B = X1.heap.size := ⟨_, rfl⟩
        have HE2 : Hid (B2 = X1.heap.size) := hB2
        have f0' : X1.cell? ⟨h, k * 2, none⟩ = some (.int .i64 u) := by rw [hb1.cell (p := ⟨h, k * 2, none⟩) (World.block_lt_of_cell? wr _ f0)]; exact f0
        have f1' : X1.cell? ⟨h, k * 2 + 1, none⟩ = some (.slice (some ⟨hi, 0, none⟩) us.length di) := by rw [hb1.cell (p := ⟨h, k * 2 + 1, none⟩) (World.block_lt_of_cell? wr _ f1)]; exact f1
        have a0 : X2.cell? ⟨B1, 0, none⟩ = some (.int .i64 t) := by
          rw [hb2.cell (p := ⟨B1, 0, none⟩) (by rw [hX1, hB1]; simp), hX1, hB1, World.cell?_alloc_new]; rfl
        have a1 : X2.cell? ⟨B1, 1, none⟩ = some (.slice (some ⟨gi, 0, none⟩) vs.length ci) := by
          rw [hb2.cell (p := ⟨B1, 1, none⟩) (by rw [hX1, hB1]; simp), hX1, hB1, World.cell?_alloc_new]; rfl
        have b0 : X2.cell? ⟨B2, 0, none⟩ = some (.int .i64 u) := by rw [hX2, hB2, World.cell?_alloc_new]; rfl
        have b1 : X2.cell? ⟨B2, 1, none⟩ = some (.slice (some ⟨hi, 0, none⟩) us.length di) := by rw [hX2, hB2, World.cell?_alloc_new]; rfl
        have hb12 : Below wr.heap.size wr X2 := hb1.trans (hb2.mono hb1.size)
        have HBX : Hid (Below w.heap.size w X2) := HB.out.trans (hb12.mono HB.out.size)
        have HE : Hid (Calls _ _ _ X2 _) := sameobj_any X2 t u (some ⟨gi, 0, none⟩) (some ⟨hi, 0, none⟩) ci di vs us hv (ia.nums.below hb12) (ib.nums.below hb12)
        have HDD : Hid ((decide (t = u) && decide (vs = us)) = decide ((t, vs) = (u, us))) := by
          show (decide (t = u) && decide (vs = us)) = _
          by_cases h1 : t = u
          · by_cases h2 : vs = us
            · subst h1 h2; simp
            · simp [h2]
          · simp [h1]
        rw [HDD.out] at HE
        clear ia ib hv f0 f1 hX1 hX2 hb1 hb2 hb12 hB1 hB2 HDD
        by_cases hxy : ((t, vs) : Nd) = (u, us)
        · have HS3 : Hid (ns.take (k + 1) = ms.take (k + 1)) := HST.out hxy
          rw [decide_eq_true hxy] at HE
          clear hxy HST HNE
          go_wp2_with (first | (rw [← HX1.out, ← HE1.out]) | (rw [← HX2.out, ← HE2.out]) | (rw [← HX1.out]) | (rw [← HX2.out]))
          refine HE.out.mono ?_
          rintro e w5 ⟨rfl, hb5⟩
          have HB5 : Hid (Below w.heap.size w w5) := HBX.out.trans (hb5.mono HBX.out.size)
          clear hb5 a0 a1 b0 b1 f0' f1' e0 e1
          go_wp2
          go_roundw
          case rel => exact ⟨k + 1, by omega, by go_num, HB5.out, HS3.out⟩
          case measure => simp [intOf]; omega
        · have HF : Hid (decide (ns = ms) = false) := HNE.out hxy
          rw [decide_eq_false hxy] at HE
          clear hxy HST HNE
          go_wp2_with (first | (rw [← HX1.out, ← HE1.out]) | (rw [← HX2.out, ← HE2.out]) | (rw [← HX1.out]) | (rw [← HX2.out]))
          refine HE.out.mono ?_
          rintro e w5 ⟨rfl, hb5⟩
          have HB5 : Hid (Below w.heap.size w w5) := HBX.out.trans (hb5.mono HBX.out.size)
          clear hb5 a0 a1 b0 b1 f0' f1' e0 e1
          go_wp2
          go_ret
          exact ⟨by rw [HF.out]; rfl, HB5.out⟩
      · obtain rfl : k = ns.length := by omega
        have htk := HTK.out
        rw [List.take_length, List.take_of_length_le (by have := HL.out; omega)] at htk
        have HD : Hid (decide (ns = ms) = true) := decide_eq_true htk
        clear htk
        go_wp2
        go_ret
        exact ⟨by rw [HD.out]; rfl, HB.out⟩
  · have hne : ((ns.length : Int) != (ms.length : Int)) = true := by simp; omega
    have HD : Hid (decide (ns = ms) = false) := decide_eq_false (fun h => hl (by rw [h]))
    clear hl
    go_enter Try.func80, Try.ntmps80
    go_wp2
    go_ret
    exact ⟨by rw [HD.out]; rfl, Below.refl _ _⟩
set_option maxHeartbeats 1000000 in
theorem samegraph_any (w : World) (p1 p2 q1 q2 : Option Addr) (c1 c2 d1 d2 : Nat) (rs qs : List Int) (ns ms : List Nd) (hr : rs.length ≤ 1048576) (hn : ns.length ≤ 1048576) (hz : ∀ x ∈ ns, x.2.length ≤ 1048576) (ra : Nums w p1 rs) (rb : Nums w q1 qs) (na : Og w p2 ns) (nb : Og w q2 ms) :
    Calls Try.prog 52 #[.agg #[.slice p1 rs.length c1, .slice p2 ns.length c2], .agg #[.slice q1 qs.length d1, .slice q2 ms.length d2]] w fun e w' => e = .returned (.bool (decide (rs = qs) && decide (ns = ms))) ∧ Below w.heap.size w w' := by
  obtain ⟨W, hW⟩ : ∃ W, W = (w.alloc (.cells #[.slice p1 rs.length c1, .slice p2 ns.length c2] 33)).alloc (.cells #[.slice q1 qs.length d1, .slice q2 ms.length d2] 33) := ⟨_, rfl⟩
  have HW : Hid (W = (w.alloc (.cells #[.slice p1 rs.length c1, .slice p2 ns.length c2] 33)).alloc (.cells #[.slice q1 qs.length d1, .slice q2 ms.length d2] 33)) := hW
  have hb0 : Below w.heap.size w W := by rw [hW]; exact ((Below.refl _ _).alloc (Nat.le_refl _) _).alloc (by simp) _
  have HB0 : Hid (Below w.heap.size w W) := hb0
  have hsz : W.heap.size = w.heap.size + 2 := by rw [hW]; simp
  have k0 : W.cell? ⟨w.heap.size, 0, none⟩ = some (.slice p1 rs.length c1) := by rw [hW, World.cell?_alloc_past _ _ _ (by simp), World.cell?_alloc_at _ _ _ _ (by simp)]; rfl
  have k1 : W.cell? ⟨w.heap.size, 1, none⟩ = some (.slice p2 ns.length c2) := by rw [hW, World.cell?_alloc_past _ _ _ (by simp), World.cell?_alloc_at _ _ _ _ (by simp)]; rfl
  have k2 : W.cell? ⟨w.heap.size + 1, 0, none⟩ = some (.slice q1 qs.length d1) := by rw [hW, World.cell?_alloc_at _ _ _ _ (by simp)]; rfl
  have k3 : W.cell? ⟨w.heap.size + 1, 1, none⟩ = some (.slice q2 ms.length d2) := by rw [hW, World.cell?_alloc_at _ _ _ _ (by simp)]; rfl
  have HCS : Hid (∀ w', Below W.heap.size W w' → w'.cell? ⟨w.heap.size, 1, none⟩ = some (.slice p2 ns.length c2) ∧ w'.cell? ⟨w.heap.size + 1, 1, none⟩ = some (.slice q2 ms.length d2)) := fun w' h =>
    ⟨by rw [h.cell (p := ⟨w.heap.size, 1, none⟩) (by show w.heap.size < _; omega)]; exact k1, by rw [h.cell (p := ⟨w.heap.size + 1, 1, none⟩) (by show w.heap.size + 1 < _; omega)]; exact k3⟩
  have HIN : Hid (Calls _ _ _ W _) := equal_any W p1 q1 c1 d1 rs qs hr (ra.below hb0) (rb.below hb0)
  have HEF : Hid (∀ w', Below W.heap.size W w' → Calls _ _ _ w' _) := fun w' h => equalfn_any w' p2 q2 c2 d2 ns ms hn hz ((na.below hb0).below h) ((nb.below hb0).below h)
  clear hW hb0 hsz ra rb na nb hz hr
  generalize decide (ns = ms) = z at HEF ⊢
  cases hrq : decide (rs = qs) with
  | true =>
    rw [hrq] at HIN
    clear hrq
    go_enter Try.func52, Try.ntmps52
    go_wp2_with (rw [← HW.out])
    refine HIN.out.mono ?_
    rintro e w2 ⟨rfl, hb2⟩
    have HB2 : Hid (Below W.heap.size W w2) := hb2
    obtain ⟨m1, m3⟩ := HCS.out w2 hb2
    clear hb2 k0 k1 k2 k3
    go_wp2_with fail
    refine (HEF.out w2 HB2.out).mono ?_
    rintro e w3 ⟨rfl, hb3⟩
    have HB3 : Hid (Below w.heap.size w w3) := HB0.out.trans ((HB2.out.trans (hb3.mono HB2.out.size)).mono HB0.out.size)
    clear hb3 m1 m3
    go_wp2
    go_ret
    exact ⟨rfl, HB3.out⟩
  | false =>
    rw [hrq] at HIN
    clear hrq HEF
    go_enter Try.func52, Try.ntmps52
    go_wp2_with (rw [← HW.out])
    refine HIN.out.mono ?_
    rintro e w2 ⟨rfl, hb2⟩
    have HB2 : Hid (Below w.heap.size w w2) := HB0.out.trans (hb2.mono HB0.out.size)
    clear hb2 k0 k1 k2 k3
    go_wp2
    go_ret
    exact ⟨rfl, HB2.out⟩
end Go.Proofs.Ythjfgibflbbgmaa.gs
