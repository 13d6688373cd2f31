/-
  Two graphs compared, by the specification.
-/
import Derived.Test.YthjfgibflbbgmaaGsAl1
namespace Go.Proofs.Ythjfgibflbbgmaa.gs
open Go.RowKit
open kinds ints obj ref gr cl

theorem take_nd {xs ys : List Nd} {k : Nat} (hx : k < xs.length) (hy : k < ys.length) (h : xs.take k = ys.take k) (e : xs[k] = ys[k]) : xs.take (k + 1) = ys.take (k + 1) := by rw [List.take_succ_eq_append_getElem hx, List.take_succ_eq_append_getElem hy, h, e]
set_option maxHeartbeats 2000000 in
set_option maxRecDepth 20000 in
theorem l7same_any (w : World) (p1 p2 q1 q2 : Option Addr) (c1 c2 d1 d2 : Nat) (rs qs : List Int) (ns ms : List Nd) (hr : rs.length ≤ 1048576) (hn : ns.length ≤ 1048576) (hz : ∀ x ∈ ns, x.2.length ≤ 1048576) (ra : Nums w p1 rs) (rb : Nums w q1 qs) (na : Og w p2 ns) (nb : Og w q2 ms) :
    Calls Try.prog 51 #[.agg #[.slice p1 rs.length c1, .slice p2 ns.length c2], .agg #[.slice q1 qs.length d1, .slice q2 ms.length d2]] w fun e w' => e = .returned (.bool (decide (rs = qs) && decide (ns = ms))) ∧ Below w.heap.size w w' := by
  obtain ⟨W, hW⟩ : ∃ W, W = (w.alloc (.cells #[.slice p1 rs.length c1, .slice p2 ns.length c2] 33)).alloc (.cells #[.slice q1 qs.length d1, .slice q2 ms.length d2] 33) := ⟨_, rfl⟩
  have HW : Hid (W = (w.alloc (.cells #[.slice p1 rs.length c1, .slice p2 ns.length c2] 33)).alloc (.cells #[.slice q1 qs.length d1, .slice q2 ms.length d2] 33)) := hW
  have hb0 : Below w.heap.size w W := by rw [hW]; exact ((Below.refl _ _).alloc (Nat.le_refl _) _).alloc (by simp) _
  have HB0 : Hid (Below w.heap.size w W) := hb0
  have hsz : W.heap.size = w.heap.size + 2 := by rw [hW]; simp
  have k0 : W.cell? ⟨w.heap.size, 0, none⟩ = some (.slice p1 rs.length c1) := by rw [hW, World.cell?_alloc_past _ _ _ (by simp), World.cell?_alloc_at _ _ _ _ (by simp)]; rfl
  have k1 : W.cell? ⟨w.heap.size, 1, none⟩ = some (.slice p2 ns.length c2) := by rw [hW, World.cell?_alloc_past _ _ _ (by simp), World.cell?_alloc_at _ _ _ _ (by simp)]; rfl
  have k2 : W.cell? ⟨w.heap.size + 1, 0, none⟩ = some (.slice q1 qs.length d1) := by rw [hW, World.cell?_alloc_at _ _ _ _ (by simp)]; rfl
  have k3 : W.cell? ⟨w.heap.size + 1, 1, none⟩ = some (.slice q2 ms.length d2) := by rw [hW, World.cell?_alloc_at _ _ _ _ (by simp)]; rfl
  have HCS : Hid (∀ w', Below W.heap.size W w' → w'.cell? ⟨w.heap.size, 1, none⟩ = some (.slice p2 ns.length c2) ∧ w'.cell? ⟨w.heap.size + 1, 1, none⟩ = some (.slice q2 ms.length d2)) := fun w' h =>
    ⟨by rw [h.cell (p := ⟨w.heap.size, 1, none⟩) (by show w.heap.size < _; omega)]; exact k1, by rw [h.cell (p := ⟨w.heap.size + 1, 1, none⟩) (by show w.heap.size + 1 < _; omega)]; exact k3⟩
  have HIN : Hid (Calls _ _ _ W _) := l7ints_any W p1 q1 c1 d1 rs qs hr (ra.below hb0) (rb.below hb0)
  have HNA : Hid (∀ w', Below W.heap.size W w' → Og w' p2 ns) := fun w' h => (na.below hb0).below h
  have HNB : Hid (∀ w', Below W.heap.size W w' → Og w' q2 ms) := fun w' h => (nb.below hb0).below h
  have HZ : Hid (∀ x ∈ ns, x.2.length ≤ 1048576) := hz
  clear hW hb0 hsz ra rb na nb hz hr
  by_cases hrq : rs = qs
  · have HR : Hid (decide (rs = qs) = true) := decide_eq_true hrq
    rw [HR.out] at HIN
    rw [decide_eq_true hrq]
    clear hrq
    by_cases hl : ns.length = ms.length
    · have HL : Hid (ns.length = ms.length) := hl
      have hne : ((ns.length : Int) != (ms.length : Int)) = false := by rw [hl]; simp
      clear hl
      go_enter Try.func51, Try.ntmps51
      go_wp2_with (rw [← HW.out])
      refine HIN.out.mono ?_
      rintro e w2 ⟨rfl, hb2⟩
      have HB2 : Hid (Below W.heap.size W w2) := hb2
      obtain ⟨m1, m3⟩ := HCS.out w2 hb2
      clear hb2 k0 k1 k2 k3
      go_wp2
      go_loopw [5] (fun i wr => ∃ k : Nat, k ≤ ns.length ∧ i = .int .i64 (k : Int) ∧ Below W.heap.size W wr ∧ ns.take k = ms.take k) (fun i _ => ns.length - (intOf i).toNat)
      case atStart => exact ⟨0, Nat.zero_le _, rfl, HB2.out, by simp⟩
      case round =>
        clear m1 m3
        obtain ⟨k, hk, rfl, hb, htk⟩ := hrel
        have HTK : Hid (ns.take k = ms.take k) := htk
        have HB : Hid (Below W.heap.size W wr) := hb
        clear hb htk
        obtain ⟨m1, m3⟩ := HCS.out wr HB.out
        by_cases hlt : k < ns.length
        · have hky : k < ms.length := by have := HL.out; omega
          have hlti : (k : Int) < (ns.length : Int) := by omega
          have hltj : (k : Int) < (ms.length : Int) := by omega
          have hk0 : (0 : Int) ≤ (k : Int) := by omega
          obtain ⟨g, gi, ci, rfl, e0, e1, ia⟩ := HNA.out wr HB.out k hlt
          obtain ⟨h, hi, di, rfl, f0, f1, ib⟩ := HNB.out wr HB.out k hky
          have hv := HZ.out _ (List.getElem_mem hlt)
          have HST : Hid (ns[k] = ms[k] → ns.take (k + 1) = ms.take (k + 1)) := fun e => take_nd hlt hky HTK.out e
          have HNE : Hid (ns[k] ≠ ms[k] → decide (ns = ms) = false) := fun e => decide_eq_false (fun h => e (by simp [h]))
          generalize ns[k] = x at e0 e1 ia hv HST HNE
          generalize ms[k] = y at f0 f1 ib HST HNE
          obtain ⟨t, vs⟩ := x
          obtain ⟨u, us⟩ := y
          dsimp only at e0 e1 ia hv f0 f1 ib
          have HCK : Hid (∀ w', Below wr.heap.size wr w' → w'.cell? ⟨w.heap.size, 1, none⟩ = some (.slice (some ⟨g, 0, none⟩) ns.length c2) ∧ w'.cell? ⟨w.heap.size + 1, 1, none⟩ = some (.slice (some ⟨h, 0, none⟩) ms.length d2) ∧ w'.cell? ⟨g, k * 2, none⟩ = some (.int .i64 t) ∧ w'.cell? ⟨g, k * 2 + 1, none⟩ = some (.slice (some ⟨gi, 0, none⟩) vs.length ci) ∧ w'.cell? ⟨h, k * 2, none⟩ = some (.int .i64 u) ∧ w'.cell? ⟨h, k * 2 + 1, none⟩ = some (.slice (some ⟨hi, 0, none⟩) us.length di)) := fun w' hb' =>
            ⟨(HCS.out w' (HB.out.trans (hb'.mono HB.out.size))).1, (HCS.out w' (HB.out.trans (hb'.mono HB.out.size))).2, by rw [hb'.cell (p := ⟨g, k * 2, none⟩) (World.block_lt_of_cell? wr _ e0)]; exact e0, by rw [hb'.cell (p := ⟨g, k * 2 + 1, none⟩) (World.block_lt_of_cell? wr _ e1)]; exact e1, by rw [hb'.cell (p := ⟨h, k * 2, none⟩) (World.block_lt_of_cell? wr _ f0)]; exact f0, by rw [hb'.cell (p := ⟨h, k * 2 + 1, none⟩) (World.block_lt_of_cell? wr _ f1)]; exact f1⟩
          have HE : Hid (∀ W', Below wr.heap.size wr W' → Calls _ _ _ W' _) := fun W' q => l7ints_any W' (some ⟨gi, 0, none⟩) (some ⟨hi, 0, none⟩) ci di vs us hv (ia.nums.below q) (ib.nums.below q)
          have hacc : Below wr.heap.size wr wr.drew := (Below.refl _ _).drew
          clear ia ib hv
          by_cases htu : t = u
          · have HST2 : Hid (vs = us → ns.take (k + 1) = ms.take (k + 1)) := fun e => HST.out (by rw [htu, e])
            have HNE2 : Hid (vs ≠ us → decide (ns = ms) = false) := fun e => HNE.out (fun q => e (congrArg Prod.snd q))
            clear HST HNE
            subst htu
            have hq : (t != t) = false := by simp
            by_cases hvu : vs = us
            · have HD : Hid (decide (vs = us) = true) := decide_eq_true hvu
              have HS3 : Hid (ns.take (k + 1) = ms.take (k + 1)) := HST2.out hvu
              rw [HD.out] at HE
              clear hvu HST2 HNE2
              go_wp2
              go_region_held3 (fun w' => w'.cell? ⟨w.heap.size, 1, none⟩ = some (.slice (some ⟨g, 0, none⟩) ns.length c2) ∧ w'.cell? ⟨w.heap.size + 1, 1, none⟩ = some (.slice (some ⟨h, 0, none⟩) ms.length d2) ∧ w'.cell? ⟨g, k * 2, none⟩ = some (.int .i64 t) ∧ w'.cell? ⟨g, k * 2 + 1, none⟩ = some (.slice (some ⟨gi, 0, none⟩) vs.length ci) ∧ w'.cell? ⟨h, k * 2, none⟩ = some (.int .i64 t) ∧ w'.cell? ⟨h, k * 2 + 1, none⟩ = some (.slice (some ⟨hi, 0, none⟩) us.length di))
                (first | exact HCK.out _ hacc)
                (first | (go_at_call 78; refine (HE.out _ hacc).mono ?_; rintro e w5 ⟨rfl, hb5⟩; have hac2 : Below wr.heap.size wr w5 := hacc.trans (hb5.mono hacc.size); clear hacc hb5; have hacc := hac2; clear hac2))
              all_goals
                have HB5 : Hid (Below W.heap.size W w5) := HB.out.trans (hacc.mono HB.out.size)
                go_wp2
                go_roundw
                case rel => exact ⟨k + 1, by omega, by go_num, HB5.out, HS3.out⟩
                case measure => simp [intOf]; omega
            · have HD : Hid (decide (vs = us) = false) := decide_eq_false hvu
              have HF : Hid (decide (ns = ms) = false) := HNE2.out hvu
              rw [HD.out] at HE
              clear hvu HST2 HNE2
              go_wp2
              go_region_held3 (fun w' => w'.cell? ⟨w.heap.size, 1, none⟩ = some (.slice (some ⟨g, 0, none⟩) ns.length c2) ∧ w'.cell? ⟨w.heap.size + 1, 1, none⟩ = some (.slice (some ⟨h, 0, none⟩) ms.length d2) ∧ w'.cell? ⟨g, k * 2, none⟩ = some (.int .i64 t) ∧ w'.cell? ⟨g, k * 2 + 1, none⟩ = some (.slice (some ⟨gi, 0, none⟩) vs.length ci) ∧ w'.cell? ⟨h, k * 2, none⟩ = some (.int .i64 t) ∧ w'.cell? ⟨h, k * 2 + 1, none⟩ = some (.slice (some ⟨hi, 0, none⟩) us.length di))
                (first | exact HCK.out _ hacc)
                (first | (go_at_call 78; refine (HE.out _ hacc).mono ?_; rintro e w5 ⟨rfl, hb5⟩; have hac2 : Below wr.heap.size wr w5 := hacc.trans (hb5.mono hacc.size); clear hacc hb5; have hacc := hac2; clear hac2))
              all_goals
                have HB5 : Hid (Below w.heap.size w w5) := HB0.out.trans ((HB.out.trans (hacc.mono HB.out.size)).mono HB0.out.size)
                go_wp2
                go_ret
                exact ⟨by rw [HF.out]; rfl, HB5.out⟩
          · have HF : Hid (decide (ns = ms) = false) := HNE.out (fun q => htu (congrArg Prod.fst q))
            have hq : (t != u) = true := by simp [htu]
            clear htu HST HNE HE
            go_wp2
            go_region
            all_goals
              have HB5 : Hid (Below w.heap.size w wr.drew) := HB0.out.trans ((HB.out.trans (hacc.mono HB.out.size)).mono HB0.out.size)
              go_wp2
              go_ret
              exact ⟨by rw [HF.out]; rfl, HB5.out⟩
        · obtain rfl : k = ns.length := by omega
          have htk := HTK.out
          rw [List.take_length, List.take_of_length_le (by have := HL.out; omega)] at htk
          have HD : Hid (decide (ns = ms) = true) := decide_eq_true htk
          have HBE : Hid (Below w.heap.size w wr) := HB0.out.trans (HB.out.mono HB0.out.size)
          clear htk
          go_wp2
          go_ret
          exact ⟨by rw [HD.out]; rfl, HBE.out⟩
    · have hne : ((ns.length : Int) != (ms.length : Int)) = true := by simp; omega
      have HD : Hid (decide (ns = ms) = false) := decide_eq_false (fun h => hl (by rw [h]))
      clear hl
      go_enter Try.func51, Try.ntmps51
      go_wp2_with (rw [← HW.out])
      refine HIN.out.mono ?_
      rintro e w2 ⟨rfl, hb2⟩
      have HB2 : Hid (Below w.heap.size w w2) := HB0.out.trans (hb2.mono HB0.out.size)
      obtain ⟨m1, m3⟩ := HCS.out w2 hb2
      clear hb2 k0 k1 k2 k3
      go_wp2
      go_ret
      exact ⟨by rw [HD.out]; rfl, HB2.out⟩
  · have HR : Hid (decide (rs = qs) = false) := decide_eq_false hrq
    rw [HR.out] at HIN
    rw [decide_eq_false hrq]
    clear hrq
    go_enter Try.func51, Try.ntmps51
    go_wp2_with (rw [← HW.out])
    refine HIN.out.mono ?_
    rintro e w2 ⟨rfl, hb2⟩
    have HB2 : Hid (Below w.heap.size w w2) := HB0.out.trans (hb2.mono HB0.out.size)
    clear hb2 k0 k1 k2 k3
    go_wp2
    go_ret
    exact ⟨rfl, HB2.out⟩
end Go.Proofs.Ythjfgibflbbgmaa.gs
