/-
  Graphs: whether one is right, by the program: the whole.
-/
import Derived.Test.YthjfgibflbbgmaaGr5
namespace Go.Proofs.Ythjfgibflbbgmaa.gr
open Go.RowKit
open kinds ints obj ref later

set_option maxHeartbeats 4000000 in
set_option maxRecDepth 20000 in
theorem impl_graphok (w : World) (a : Option Addr) (cap : Nat) (xs : List ByteArray) (b : Option Addr) (vc : Nat) (rs : List Int) (c : Option Addr) (cc : Nat) (ns : List Nd) (hn : xs.length ≤ 1048576) (hz : ∀ i (hi : i < xs.length), xs[i].size ≤ 1048576) (hrl : rs.length ≤ 1048576) (hnl : ns.length ≤ 1048576) (hl : Strs w a xs) (hr : Nums w b rs) (hg : Nodes w c ns) :
    Calls Try.prog 33 #[.slice a xs.length cap, .agg #[.slice b rs.length vc, .slice c ns.length cc]] w fun e w' => e = .returned (.bool (graphB xs rs ns)) ∧ Below w.heap.size w w' := by
  obtain ⟨W, hW⟩ : ∃ W, W = w.alloc (.cells #[.slice b rs.length vc, .slice c ns.length cc] 33) := ⟨_, rfl⟩
  have HW : Hid (W = w.alloc (.cells #[.slice b rs.length vc, .slice c ns.length cc] 33)) := hW
  have hb0 : Below w.heap.size w W := by rw [hW]; exact (Below.refl _ _).alloc (Nat.le_refl _) _
  have HB0 : Hid (Below w.heap.size w W) := hb0
  have hsz : w.heap.size < W.heap.size := by rw [hW]; simp
  have k0 : W.cell? ⟨w.heap.size, 0, none⟩ = some (.slice b rs.length vc) := by rw [hW, World.cell?_alloc_new]; rfl
  have k1 : W.cell? ⟨w.heap.size, 1, none⟩ = some (.slice c ns.length cc) := by rw [hW, World.cell?_alloc_new]; rfl
  have HCS : Hid (∀ w', Below W.heap.size W w' → w'.cell? ⟨w.heap.size, 0, none⟩ = some (.slice b rs.length vc) ∧ w'.cell? ⟨w.heap.size, 1, none⟩ = some (.slice c ns.length cc)) := fun w' h =>
    ⟨by rw [h.cell (p := ⟨w.heap.size, 0, none⟩) hsz]; exact k0, by rw [h.cell (p := ⟨w.heap.size, 1, none⟩) hsz]; exact k1⟩
  have HTY : Hid (∀ w', w' = W → Calls _ _ _ w' _) := fun w' q => impl_types w' a cap xs hn (q ▸ hl.below hb0) hz
  have HAN : Hid (∀ w' (v : Option Addr) (vcap : Nat) (L : List Int), L.length ≤ 1048576 → Nums w' v L → Calls Try.prog 59 #[.slice v L.length vcap, .agg #[.slice b rs.length vc, .slice c ns.length cc]] w' fun e w'' => e = .returned (.bool (allIn ns.length L)) ∧ Below w'.heap.size w' w'') := fun w' v vcap L q1 q2 => allNodes_any w' v vcap L b c rs.length vc ns.length cc q1 q2
  have HRN : Hid (∀ w', Below W.heap.size W w' → Nums w' b rs) := fun w' h => (hr.below hb0).below h
  have HGN : Hid (∀ w', Below W.heap.size W w' → Nodes w' c ns) := fun w' h => (hg.below hb0).below h
  have HSN : Hid (∀ w', Below W.heap.size W w' → Strs w' a xs) := fun w' h => (hl.below hb0).below h
  have HXN : Hid (xs.length ≤ 1048576) := hn
  have HDE : Hid (graphB xs rs ns = (typesOk xs && (decide (rs.length ≤ 40) && (decide (ns.length ≤ 400) && (allIn ns.length rs && nodesB xs ns.length ns))))) := rfl
  generalize graphB xs rs ns = res at HDE ⊢
  have m0 := k0
  have m1 := k1
  have HRL : Hid (rs.length ≤ 1048576 ∧ ns.length ≤ 1048576) := ⟨hrl, hnl⟩
  clear hW hl hr hg hb0 k0 k1 hsz hn hz
  cases ht : typesOk xs with
  | false =>
    rw [ht] at HTY HDE
    have HR : Hid (res = false) := by show res = false; rw [HDE.out]; rfl
    clear ht HDE HAN HRN HGN HSN
    go_enter Try.func33, Try.ntmps33
    go_wp2_with fail
    rw [← HW.out]
    refine (HTY.out W rfl).mono ?_
    rintro e w2 ⟨rfl, rfl⟩
    go_wp2
    go_ret
    exact ⟨by rw [HR.out]; rfl, HB0.out⟩
  | true =>
  rw [ht] at HTY HDE
  by_cases h40 : rs.length ≤ 40
  case neg =>
    have h40i : (40 : Int) < (rs.length : Int) := by omega
    have HR : Hid (res = false) := by show res = false; rw [HDE.out, decide_eq_false h40]; rfl
    clear ht HDE HAN HRN HGN HSN h40
    go_enter Try.func33, Try.ntmps33
    go_wp2_with fail
    rw [← HW.out]
    refine (HTY.out W rfl).mono ?_
    rintro e w2 ⟨rfl, rfl⟩
    go_wp2
    go_ret
    exact ⟨by rw [HR.out]; rfl, HB0.out⟩
  case pos =>
  by_cases h400 : ns.length ≤ 400
  case neg =>
    have h40i : ¬ (40 : Int) < (rs.length : Int) := by omega
    have h400i : (400 : Int) < (ns.length : Int) := by omega
    have HR : Hid (res = false) := by show res = false; rw [HDE.out, decide_eq_true h40, decide_eq_false h400]; rfl
    clear ht HDE HAN HRN HGN HSN h40 h400
    go_enter Try.func33, Try.ntmps33
    go_wp2_with fail
    rw [← HW.out]
    refine (HTY.out W rfl).mono ?_
    rintro e w2 ⟨rfl, rfl⟩
    go_wp2
    go_ret
    exact ⟨by rw [HR.out]; rfl, HB0.out⟩
  case pos =>
  have h40i : ¬ (40 : Int) < (rs.length : Int) := by omega
  have h400i : ¬ (400 : Int) < (ns.length : Int) := by omega
  rw [decide_eq_true h40, decide_eq_true h400] at HDE
  have HD2 : Hid (res = (allIn ns.length rs && nodesB xs ns.length ns)) := by show res = _; rw [HDE.out]; simp
  have HA1 : Hid (Calls Try.prog 59 #[.slice b rs.length vc, .agg #[.slice b rs.length vc, .slice c ns.length cc]] W fun e w'' => e = .returned (.bool (allIn ns.length rs)) ∧ Below W.heap.size W w'') := HAN.out W b vc rs (by omega) (HRN.out W (Below.refl _ _))
  have HTO : Hid (typesOk xs = true) := ht
  clear ht HDE h40 h400
  cases har : allIn ns.length rs with
  | false =>
    rw [har] at HD2 HA1
    have HR : Hid (res = false) := by show res = false; rw [HD2.out]; rfl
    clear har HAN HRN HGN HSN
    go_enter Try.func33, Try.ntmps33
    go_wp2_with fail
    rw [← HW.out]
    refine (HTY.out W rfl).mono ?_
    rintro e w2 ⟨rfl, rfl⟩
    go_wp2_with fail
    refine HA1.out.mono ?_
    rintro e w2 ⟨rfl, hb2⟩
    have HB2 : Hid (Below w.heap.size w w2) := HB0.out.trans (hb2.mono HB0.out.size)
    clear hb2
    go_wp2
    go_ret
    exact ⟨by rw [HR.out]; rfl, HB2.out⟩
  | true =>
  rw [har] at HD2 HA1
  have HR : Hid (res = nodesB xs ns.length ns) := by show res = _; rw [HD2.out]; simp
  clear har HD2
  go_enter Try.func33, Try.ntmps33
  go_wp2_with fail
  rw [← HW.out]
  refine (HTY.out W rfl).mono ?_
  rintro e w2 ⟨rfl, rfl⟩
  go_wp2_with fail
  refine HA1.out.mono ?_
  rintro e w2 ⟨rfl, hb2⟩
  have HB2 : Hid (Below W.heap.size W w2) := hb2
  clear m0 m1 hb2
  obtain ⟨m0, m1⟩ := HCS.out w2 HB2.out
  go_wp2
  go_loopw [32] (fun i wr => ∃ k : Nat, k ≤ ns.length ∧ i = .int .i64 (k : Int) ∧ nodesB xs ns.length (ns.take k) = true ∧ Below W.heap.size W wr) (fun i _ => ns.length - (intOf i).toNat)
  case atStart => exact ⟨0, Nat.zero_le _, rfl, rfl, HB2.out⟩
  case round =>
    obtain ⟨k, hk, rfl, hok, hb⟩ := hrel
    have HB : Hid (Below W.heap.size W wr) := hb
    have HOK : Hid (nodesB xs ns.length (ns.take k) = true) := hok
    clear hb hok m0 m1
    by_cases hlt : k < ns.length
    · have hlti : (k : Int) < (ns.length : Int) := by omega
      obtain ⟨b2, off, rfl, c0, ai, ci, c1, hnu⟩ := HGN.out wr HB.out k hlt
      have HT : Hid (nodesB xs ns.length (ns.take (k + 1)) = (nodesB xs ns.length (ns.take k) && nodeB xs ns.length ns[k])) := by
        show nodesB xs ns.length (ns.take (k + 1)) = _
        rw [List.take_succ_eq_append_getElem hlt, nodesB_snoc]
      generalize ns[k] = nd at c0 c1 hnu HT
      obtain ⟨x, vs⟩ := nd
      have d0 : wr.cell? ⟨b2, off + k * 2, none⟩ = some (.int .i64 x) := c0
      have d1 : wr.cell? ⟨b2, off + k * 2 + 1, none⟩ = some (.slice ai vs.length ci) := c1
      have hnu' : Nums wr ai vs := hnu
      obtain ⟨Y, hY⟩ : ∃ Y, Y = wr.alloc (.cells #[.int .i64 x, .slice ai vs.length ci] 53) := ⟨_, rfl⟩
      obtain ⟨yb, hyb⟩ : ∃ y, y = wr.heap.size := ⟨_, rfl⟩
      have HY : Hid (Y = wr.alloc (.cells #[.int .i64 x, .slice ai vs.length ci] 53)) := hY
      have HYB : Hid (yb = wr.heap.size) := hyb
      have hbY : Below wr.heap.size wr Y := by rw [hY]; exact (Below.refl _ _).alloc (Nat.le_refl _) _
      have HBY : Hid (Below W.heap.size W Y) := HB.out.trans (hbY.mono HB.out.size)
      have hys : yb < Y.heap.size := by rw [hyb, hY]; simp
      have j0 : Y.cell? ⟨yb, 0, none⟩ = some (.int .i64 x) := by rw [hY, hyb, World.cell?_alloc_new]; rfl
      have j1 : Y.cell? ⟨yb, 1, none⟩ = some (.slice ai vs.length ci) := by rw [hY, hyb, World.cell?_alloc_new]; rfl
      have HCK : Hid (∀ w', Below Y.heap.size Y w' → w'.cell? ⟨yb, 0, none⟩ = some (.int .i64 x) ∧ w'.cell? ⟨yb, 1, none⟩ = some (.slice ai vs.length ci) ∧ w'.cell? ⟨w.heap.size, 0, none⟩ = some (.slice b rs.length vc) ∧ w'.cell? ⟨w.heap.size, 1, none⟩ = some (.slice (some ⟨b2, off, none⟩) ns.length cc)) := fun w' h =>
        ⟨by rw [h.cell (p := ⟨yb, 0, none⟩) hys]; exact j0, by rw [h.cell (p := ⟨yb, 1, none⟩) hys]; exact j1, (HCS.out w' (HBY.out.trans (h.mono HBY.out.size))).1, (HCS.out w' (HBY.out.trans (h.mono HBY.out.size))).2⟩
      have HNV : Hid (∀ w', Below Y.heap.size Y w' → Nums w' ai vs ∧ Strs w' a xs) := fun w' h => ⟨(hnu'.below hbY).below h, HSN.out w' (HBY.out.trans (h.mono HBY.out.size))⟩
      have HFT : Hid (∀ w', Below Y.heap.size Y w' → Calls Try.prog 60 #[.slice a xs.length cap, .agg #[.int .i64 x, .slice ai vs.length ci]] w' fun e w'' => e = .returned (.bool (fitsB xs x vs)) ∧ Below w'.heap.size w' w'') := fun w' h => fits_any w' a cap xs x ai ci vs HXN.out (HNV.out w' h).2
      have HWY : Hid (Below w.heap.size w Y) := HB0.out.trans (HBY.out.mono HB0.out.size)
      clear c0 c1 hnu hY hyb hbY hys hnu'
      cases hf : fitsB xs x vs with
      | false =>
        have HR2 : Hid (res = false) := by
          show res = false
          rw [HR.out]; exact nodesB_no (k := k + 1) (by rw [HT.out]; unfold nodeB; rw [hf]; simp)
        rw [hf] at HFT
        have HFL : Hid (∀ n : Later Y, _) := fun n => HFT.out n.world n.below
        obtain ⟨q0, q1, q2, q3⟩ := HCK.out Y (Below.refl _ _)
        have X0 := fun n : Later Y => Later.cell q0 n
        have X1 := fun n : Later Y => Later.cell q1 n
        have X2 := fun n : Later Y => Later.cell q2 n
        have X3 := fun n : Later Y => Later.cell q3 n
        have hne := some_later Y
        clear q0 q1 q2 q3 j0 j1 hf HT
        go_wp2_with (first | (rw [← HY.out, ← HYB.out]) | (rw [← HY.out]))
        try rw [← HYB.out]
        refine region_later (by kernel_rfl) (by kernel_rfl) ?_
        repeat (go_big_quiet_step (first | (go_at_call 60; exact later_of (HFL.out _))))
        refine wpQuiet_nil ?_
        intro w' hw'
        obtain ⟨nn, rfl⟩ := hw'
        have HBE : Hid (Below w.heap.size w nn.world) := HWY.out.trans (nn.below.mono HWY.out.size)
        generalize nn.world = w9 at HBE ⊢
        go_wp2
        go_ret
        exact ⟨by rw [HR2.out]; rfl, HBE.out⟩
      | true =>
        rw [hf] at HFT
        have hf2 := hf
        unfold fitsB at hf2
        rw [Bool.and_eq_true] at hf2
        obtain ⟨p, rfl, hpl⟩ := placeB_nat hf2.1
        have hlen : vs.length = xs[p].size := by have := hf2.2; rw [kd_at p hpl] at this; simp at this; omega
        have h23 : xs[p].size ≤ 23 := by
          have := HTO.out
          unfold typesOk at this
          rw [Bool.and_eq_true, List.all_eq_true] at this
          exact (isType_size (this.2 _ (List.getElem_mem hpl))).2
        have HT2 : Hid (nodesB xs ns.length (ns.take (k + 1)) = allIn ns.length (refsL xs[p] vs vs.length)) := by
          show nodesB xs ns.length (ns.take (k + 1)) = _
          rw [HT.out, HOK.out]; unfold nodeB; rw [hf, kd_at p hpl]; simp
        have HRO : Hid (∀ w', Below Y.heap.size Y w' → Calls _ _ _ w' _) := fun w' h => refsOf_any w' a cap xs p ai ci vs HXN.out (HNV.out w' h).2 hpl hlen (by omega) (HNV.out w' h).1
        have HLN : Hid ((refsL xs[p] vs vs.length).length ≤ 1048576) := by show (refsL xs[p] vs vs.length).length ≤ _; have := refsL_len xs[p] vs vs.length; omega
        generalize refsL xs[p] vs vs.length = L at HT2 HRO HLN
        clear hf hf2 hlen h23 HT hpl
        have HAL : Hid (∀ w' (v : Option Addr) (vcap : Nat), Nums w' v L → Calls Try.prog 59 #[.slice v L.length vcap, .agg #[.slice b rs.length vc, .slice (some ⟨b2, off, none⟩) ns.length cc]] w' fun e w'' => e = .returned (.bool (allIn ns.length L)) ∧ Below w'.heap.size w' w'') := fun w' v vcap q => HAN.out w' v vcap L HLN.out q
        generalize allIn ns.length L = an at HT2 HAL
        have hacc : Below Y.heap.size Y Y.drew := (Below.refl _ _).drew
        obtain ⟨q0, q1, q2, q3⟩ := HCK.out Y (Below.refl _ _)
        clear j0 j1
        go_wp2_with (first | (rw [← HY.out, ← HYB.out]) | (rw [← HY.out]))
        try rw [← HYB.out]
        go_region_held3 (fun w' => w'.cell? ⟨yb, 0, none⟩ = some (.int .i64 (p : Int)) ∧ w'.cell? ⟨yb, 1, none⟩ = some (.slice ai vs.length ci) ∧ w'.cell? ⟨w.heap.size, 0, none⟩ = some (.slice b rs.length vc) ∧ w'.cell? ⟨w.heap.size, 1, none⟩ = some (.slice (some ⟨b2, off, none⟩) ns.length cc)) (first | with_reducible exact HCK.out _ hacc)
          (first | (go_at_call 60; refine (HFT.out _ hacc).mono ?_; rintro e wA ⟨rfl, hbX⟩; have hac2 : Below Y.heap.size Y wA := hacc.trans (hbX.mono hacc.size); clear hacc hbX; have hacc := hac2; clear hac2) | (go_at_call 61; refine (HRO.out _ hacc).mono ?_; rintro e wB ⟨v, rfl, hown, hbX⟩; obtain ⟨a3, g3, c3, rfl, hg3, hin⟩ := ints_of_row hown; have HIN : Hid (Ints wB a3 g3 L) := hin; have hac2 : Below Y.heap.size Y wB := hacc.trans (hbX.mono hacc.size); clear hacc hbX hown hg3 hin; have hacc := hac2; clear hac2) | (go_at_call 59; refine (HAL.out _ _ _ HIN.out.nums).mono ?_; rintro e wC ⟨rfl, hbX⟩; have hac2 : Below Y.heap.size Y wC := hacc.trans (hbX.mono hacc.size); clear hacc hbX; have hacc := hac2; clear hac2))
        all_goals
          have HBC : Hid (Below W.heap.size W wC) := HBY.out.trans (hacc.mono HBY.out.size)
          have HBE : Hid (Below w.heap.size w wC) := HWY.out.trans (hacc.mono HWY.out.size)
          clear hacc q0 q1 q2 q3 d0 d1
          cases an with
          | false =>
            have HR2 : Hid (res = false) := by
              show res = false
              rw [HR.out]; exact nodesB_no (k := k + 1) HT2.out
            go_wp2
            go_ret
            exact ⟨by rw [HR2.out]; rfl, HBE.out⟩
          | true =>
            go_wp2
            go_roundw
            case rel => exact ⟨k + 1, by omega, by go_num, HT2.out, HBC.out⟩
            case measure => simp [intOf]; omega
    · obtain rfl : k = ns.length := by omega
      have HR2 : Hid (res = true) := by
        show res = true
        have := HOK.out
        rw [List.take_length] at this
        rw [HR.out, this]
      have HBE : Hid (Below w.heap.size w wr) := HB0.out.trans (HB.out.mono HB0.out.size)
      go_wp2
      go_ret
      exact ⟨by rw [HR2.out]; rfl, HBE.out⟩
end Go.Proofs.Ythjfgibflbbgmaa.gr
