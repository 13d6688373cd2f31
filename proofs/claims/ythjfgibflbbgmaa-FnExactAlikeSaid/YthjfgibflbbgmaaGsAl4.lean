/-
  Two graphs that look alike, by both.
-/
import Derived.Test.YthjfgibflbbgmaaGsAl3
namespace Go.Proofs.Ythjfgibflbbgmaa.gs
open Go.RowKit
open kinds ints obj ref gr cl

def alikeB (xs : List ByteArray) (rs : List Int) (ns : List Nd) (qs : List Int) (ms : List Nd) : Bool := graphB xs rs ns && graphB xs qs ms && (decide (plainR xs rs ns = plainR xs qs ms) && decide (plainN xs rs ns = plainN xs qs ms))
set_option linter.unusedSimpArgs false in
set_option maxHeartbeats 4000000 in
set_option maxRecDepth 20000 in
theorem spec_alike (w : World) (a : Option Addr) (cap : Nat) (xs : List ByteArray) (b : Option Addr) (vc : Nat) (rs : List Int) (c : Option Addr) (cc : Nat) (ns : List Nd) (b' : Option Addr) (vc' : Nat) (qs : List Int) (c' : Option Addr) (cc' : Nat) (ms : List Nd) (hn : xs.length ≤ 1048576) (hz : ∀ i (hi : i < xs.length), xs[i].size ≤ 1048576) (hrl : rs.length ≤ 1048576) (hnl : ns.length ≤ 1048576) (hql : qs.length ≤ 1048576) (hml : ms.length ≤ 1048576) (hl : Strs w a xs) (hr : Nums w b rs) (hg : Nodes w c ns) (hq : Nums w b' qs) (hm : Nodes w c' ms) :
    Calls Try.prog 26 #[.slice a xs.length cap, .agg #[.slice b rs.length vc, .slice c ns.length cc], .agg #[.slice b' qs.length vc', .slice c' ms.length cc']] w fun e w' => e = .returned (.bool (alikeB xs rs ns qs ms)) ∧ Below w.heap.size w w' := by
  obtain ⟨W, hW⟩ : ∃ W, W = (w.alloc (.cells #[.slice b rs.length vc, .slice c ns.length cc] 33)).alloc (.cells #[.slice b' qs.length vc', .slice c' ms.length cc'] 33) := ⟨_, rfl⟩
  have HW : Hid (W = (w.alloc (.cells #[.slice b rs.length vc, .slice c ns.length cc] 33)).alloc (.cells #[.slice b' qs.length vc', .slice c' ms.length cc'] 33)) := hW
  have hb0 : Below w.heap.size w W := by rw [hW]; exact ((Below.refl _ _).alloc (Nat.le_refl _) _).alloc (by simp) _
  have HB0 : Hid (Below w.heap.size w W) := hb0
  have hsz : W.heap.size = w.heap.size + 2 := by rw [hW]; simp
  have k0 : W.cell? ⟨w.heap.size, 0, none⟩ = some (.slice b rs.length vc) := by rw [hW, World.cell?_alloc_past _ _ _ (by simp), World.cell?_alloc_at _ _ _ _ (by simp)]; rfl
  have k1 : W.cell? ⟨w.heap.size, 1, none⟩ = some (.slice c ns.length cc) := by rw [hW, World.cell?_alloc_past _ _ _ (by simp), World.cell?_alloc_at _ _ _ _ (by simp)]; rfl
  have k2 : W.cell? ⟨w.heap.size + 1, 0, none⟩ = some (.slice b' qs.length vc') := by rw [hW, World.cell?_alloc_at _ _ _ _ (by simp)]; rfl
  have k3 : W.cell? ⟨w.heap.size + 1, 1, none⟩ = some (.slice c' ms.length cc') := by rw [hW, World.cell?_alloc_at _ _ _ _ (by simp)]; rfl
  have HK : Hid (∀ w', Below W.heap.size W w' → w'.cell? ⟨w.heap.size, 0, none⟩ = some (.slice b rs.length vc) ∧ w'.cell? ⟨w.heap.size, 1, none⟩ = some (.slice c ns.length cc) ∧ w'.cell? ⟨w.heap.size + 1, 0, none⟩ = some (.slice b' qs.length vc') ∧ w'.cell? ⟨w.heap.size + 1, 1, none⟩ = some (.slice c' ms.length cc')) := fun w' h =>
    ⟨by rw [h.cell (p := ⟨w.heap.size, 0, none⟩) (by show w.heap.size < _; omega)]; exact k0, by rw [h.cell (p := ⟨w.heap.size, 1, none⟩) (by show w.heap.size < _; omega)]; exact k1, by rw [h.cell (p := ⟨w.heap.size + 1, 0, none⟩) (by show w.heap.size + 1 < _; omega)]; exact k2, by rw [h.cell (p := ⟨w.heap.size + 1, 1, none⟩) (by show w.heap.size + 1 < _; omega)]; exact k3⟩
  have HG1 : Hid (∀ w', Below W.heap.size W w' → Calls _ _ _ w' _) := fun w' h => spec_graphok w' a cap xs b vc rs c cc ns hn hz hrl hnl ((hl.below hb0).below h) ((hr.below hb0).below h) ((hg.below hb0).below h)
  have HG2 : Hid (∀ w', Below W.heap.size W w' → Calls _ _ _ w' _) := fun w' h => spec_graphok w' a cap xs b' vc' qs c' cc' ms hn hz hql hml ((hl.below hb0).below h) ((hq.below hb0).below h) ((hm.below hb0).below h)
  have HP1 : Hid (graphB xs rs ns = true → ∀ w', Below W.heap.size W w' → Calls Try.prog 47 #[.slice a xs.length cap, .agg #[.slice b rs.length vc, .slice c ns.length cc]] w' fun e w'' => GOut (plainR xs rs ns) (plainN xs rs ns) w' e w'') := fun hok w' h => by rw [plainR_yes hok, plainN_yes hok]; exact (spec_l7plain w' a cap xs b vc rs c cc ns ((hl.below hb0).below h) ((hr.below hb0).below h) ((hg.below hb0).below h) hok).mono (fun _ _ q => gout_of q)
  have HP2 : Hid (graphB xs qs ms = true → ∀ w', Below W.heap.size W w' → Calls Try.prog 47 #[.slice a xs.length cap, .agg #[.slice b' qs.length vc', .slice c' ms.length cc']] w' fun e w'' => GOut (plainR xs qs ms) (plainN xs qs ms) w' e w'') := fun hok w' h => by rw [plainR_yes hok, plainN_yes hok]; exact (spec_l7plain w' a cap xs b' vc' qs c' cc' ms ((hl.below hb0).below h) ((hq.below hb0).below h) ((hm.below hb0).below h) hok).mono (fun _ _ q => gout_of q)
  have HAL : Hid (alikeB xs rs ns qs ms = (graphB xs rs ns && graphB xs qs ms && (decide (plainR xs rs ns = plainR xs qs ms) && decide (plainN xs rs ns = plainN xs qs ms)))) := rfl
  obtain ⟨s1, s2, s3⟩ := plain_small xs rs ns
  have HSM : Hid (∀ (w' : World) (p1 p2 q1 q2 : Option Addr) (c1 c2 d1 d2 : Nat), Nums w' p1 (plainR xs rs ns) → Nums w' q1 (plainR xs qs ms) → Og w' p2 (plainN xs rs ns) → Og w' q2 (plainN xs qs ms) → Calls _ _ _ w' _) := fun w' p1 p2 q1 q2 c1 c2 d1 d2 h1 h2 h3 h4 => l7same_any w' p1 p2 q1 q2 c1 c2 d1 d2 (plainR xs rs ns) (plainR xs qs ms) (plainN xs rs ns) (plainN xs qs ms) (by omega) (by omega) (fun x hx => by have := s3 x hx; omega) h1 h2 h3 h4
  have hacc : Below W.heap.size W W.drew := (Below.refl _ _).drew
  generalize alikeB xs rs ns qs ms = al at HAL ⊢
  generalize plainR xs rs ns = pr at HP1 HSM HAL
  generalize plainN xs rs ns = pn at HP1 HSM HAL
  generalize plainR xs qs ms = pq at HP2 HSM HAL
  generalize plainN xs qs ms = pm at HP2 HSM HAL
  generalize (decide (pr = pq) && decide (pn = pm)) = z at HSM HAL
  clear hW hb0 hsz hl hr hg hq hm hn hz hrl hnl hql hml s1 s2 s3
  cases h1 : graphB xs rs ns with
  | false =>
    rw [h1] at HG1 HAL
    have HR : Hid (al = false) := by show al = false; rw [HAL.out]; rfl
    clear h1 HG2 HP1 HP2 HSM HAL
    go_enter Try.func26, Try.ntmps26
    go_wp2_with (rw [← HW.out])
    refine wp_region_held_drew (S := fun w' => w'.cell? ⟨w.heap.size, 0, none⟩ = some (.slice b rs.length vc) ∧ w'.cell? ⟨w.heap.size, 1, none⟩ = some (.slice c ns.length cc) ∧ w'.cell? ⟨w.heap.size + 1, 0, none⟩ = some (.slice b' qs.length vc') ∧ w'.cell? ⟨w.heap.size + 1, 1, none⟩ = some (.slice c' ms.length cc')) (by kernel_rfl) (HK.out _ hacc) (fun hH => ?_)
    refine wpAnyH_take (i := 0) (oi := { dst := some 7, op := Op.move (Operand.tmp 0), type := 22, pos := "l07_graphs.go:131", after := #[], guard := none }) (v := .slice a xs.length cap) rfl (by kernel_rfl) (by kernel_rfl) (by kernel_rfl) (fun _ _ _ h => h) (Or.inl ⟨by rfl, fun w _ => by go_simp⟩) hH ?_
    simp only [Act.put, List.setIfInBounds_toArray, List.set_cons_zero, List.set_cons_succ]
    refine wpAnyH_take (i := 1) (oi := { dst := some 8, op := Op.load 33 (Operand.tmp 4), type := 33, pos := "l07_graphs.go:131", after := #[], guard := none }) (v := .agg #[.slice b rs.length vc, .slice c ns.length cc]) rfl (by kernel_rfl) (by kernel_rfl) (by kernel_rfl) (fun _ _ _ h => h) (Or.inl ⟨by rfl, fun w hSw => by obtain ⟨s0, s1, s2, s3⟩ := hSw; go_simp⟩) hH ?_
    simp only [Act.put, List.setIfInBounds_toArray, List.set_cons_zero, List.set_cons_succ]
    refine wpAnyH_ready (rs := [2]) (by kernel_rfl) (by simp) ?_
    refine AllReadyH.cons (i := 2) (o := { dst := some 9, op := Op.call { callee := Callee.value (Operand.func 34), args := #[Operand.tmp 7, Operand.tmp 8], argTypes := #[22, 33] }, type := 4, pos := "l07_graphs.go:131", after := #[{ on := 0, ground := Ground.data }, { on := 1, ground := Ground.data }], guard := none }) (rs := []) rfl ?_ AllReadyH.nil
    intro K hK
    go_simp
    go_at_call 34
    refine (HG1.out _ hacc).mono ?_
    rintro e w3 ⟨rfl, hb⟩
    have hac2 : Below W.heap.size W w3 := hacc.trans (hb.mono hacc.size)
    clear hacc hb; have hacc := hac2; clear hac2
    refine hK.out _ _ (HK.out _ hacc) (fun hH => ?_)
    clear hK K
    try simp only [Act.put, List.setIfInBounds_toArray, List.set_cons_zero, List.set_cons_succ]
    refine wpAnyH_take (i := 3) (oi := { dst := some 10, op := Op.move (Operand.tmp 9), type := 4, pos := "l07_graphs.go:131", after := #[{ on := 2, ground := Ground.data }, { on := 2, ground := Ground.chain }], guard := none }) (v := .bool false) rfl (by kernel_rfl) (by kernel_rfl) (by kernel_rfl) (fun _ _ _ h => h) (Or.inl ⟨by rfl, fun w _ => by go_simp⟩) hH ?_
    simp only [Act.put, List.setIfInBounds_toArray, List.set_cons_zero, List.set_cons_succ]
    refine wpAnyH_take (i := 4) (oi := { dst := some 11, op := Op.move (Operand.tmp 0), type := 22, pos := "l07_graphs.go:131", after := #[{ on := 3, ground := Ground.guard }], guard := some (3, true) }) (v := undef) rfl (by kernel_rfl) (by kernel_rfl) (by kernel_rfl) (fun _ _ _ h => h) (Or.inr ⟨by rfl, rfl⟩) hH ?_
    simp only [Act.put, List.setIfInBounds_toArray, List.set_cons_zero, List.set_cons_succ]
    refine wpAnyH_take (i := 5) (oi := { dst := some 12, op := Op.load 33 (Operand.tmp 5), type := 33, pos := "l07_graphs.go:131", after := #[{ on := 3, ground := Ground.guard }], guard := some (3, true) }) (v := undef) rfl (by kernel_rfl) (by kernel_rfl) (by kernel_rfl) (fun _ _ _ h => h) (Or.inr ⟨by rfl, rfl⟩) hH ?_
    simp only [Act.put, List.setIfInBounds_toArray, List.set_cons_zero, List.set_cons_succ]
    refine wpAnyH_take (i := 6) (oi := { dst := some 13, op := Op.call { callee := Callee.value (Operand.func 34), args := #[Operand.tmp 11, Operand.tmp 12], argTypes := #[22, 33] }, type := 4, pos := "l07_graphs.go:131", after := #[{ on := 4, ground := Ground.data }, { on := 5, ground := Ground.data }, { on := 3, ground := Ground.chain }, { on := 3, ground := Ground.guard }], guard := some (3, true) }) (v := undef) rfl (by kernel_rfl) (by kernel_rfl) (by kernel_rfl) (fun _ _ _ h => h) (Or.inr ⟨by rfl, rfl⟩) hH ?_
    simp only [Act.put, List.setIfInBounds_toArray, List.set_cons_zero, List.set_cons_succ]
    refine wpAnyH_take (i := 7) (oi := { dst := some 14, op := Op.pick (Operand.tmp 10) (Operand.tmp 13) (Operand.const (Value.bool false)), type := 4, pos := "l07_graphs.go:131", after := #[{ on := 3, ground := Ground.data }, { on := 6, ground := Ground.data }], guard := none }) (v := .bool false) rfl (by kernel_rfl) (by kernel_rfl) (by kernel_rfl) (fun _ _ _ h => h) (Or.inl ⟨by rfl, fun w _ => by go_simp⟩) hH ?_
    simp only [Act.put, List.setIfInBounds_toArray, List.set_cons_zero, List.set_cons_succ]
    refine wpAnyH_take (i := 8) (oi := { dst := some 15, op := Op.move (Operand.tmp 14), type := 4, pos := "l07_graphs.go:131", after := #[{ on := 7, ground := Ground.data }, { on := 6, ground := Ground.chain }], guard := none }) (v := .bool false) rfl (by kernel_rfl) (by kernel_rfl) (by kernel_rfl) (fun _ _ _ h => h) (Or.inl ⟨by rfl, fun w _ => by go_simp⟩) hH ?_
    simp only [Act.put, List.setIfInBounds_toArray, List.set_cons_zero, List.set_cons_succ]
    refine wpAnyH_take (i := 9) (oi := { dst := some 16, op := Op.move (Operand.tmp 0), type := 22, pos := "l07_graphs.go:131", after := #[{ on := 8, ground := Ground.guard }], guard := some (8, true) }) (v := undef) rfl (by kernel_rfl) (by kernel_rfl) (by kernel_rfl) (fun _ _ _ h => h) (Or.inr ⟨by rfl, rfl⟩) hH ?_
    simp only [Act.put, List.setIfInBounds_toArray, List.set_cons_zero, List.set_cons_succ]
    refine wpAnyH_take (i := 10) (oi := { dst := some 17, op := Op.load 33 (Operand.tmp 4), type := 33, pos := "l07_graphs.go:131", after := #[{ on := 8, ground := Ground.guard }], guard := some (8, true) }) (v := undef) rfl (by kernel_rfl) (by kernel_rfl) (by kernel_rfl) (fun _ _ _ h => h) (Or.inr ⟨by rfl, rfl⟩) hH ?_
    simp only [Act.put, List.setIfInBounds_toArray, List.set_cons_zero, List.set_cons_succ]
    refine wpAnyH_take (i := 12) (oi := { dst := some 19, op := Op.move (Operand.tmp 0), type := 22, pos := "l07_graphs.go:131", after := #[{ on := 8, ground := Ground.guard }], guard := some (8, true) }) (v := undef) rfl (by kernel_rfl) (by kernel_rfl) (by kernel_rfl) (fun _ _ _ h => h) (Or.inr ⟨by rfl, rfl⟩) hH ?_
    simp only [Act.put, List.setIfInBounds_toArray, List.set_cons_zero, List.set_cons_succ]
    refine wpAnyH_take (i := 13) (oi := { dst := some 20, op := Op.load 33 (Operand.tmp 5), type := 33, pos := "l07_graphs.go:131", after := #[{ on := 8, ground := Ground.guard }], guard := some (8, true) }) (v := undef) rfl (by kernel_rfl) (by kernel_rfl) (by kernel_rfl) (fun _ _ _ h => h) (Or.inr ⟨by rfl, rfl⟩) hH ?_
    simp only [Act.put, List.setIfInBounds_toArray, List.set_cons_zero, List.set_cons_succ]
    refine wpAnyH_take (i := 11) (oi := { dst := some 18, op := Op.call { callee := Callee.value (Operand.func 47), args := #[Operand.tmp 16, Operand.tmp 17], argTypes := #[22, 33] }, type := 33, pos := "l07_graphs.go:131", after := #[{ on := 9, ground := Ground.data }, { on := 10, ground := Ground.data }, { on := 8, ground := Ground.chain }, { on := 8, ground := Ground.guard }], guard := some (8, true) }) (v := undef) rfl (by kernel_rfl) (by kernel_rfl) (by kernel_rfl) (fun _ _ _ h => h) (Or.inr ⟨by rfl, rfl⟩) hH ?_
    simp only [Act.put, List.setIfInBounds_toArray, List.set_cons_zero, List.set_cons_succ]
    refine wpAnyH_take (i := 14) (oi := { dst := some 21, op := Op.call { callee := Callee.value (Operand.func 47), args := #[Operand.tmp 19, Operand.tmp 20], argTypes := #[22, 33] }, type := 33, pos := "l07_graphs.go:131", after := #[{ on := 12, ground := Ground.data }, { on := 13, ground := Ground.data }, { on := 11, ground := Ground.chain }, { on := 8, ground := Ground.guard }], guard := some (8, true) }) (v := undef) rfl (by kernel_rfl) (by kernel_rfl) (by kernel_rfl) (fun _ _ _ h => h) (Or.inr ⟨by rfl, rfl⟩) hH ?_
    simp only [Act.put, List.setIfInBounds_toArray, List.set_cons_zero, List.set_cons_succ]
    refine wpAnyH_take (i := 15) (oi := { dst := some 22, op := Op.call { callee := Callee.value (Operand.func 51), args := #[Operand.tmp 18, Operand.tmp 21], argTypes := #[33, 33] }, type := 4, pos := "l07_graphs.go:131", after := #[{ on := 11, ground := Ground.data }, { on := 14, ground := Ground.data }, { on := 14, ground := Ground.chain }, { on := 8, ground := Ground.guard }], guard := some (8, true) }) (v := undef) rfl (by kernel_rfl) (by kernel_rfl) (by kernel_rfl) (fun _ _ _ h => h) (Or.inr ⟨by rfl, rfl⟩) hH ?_
    simp only [Act.put, List.setIfInBounds_toArray, List.set_cons_zero, List.set_cons_succ]
    refine wpAnyH_take (i := 16) (oi := { dst := some 23, op := Op.pick (Operand.tmp 15) (Operand.tmp 22) (Operand.const (Value.bool false)), type := 4, pos := "l07_graphs.go:131", after := #[{ on := 8, ground := Ground.data }, { on := 15, ground := Ground.data }], guard := none }) (v := .bool false) rfl (by kernel_rfl) (by kernel_rfl) (by kernel_rfl) (fun _ _ _ h => h) (Or.inl ⟨by rfl, fun w _ => by go_simp⟩) hH ?_
    simp only [Act.put, List.setIfInBounds_toArray, List.set_cons_zero, List.set_cons_succ]
    refine wpAnyH_ready (rs := [17]) (by kernel_rfl) (by simp) ?_
    refine AllReadyH.cons (i := 17) (o := { dst := some 6, op := Op.assign (Operand.tmp 23), type := 4, pos := "l07_graphs.go:131", after := #[{ on := 16, ground := Ground.data }, { on := 15, ground := Ground.chain }, { on := 0, ground := Ground.phase }, { on := 1, ground := Ground.phase }, { on := 2, ground := Ground.phase }, { on := 3, ground := Ground.phase }, { on := 4, ground := Ground.phase }, { on := 5, ground := Ground.phase }, { on := 6, ground := Ground.phase }, { on := 7, ground := Ground.phase }, { on := 8, ground := Ground.phase }, { on := 9, ground := Ground.phase }, { on := 10, ground := Ground.phase }, { on := 11, ground := Ground.phase }, { on := 12, ground := Ground.phase }, { on := 13, ground := Ground.phase }, { on := 14, ground := Ground.phase }, { on := 15, ground := Ground.phase }, { on := 16, ground := Ground.phase }], guard := none }) (rs := []) rfl ?_ AllReadyH.nil
    intro K hK
    go_simp
    refine hK.out _ _ (HK.out _ hacc) (fun hH => ?_)
    clear hK K
    try simp only [Act.put, List.setIfInBounds_toArray, List.set_cons_zero, List.set_cons_succ]
    refine wpAnyH_done (by kernel_rfl) ?_ _
    clear hH
    all_goals
      have HBE : Hid (Below w.heap.size w w3) := HB0.out.trans (hacc.mono HB0.out.size)
      go_wp2
      go_ret
      exact ⟨by rw [HR.out]; rfl, HBE.out⟩
  | true =>
    cases h2 : graphB xs qs ms with
    | false =>
      rw [h1] at HG1 HAL
      rw [h2] at HG2 HAL
      have HR : Hid (al = false) := by show al = false; rw [HAL.out]; rfl
      clear h1 h2 HP1 HP2 HSM HAL
      go_enter Try.func26, Try.ntmps26
      go_wp2_with (rw [← HW.out])
      refine wp_region_held_drew (S := fun w' => w'.cell? ⟨w.heap.size, 0, none⟩ = some (.slice b rs.length vc) ∧ w'.cell? ⟨w.heap.size, 1, none⟩ = some (.slice c ns.length cc) ∧ w'.cell? ⟨w.heap.size + 1, 0, none⟩ = some (.slice b' qs.length vc') ∧ w'.cell? ⟨w.heap.size + 1, 1, none⟩ = some (.slice c' ms.length cc')) (by kernel_rfl) (HK.out _ hacc) (fun hH => ?_)
      refine wpAnyH_take (i := 0) (oi := { dst := some 7, op := Op.move (Operand.tmp 0), type := 22, pos := "l07_graphs.go:131", after := #[], guard := none }) (v := .slice a xs.length cap) rfl (by kernel_rfl) (by kernel_rfl) (by kernel_rfl) (fun _ _ _ h => h) (Or.inl ⟨by rfl, fun w _ => by go_simp⟩) hH ?_
      simp only [Act.put, List.setIfInBounds_toArray, List.set_cons_zero, List.set_cons_succ]
      refine wpAnyH_take (i := 1) (oi := { dst := some 8, op := Op.load 33 (Operand.tmp 4), type := 33, pos := "l07_graphs.go:131", after := #[], guard := none }) (v := .agg #[.slice b rs.length vc, .slice c ns.length cc]) rfl (by kernel_rfl) (by kernel_rfl) (by kernel_rfl) (fun _ _ _ h => h) (Or.inl ⟨by rfl, fun w hSw => by obtain ⟨s0, s1, s2, s3⟩ := hSw; go_simp⟩) hH ?_
      simp only [Act.put, List.setIfInBounds_toArray, List.set_cons_zero, List.set_cons_succ]
      refine wpAnyH_ready (rs := [2]) (by kernel_rfl) (by simp) ?_
      refine AllReadyH.cons (i := 2) (o := { dst := some 9, op := Op.call { callee := Callee.value (Operand.func 34), args := #[Operand.tmp 7, Operand.tmp 8], argTypes := #[22, 33] }, type := 4, pos := "l07_graphs.go:131", after := #[{ on := 0, ground := Ground.data }, { on := 1, ground := Ground.data }], guard := none }) (rs := []) rfl ?_ AllReadyH.nil
      intro K hK
      go_simp
      go_at_call 34
      refine (HG1.out _ hacc).mono ?_
      rintro e w3 ⟨rfl, hb⟩
      have hac2 : Below W.heap.size W w3 := hacc.trans (hb.mono hacc.size)
      clear hacc hb; have hacc := hac2; clear hac2
      refine hK.out _ _ (HK.out _ hacc) (fun hH => ?_)
      clear hK K
      try simp only [Act.put, List.setIfInBounds_toArray, List.set_cons_zero, List.set_cons_succ]
      refine wpAnyH_take (i := 3) (oi := { dst := some 10, op := Op.move (Operand.tmp 9), type := 4, pos := "l07_graphs.go:131", after := #[{ on := 2, ground := Ground.data }, { on := 2, ground := Ground.chain }], guard := none }) (v := .bool true) rfl (by kernel_rfl) (by kernel_rfl) (by kernel_rfl) (fun _ _ _ h => h) (Or.inl ⟨by rfl, fun w _ => by go_simp⟩) hH ?_
      simp only [Act.put, List.setIfInBounds_toArray, List.set_cons_zero, List.set_cons_succ]
      refine wpAnyH_take (i := 4) (oi := { dst := some 11, op := Op.move (Operand.tmp 0), type := 22, pos := "l07_graphs.go:131", after := #[{ on := 3, ground := Ground.guard }], guard := some (3, true) }) (v := .slice a xs.length cap) rfl (by kernel_rfl) (by kernel_rfl) (by kernel_rfl) (fun _ _ _ h => h) (Or.inl ⟨by rfl, fun w _ => by go_simp⟩) hH ?_
      simp only [Act.put, List.setIfInBounds_toArray, List.set_cons_zero, List.set_cons_succ]
      refine wpAnyH_take (i := 5) (oi := { dst := some 12, op := Op.load 33 (Operand.tmp 5), type := 33, pos := "l07_graphs.go:131", after := #[{ on := 3, ground := Ground.guard }], guard := some (3, true) }) (v := .agg #[.slice b' qs.length vc', .slice c' ms.length cc']) rfl (by kernel_rfl) (by kernel_rfl) (by kernel_rfl) (fun _ _ _ h => h) (Or.inl ⟨by rfl, fun w hSw => by obtain ⟨s0, s1, s2, s3⟩ := hSw; go_simp⟩) hH ?_
      simp only [Act.put, List.setIfInBounds_toArray, List.set_cons_zero, List.set_cons_succ]
      refine wpAnyH_ready (rs := [6]) (by kernel_rfl) (by simp) ?_
      refine AllReadyH.cons (i := 6) (o := { dst := some 13, op := Op.call { callee := Callee.value (Operand.func 34), args := #[Operand.tmp 11, Operand.tmp 12], argTypes := #[22, 33] }, type := 4, pos := "l07_graphs.go:131", after := #[{ on := 4, ground := Ground.data }, { on := 5, ground := Ground.data }, { on := 3, ground := Ground.chain }, { on := 3, ground := Ground.guard }], guard := some (3, true) }) (rs := []) rfl ?_ AllReadyH.nil
      intro K hK
      go_simp
      go_at_call 34
      refine (HG2.out _ hacc).mono ?_
      rintro e w4 ⟨rfl, hb⟩
      have hac2 : Below W.heap.size W w4 := hacc.trans (hb.mono hacc.size)
      clear hacc hb; have hacc := hac2; clear hac2
      refine hK.out _ _ (HK.out _ hacc) (fun hH => ?_)
      clear hK K
      try simp only [Act.put, List.setIfInBounds_toArray, List.set_cons_zero, List.set_cons_succ]
      refine wpAnyH_take (i := 7) (oi := { dst := some 14, op := Op.pick (Operand.tmp 10) (Operand.tmp 13) (Operand.const (Value.bool false)), type := 4, pos := "l07_graphs.go:131", after := #[{ on := 3, ground := Ground.data }, { on := 6, ground := Ground.data }], guard := none }) (v := .bool false) rfl (by kernel_rfl) (by kernel_rfl) (by kernel_rfl) (fun _ _ _ h => h) (Or.inl ⟨by rfl, fun w _ => by go_simp⟩) hH ?_
      simp only [Act.put, List.setIfInBounds_toArray, List.set_cons_zero, List.set_cons_succ]
      refine wpAnyH_take (i := 8) (oi := { dst := some 15, op := Op.move (Operand.tmp 14), type := 4, pos := "l07_graphs.go:131", after := #[{ on := 7, ground := Ground.data }, { on := 6, ground := Ground.chain }], guard := none }) (v := .bool false) rfl (by kernel_rfl) (by kernel_rfl) (by kernel_rfl) (fun _ _ _ h => h) (Or.inl ⟨by rfl, fun w _ => by go_simp⟩) hH ?_
      simp only [Act.put, List.setIfInBounds_toArray, List.set_cons_zero, List.set_cons_succ]
      refine wpAnyH_take (i := 9) (oi := { dst := some 16, op := Op.move (Operand.tmp 0), type := 22, pos := "l07_graphs.go:131", after := #[{ on := 8, ground := Ground.guard }], guard := some (8, true) }) (v := undef) rfl (by kernel_rfl) (by kernel_rfl) (by kernel_rfl) (fun _ _ _ h => h) (Or.inr ⟨by rfl, rfl⟩) hH ?_
      simp only [Act.put, List.setIfInBounds_toArray, List.set_cons_zero, List.set_cons_succ]
      refine wpAnyH_take (i := 10) (oi := { dst := some 17, op := Op.load 33 (Operand.tmp 4), type := 33, pos := "l07_graphs.go:131", after := #[{ on := 8, ground := Ground.guard }], guard := some (8, true) }) (v := undef) rfl (by kernel_rfl) (by kernel_rfl) (by kernel_rfl) (fun _ _ _ h => h) (Or.inr ⟨by rfl, rfl⟩) hH ?_
      simp only [Act.put, List.setIfInBounds_toArray, List.set_cons_zero, List.set_cons_succ]
      refine wpAnyH_take (i := 12) (oi := { dst := some 19, op := Op.move (Operand.tmp 0), type := 22, pos := "l07_graphs.go:131", after := #[{ on := 8, ground := Ground.guard }], guard := some (8, true) }) (v := undef) rfl (by kernel_rfl) (by kernel_rfl) (by kernel_rfl) (fun _ _ _ h => h) (Or.inr ⟨by rfl, rfl⟩) hH ?_
      simp only [Act.put, List.setIfInBounds_toArray, List.set_cons_zero, List.set_cons_succ]
      refine wpAnyH_take (i := 13) (oi := { dst := some 20, op := Op.load 33 (Operand.tmp 5), type := 33, pos := "l07_graphs.go:131", after := #[{ on := 8, ground := Ground.guard }], guard := some (8, true) }) (v := undef) rfl (by kernel_rfl) (by kernel_rfl) (by kernel_rfl) (fun _ _ _ h => h) (Or.inr ⟨by rfl, rfl⟩) hH ?_
      simp only [Act.put, List.setIfInBounds_toArray, List.set_cons_zero, List.set_cons_succ]
      refine wpAnyH_take (i := 11) (oi := { dst := some 18, op := Op.call { callee := Callee.value (Operand.func 47), args := #[Operand.tmp 16, Operand.tmp 17], argTypes := #[22, 33] }, type := 33, pos := "l07_graphs.go:131", after := #[{ on := 9, ground := Ground.data }, { on := 10, ground := Ground.data }, { on := 8, ground := Ground.chain }, { on := 8, ground := Ground.guard }], guard := some (8, true) }) (v := undef) rfl (by kernel_rfl) (by kernel_rfl) (by kernel_rfl) (fun _ _ _ h => h) (Or.inr ⟨by rfl, rfl⟩) hH ?_
      simp only [Act.put, List.setIfInBounds_toArray, List.set_cons_zero, List.set_cons_succ]
      refine wpAnyH_take (i := 14) (oi := { dst := some 21, op := Op.call { callee := Callee.value (Operand.func 47), args := #[Operand.tmp 19, Operand.tmp 20], argTypes := #[22, 33] }, type := 33, pos := "l07_graphs.go:131", after := #[{ on := 12, ground := Ground.data }, { on := 13, ground := Ground.data }, { on := 11, ground := Ground.chain }, { on := 8, ground := Ground.guard }], guard := some (8, true) }) (v := undef) rfl (by kernel_rfl) (by kernel_rfl) (by kernel_rfl) (fun _ _ _ h => h) (Or.inr ⟨by rfl, rfl⟩) hH ?_
      simp only [Act.put, List.setIfInBounds_toArray, List.set_cons_zero, List.set_cons_succ]
      refine wpAnyH_take (i := 15) (oi := { dst := some 22, op := Op.call { callee := Callee.value (Operand.func 51), args := #[Operand.tmp 18, Operand.tmp 21], argTypes := #[33, 33] }, type := 4, pos := "l07_graphs.go:131", after := #[{ on := 11, ground := Ground.data }, { on := 14, ground := Ground.data }, { on := 14, ground := Ground.chain }, { on := 8, ground := Ground.guard }], guard := some (8, true) }) (v := undef) rfl (by kernel_rfl) (by kernel_rfl) (by kernel_rfl) (fun _ _ _ h => h) (Or.inr ⟨by rfl, rfl⟩) hH ?_
      simp only [Act.put, List.setIfInBounds_toArray, List.set_cons_zero, List.set_cons_succ]
      refine wpAnyH_take (i := 16) (oi := { dst := some 23, op := Op.pick (Operand.tmp 15) (Operand.tmp 22) (Operand.const (Value.bool false)), type := 4, pos := "l07_graphs.go:131", after := #[{ on := 8, ground := Ground.data }, { on := 15, ground := Ground.data }], guard := none }) (v := .bool false) rfl (by kernel_rfl) (by kernel_rfl) (by kernel_rfl) (fun _ _ _ h => h) (Or.inl ⟨by rfl, fun w _ => by go_simp⟩) hH ?_
      simp only [Act.put, List.setIfInBounds_toArray, List.set_cons_zero, List.set_cons_succ]
      refine wpAnyH_ready (rs := [17]) (by kernel_rfl) (by simp) ?_
      refine AllReadyH.cons (i := 17) (o := { dst := some 6, op := Op.assign (Operand.tmp 23), type := 4, pos := "l07_graphs.go:131", after := #[{ on := 16, ground := Ground.data }, { on := 15, ground := Ground.chain }, { on := 0, ground := Ground.phase }, { on := 1, ground := Ground.phase }, { on := 2, ground := Ground.phase }, { on := 3, ground := Ground.phase }, { on := 4, ground := Ground.phase }, { on := 5, ground := Ground.phase }, { on := 6, ground := Ground.phase }, { on := 7, ground := Ground.phase }, { on := 8, ground := Ground.phase }, { on := 9, ground := Ground.phase }, { on := 10, ground := Ground.phase }, { on := 11, ground := Ground.phase }, { on := 12, ground := Ground.phase }, { on := 13, ground := Ground.phase }, { on := 14, ground := Ground.phase }, { on := 15, ground := Ground.phase }, { on := 16, ground := Ground.phase }], guard := none }) (rs := []) rfl ?_ AllReadyH.nil
      intro K hK
      go_simp
      refine hK.out _ _ (HK.out _ hacc) (fun hH => ?_)
      clear hK K
      try simp only [Act.put, List.setIfInBounds_toArray, List.set_cons_zero, List.set_cons_succ]
      refine wpAnyH_done (by kernel_rfl) ?_ _
      clear hH
      all_goals
        have HBE : Hid (Below w.heap.size w w4) := HB0.out.trans (hacc.mono HB0.out.size)
        go_wp2
        go_ret
        exact ⟨by rw [HR.out]; rfl, HBE.out⟩
    | true =>
      have hp1 := HP1.out h1
      have hp2 := HP2.out h2
      rw [h1] at HG1 HAL
      rw [h2] at HG2 HAL
      have HR : Hid (al = z) := by show al = z; rw [HAL.out]; simp
      clear h1 h2 HP1 HP2 HAL
      unfold GOut at hp1 hp2
      have HP1 : Hid (∀ w', Below W.heap.size W w' → Calls _ _ _ w' _) := hp1
      have HP2 : Hid (∀ w', Below W.heap.size W w' → Calls _ _ _ w' _) := hp2
      clear hp1 hp2
      go_enter Try.func26, Try.ntmps26
      go_wp2_with (rw [← HW.out])
      refine wp_region_held_drew (S := fun w' => w'.cell? ⟨w.heap.size, 0, none⟩ = some (.slice b rs.length vc) ∧ w'.cell? ⟨w.heap.size, 1, none⟩ = some (.slice c ns.length cc) ∧ w'.cell? ⟨w.heap.size + 1, 0, none⟩ = some (.slice b' qs.length vc') ∧ w'.cell? ⟨w.heap.size + 1, 1, none⟩ = some (.slice c' ms.length cc')) (by kernel_rfl) (HK.out _ hacc) (fun hH => ?_)
      refine wpAnyH_take (i := 0) (oi := { dst := some 7, op := Op.move (Operand.tmp 0), type := 22, pos := "l07_graphs.go:131", after := #[], guard := none }) (v := .slice a xs.length cap) rfl (by kernel_rfl) (by kernel_rfl) (by kernel_rfl) (fun _ _ _ h => h) (Or.inl ⟨by rfl, fun w _ => by go_simp⟩) hH ?_
      simp only [Act.put, List.setIfInBounds_toArray, List.set_cons_zero, List.set_cons_succ]
      refine wpAnyH_take (i := 1) (oi := { dst := some 8, op := Op.load 33 (Operand.tmp 4), type := 33, pos := "l07_graphs.go:131", after := #[], guard := none }) (v := .agg #[.slice b rs.length vc, .slice c ns.length cc]) rfl (by kernel_rfl) (by kernel_rfl) (by kernel_rfl) (fun _ _ _ h => h) (Or.inl ⟨by rfl, fun w hSw => by obtain ⟨s0, s1, s2, s3⟩ := hSw; go_simp⟩) hH ?_
      simp only [Act.put, List.setIfInBounds_toArray, List.set_cons_zero, List.set_cons_succ]
      refine wpAnyH_ready (rs := [2]) (by kernel_rfl) (by simp) ?_
      refine AllReadyH.cons (i := 2) (o := { dst := some 9, op := Op.call { callee := Callee.value (Operand.func 34), args := #[Operand.tmp 7, Operand.tmp 8], argTypes := #[22, 33] }, type := 4, pos := "l07_graphs.go:131", after := #[{ on := 0, ground := Ground.data }, { on := 1, ground := Ground.data }], guard := none }) (rs := []) rfl ?_ AllReadyH.nil
      intro K hK
      go_simp
      go_at_call 34
      refine (HG1.out _ hacc).mono ?_
      rintro e w3 ⟨rfl, hb⟩
      have hac2 : Below W.heap.size W w3 := hacc.trans (hb.mono hacc.size)
      clear hacc hb; have hacc := hac2; clear hac2
      refine hK.out _ _ (HK.out _ hacc) (fun hH => ?_)
      clear hK K
      try simp only [Act.put, List.setIfInBounds_toArray, List.set_cons_zero, List.set_cons_succ]
      refine wpAnyH_take (i := 3) (oi := { dst := some 10, op := Op.move (Operand.tmp 9), type := 4, pos := "l07_graphs.go:131", after := #[{ on := 2, ground := Ground.data }, { on := 2, ground := Ground.chain }], guard := none }) (v := .bool true) rfl (by kernel_rfl) (by kernel_rfl) (by kernel_rfl) (fun _ _ _ h => h) (Or.inl ⟨by rfl, fun w _ => by go_simp⟩) hH ?_
      simp only [Act.put, List.setIfInBounds_toArray, List.set_cons_zero, List.set_cons_succ]
      refine wpAnyH_take (i := 4) (oi := { dst := some 11, op := Op.move (Operand.tmp 0), type := 22, pos := "l07_graphs.go:131", after := #[{ on := 3, ground := Ground.guard }], guard := some (3, true) }) (v := .slice a xs.length cap) rfl (by kernel_rfl) (by kernel_rfl) (by kernel_rfl) (fun _ _ _ h => h) (Or.inl ⟨by rfl, fun w _ => by go_simp⟩) hH ?_
      simp only [Act.put, List.setIfInBounds_toArray, List.set_cons_zero, List.set_cons_succ]
      refine wpAnyH_take (i := 5) (oi := { dst := some 12, op := Op.load 33 (Operand.tmp 5), type := 33, pos := "l07_graphs.go:131", after := #[{ on := 3, ground := Ground.guard }], guard := some (3, true) }) (v := .agg #[.slice b' qs.length vc', .slice c' ms.length cc']) rfl (by kernel_rfl) (by kernel_rfl) (by kernel_rfl) (fun _ _ _ h => h) (Or.inl ⟨by rfl, fun w hSw => by obtain ⟨s0, s1, s2, s3⟩ := hSw; go_simp⟩) hH ?_
      simp only [Act.put, List.setIfInBounds_toArray, List.set_cons_zero, List.set_cons_succ]
      refine wpAnyH_ready (rs := [6]) (by kernel_rfl) (by simp) ?_
      refine AllReadyH.cons (i := 6) (o := { dst := some 13, op := Op.call { callee := Callee.value (Operand.func 34), args := #[Operand.tmp 11, Operand.tmp 12], argTypes := #[22, 33] }, type := 4, pos := "l07_graphs.go:131", after := #[{ on := 4, ground := Ground.data }, { on := 5, ground := Ground.data }, { on := 3, ground := Ground.chain }, { on := 3, ground := Ground.guard }], guard := some (3, true) }) (rs := []) rfl ?_ AllReadyH.nil
      intro K hK
      go_simp
      go_at_call 34
      refine (HG2.out _ hacc).mono ?_
      rintro e w4 ⟨rfl, hb⟩
      have hac2 : Below W.heap.size W w4 := hacc.trans (hb.mono hacc.size)
      clear hacc hb; have hacc := hac2; clear hac2
      refine hK.out _ _ (HK.out _ hacc) (fun hH => ?_)
      clear hK K
      try simp only [Act.put, List.setIfInBounds_toArray, List.set_cons_zero, List.set_cons_succ]
      refine wpAnyH_take (i := 7) (oi := { dst := some 14, op := Op.pick (Operand.tmp 10) (Operand.tmp 13) (Operand.const (Value.bool false)), type := 4, pos := "l07_graphs.go:131", after := #[{ on := 3, ground := Ground.data }, { on := 6, ground := Ground.data }], guard := none }) (v := .bool true) rfl (by kernel_rfl) (by kernel_rfl) (by kernel_rfl) (fun _ _ _ h => h) (Or.inl ⟨by rfl, fun w _ => by go_simp⟩) hH ?_
      simp only [Act.put, List.setIfInBounds_toArray, List.set_cons_zero, List.set_cons_succ]
      refine wpAnyH_take (i := 8) (oi := { dst := some 15, op := Op.move (Operand.tmp 14), type := 4, pos := "l07_graphs.go:131", after := #[{ on := 7, ground := Ground.data }, { on := 6, ground := Ground.chain }], guard := none }) (v := .bool true) rfl (by kernel_rfl) (by kernel_rfl) (by kernel_rfl) (fun _ _ _ h => h) (Or.inl ⟨by rfl, fun w _ => by go_simp⟩) hH ?_
      simp only [Act.put, List.setIfInBounds_toArray, List.set_cons_zero, List.set_cons_succ]
      refine wpAnyH_take (i := 9) (oi := { dst := some 16, op := Op.move (Operand.tmp 0), type := 22, pos := "l07_graphs.go:131", after := #[{ on := 8, ground := Ground.guard }], guard := some (8, true) }) (v := .slice a xs.length cap) rfl (by kernel_rfl) (by kernel_rfl) (by kernel_rfl) (fun _ _ _ h => h) (Or.inl ⟨by rfl, fun w _ => by go_simp⟩) hH ?_
      simp only [Act.put, List.setIfInBounds_toArray, List.set_cons_zero, List.set_cons_succ]
      refine wpAnyH_take (i := 10) (oi := { dst := some 17, op := Op.load 33 (Operand.tmp 4), type := 33, pos := "l07_graphs.go:131", after := #[{ on := 8, ground := Ground.guard }], guard := some (8, true) }) (v := .agg #[.slice b rs.length vc, .slice c ns.length cc]) rfl (by kernel_rfl) (by kernel_rfl) (by kernel_rfl) (fun _ _ _ h => h) (Or.inl ⟨by rfl, fun w hSw => by obtain ⟨s0, s1, s2, s3⟩ := hSw; go_simp⟩) hH ?_
      simp only [Act.put, List.setIfInBounds_toArray, List.set_cons_zero, List.set_cons_succ]
      refine wpAnyH_take (i := 12) (oi := { dst := some 19, op := Op.move (Operand.tmp 0), type := 22, pos := "l07_graphs.go:131", after := #[{ on := 8, ground := Ground.guard }], guard := some (8, true) }) (v := .slice a xs.length cap) rfl (by kernel_rfl) (by kernel_rfl) (by kernel_rfl) (fun _ _ _ h => h) (Or.inl ⟨by rfl, fun w _ => by go_simp⟩) hH ?_
      simp only [Act.put, List.setIfInBounds_toArray, List.set_cons_zero, List.set_cons_succ]
      refine wpAnyH_take (i := 13) (oi := { dst := some 20, op := Op.load 33 (Operand.tmp 5), type := 33, pos := "l07_graphs.go:131", after := #[{ on := 8, ground := Ground.guard }], guard := some (8, true) }) (v := .agg #[.slice b' qs.length vc', .slice c' ms.length cc']) rfl (by kernel_rfl) (by kernel_rfl) (by kernel_rfl) (fun _ _ _ h => h) (Or.inl ⟨by rfl, fun w hSw => by obtain ⟨s0, s1, s2, s3⟩ := hSw; go_simp⟩) hH ?_
      simp only [Act.put, List.setIfInBounds_toArray, List.set_cons_zero, List.set_cons_succ]
      refine wpAnyH_ready (rs := [11]) (by kernel_rfl) (by simp) ?_
      refine AllReadyH.cons (i := 11) (o := { dst := some 18, op := Op.call { callee := Callee.value (Operand.func 47), args := #[Operand.tmp 16, Operand.tmp 17], argTypes := #[22, 33] }, type := 33, pos := "l07_graphs.go:131", after := #[{ on := 9, ground := Ground.data }, { on := 10, ground := Ground.data }, { on := 8, ground := Ground.chain }, { on := 8, ground := Ground.guard }], guard := some (8, true) }) (rs := []) rfl ?_ AllReadyH.nil
      intro K hK
      go_simp
      go_at_call 47
      refine (HP1.out _ hacc).mono ?_
      rintro e w5 ⟨a5, g5, k5, b5, d5, L5, rfl, hpa5, hb⟩
      have hac2 : Below W.heap.size W w5 := hacc.trans (hb.mono hacc.size)
      clear hacc hb; have hacc := hac2; clear hac2
      refine hK.out _ _ (HK.out _ hacc) (fun hH => ?_)
      clear hK K
      try simp only [Act.put, List.setIfInBounds_toArray, List.set_cons_zero, List.set_cons_succ]
      refine wpAnyH_ready (rs := [14]) (by kernel_rfl) (by simp) ?_
      refine AllReadyH.cons (i := 14) (o := { dst := some 21, op := Op.call { callee := Callee.value (Operand.func 47), args := #[Operand.tmp 19, Operand.tmp 20], argTypes := #[22, 33] }, type := 33, pos := "l07_graphs.go:131", after := #[{ on := 12, ground := Ground.data }, { on := 13, ground := Ground.data }, { on := 11, ground := Ground.chain }, { on := 8, ground := Ground.guard }], guard := some (8, true) }) (rs := []) rfl ?_ AllReadyH.nil
      intro K hK
      go_simp
      go_at_call 47
      refine (HP2.out _ hacc).mono ?_
      rintro e w6 ⟨a6, g6, k6, b6, d6, L6, rfl, hpa6, hb⟩
      have hi5 := hpa5.ir.nums.below hb; have ho5 := hpa5.og.below hb
      have hac2 : Below W.heap.size W w6 := hacc.trans (hb.mono hacc.size)
      clear hacc hb; have hacc := hac2; clear hac2
      refine hK.out _ _ (HK.out _ hacc) (fun hH => ?_)
      clear hK K
      try simp only [Act.put, List.setIfInBounds_toArray, List.set_cons_zero, List.set_cons_succ]
      refine wpAnyH_ready (rs := [15]) (by kernel_rfl) (by simp) ?_
      refine AllReadyH.cons (i := 15) (o := { dst := some 22, op := Op.call { callee := Callee.value (Operand.func 51), args := #[Operand.tmp 18, Operand.tmp 21], argTypes := #[33, 33] }, type := 4, pos := "l07_graphs.go:131", after := #[{ on := 11, ground := Ground.data }, { on := 14, ground := Ground.data }, { on := 14, ground := Ground.chain }, { on := 8, ground := Ground.guard }], guard := some (8, true) }) (rs := []) rfl ?_ AllReadyH.nil
      intro K hK
      go_simp
      go_at_call 51
      refine (HSM.out w6 a5 b5 a6 b6 k5 d5 k6 d6 hi5 hpa6.ir.nums ho5 hpa6.og).mono ?_
      rintro e w7 ⟨rfl, hb⟩
      have hac2 : Below W.heap.size W w7 := hacc.trans (hb.mono hacc.size)
      clear hacc hb; have hacc := hac2; clear hac2
      refine hK.out _ _ (HK.out _ hacc) (fun hH => ?_)
      clear hK K
      try simp only [Act.put, List.setIfInBounds_toArray, List.set_cons_zero, List.set_cons_succ]
      refine wpAnyH_take (i := 16) (oi := { dst := some 23, op := Op.pick (Operand.tmp 15) (Operand.tmp 22) (Operand.const (Value.bool false)), type := 4, pos := "l07_graphs.go:131", after := #[{ on := 8, ground := Ground.data }, { on := 15, ground := Ground.data }], guard := none }) (v := .bool z) rfl (by kernel_rfl) (by kernel_rfl) (by kernel_rfl) (fun _ _ _ h => h) (Or.inl ⟨by rfl, fun w _ => by go_simp⟩) hH ?_
      simp only [Act.put, List.setIfInBounds_toArray, List.set_cons_zero, List.set_cons_succ]
      refine wpAnyH_ready (rs := [17]) (by kernel_rfl) (by simp) ?_
      refine AllReadyH.cons (i := 17) (o := { dst := some 6, op := Op.assign (Operand.tmp 23), type := 4, pos := "l07_graphs.go:131", after := #[{ on := 16, ground := Ground.data }, { on := 15, ground := Ground.chain }, { on := 0, ground := Ground.phase }, { on := 1, ground := Ground.phase }, { on := 2, ground := Ground.phase }, { on := 3, ground := Ground.phase }, { on := 4, ground := Ground.phase }, { on := 5, ground := Ground.phase }, { on := 6, ground := Ground.phase }, { on := 7, ground := Ground.phase }, { on := 8, ground := Ground.phase }, { on := 9, ground := Ground.phase }, { on := 10, ground := Ground.phase }, { on := 11, ground := Ground.phase }, { on := 12, ground := Ground.phase }, { on := 13, ground := Ground.phase }, { on := 14, ground := Ground.phase }, { on := 15, ground := Ground.phase }, { on := 16, ground := Ground.phase }], guard := none }) (rs := []) rfl ?_ AllReadyH.nil
      intro K hK
      go_simp
      refine hK.out _ _ (HK.out _ hacc) (fun hH => ?_)
      clear hK K
      try simp only [Act.put, List.setIfInBounds_toArray, List.set_cons_zero, List.set_cons_succ]
      refine wpAnyH_done (by kernel_rfl) ?_ _
      clear hH
      all_goals
        have HBE : Hid (Below w.heap.size w w7) := HB0.out.trans (hacc.mono HB0.out.size)
        go_wp2
        go_ret
        exact ⟨by rw [HR.out]; rfl, HBE.out⟩
set_option linter.unusedSimpArgs false in
set_option maxHeartbeats 4000000 in
set_option maxRecDepth 20000 in
theorem impl_alike (w : World) (a : Option Addr) (cap : Nat) (xs : List ByteArray) (b : Option Addr) (vc : Nat) (rs : List Int) (c : Option Addr) (cc : Nat) (ns : List Nd) (b' : Option Addr) (vc' : Nat) (qs : List Int) (c' : Option Addr) (cc' : Nat) (ms : List Nd) (hn : xs.length ≤ 1048576) (hz : ∀ i (hi : i < xs.length), xs[i].size ≤ 1048576) (hrl : rs.length ≤ 1048576) (hnl : ns.length ≤ 1048576) (hql : qs.length ≤ 1048576) (hml : ms.length ≤ 1048576) (hl : Strs w a xs) (hr : Nums w b rs) (hg : Nodes w c ns) (hq : Nums w b' qs) (hm : Nodes w c' ms) :
    Calls Try.prog 27 #[.slice a xs.length cap, .agg #[.slice b rs.length vc, .slice c ns.length cc], .agg #[.slice b' qs.length vc', .slice c' ms.length cc']] w fun e w' => e = .returned (.bool (alikeB xs rs ns qs ms)) ∧ Below w.heap.size w w' := by
  obtain ⟨W, hW⟩ : ∃ W, W = (w.alloc (.cells #[.slice b rs.length vc, .slice c ns.length cc] 33)).alloc (.cells #[.slice b' qs.length vc', .slice c' ms.length cc'] 33) := ⟨_, rfl⟩
  have HW : Hid (W = (w.alloc (.cells #[.slice b rs.length vc, .slice c ns.length cc] 33)).alloc (.cells #[.slice b' qs.length vc', .slice c' ms.length cc'] 33)) := hW
  have hb0 : Below w.heap.size w W := by rw [hW]; exact ((Below.refl _ _).alloc (Nat.le_refl _) _).alloc (by simp) _
  have HB0 : Hid (Below w.heap.size w W) := hb0
  have hsz : W.heap.size = w.heap.size + 2 := by rw [hW]; simp
  have k0 : W.cell? ⟨w.heap.size, 0, none⟩ = some (.slice b rs.length vc) := by rw [hW, World.cell?_alloc_past _ _ _ (by simp), World.cell?_alloc_at _ _ _ _ (by simp)]; rfl
  have k1 : W.cell? ⟨w.heap.size, 1, none⟩ = some (.slice c ns.length cc) := by rw [hW, World.cell?_alloc_past _ _ _ (by simp), World.cell?_alloc_at _ _ _ _ (by simp)]; rfl
  have k2 : W.cell? ⟨w.heap.size + 1, 0, none⟩ = some (.slice b' qs.length vc') := by rw [hW, World.cell?_alloc_at _ _ _ _ (by simp)]; rfl
  have k3 : W.cell? ⟨w.heap.size + 1, 1, none⟩ = some (.slice c' ms.length cc') := by rw [hW, World.cell?_alloc_at _ _ _ _ (by simp)]; rfl
  have HK : Hid (∀ w', Below W.heap.size W w' → w'.cell? ⟨w.heap.size, 0, none⟩ = some (.slice b rs.length vc) ∧ w'.cell? ⟨w.heap.size, 1, none⟩ = some (.slice c ns.length cc) ∧ w'.cell? ⟨w.heap.size + 1, 0, none⟩ = some (.slice b' qs.length vc') ∧ w'.cell? ⟨w.heap.size + 1, 1, none⟩ = some (.slice c' ms.length cc')) := fun w' h =>
    ⟨by rw [h.cell (p := ⟨w.heap.size, 0, none⟩) (by show w.heap.size < _; omega)]; exact k0, by rw [h.cell (p := ⟨w.heap.size, 1, none⟩) (by show w.heap.size < _; omega)]; exact k1, by rw [h.cell (p := ⟨w.heap.size + 1, 0, none⟩) (by show w.heap.size + 1 < _; omega)]; exact k2, by rw [h.cell (p := ⟨w.heap.size + 1, 1, none⟩) (by show w.heap.size + 1 < _; omega)]; exact k3⟩
  have HG1 : Hid (∀ w', Below W.heap.size W w' → Calls _ _ _ w' _) := fun w' h => impl_graphok w' a cap xs b vc rs c cc ns hn hz hrl hnl ((hl.below hb0).below h) ((hr.below hb0).below h) ((hg.below hb0).below h)
  have HG2 : Hid (∀ w', Below W.heap.size W w' → Calls _ _ _ w' _) := fun w' h => impl_graphok w' a cap xs b' vc' qs c' cc' ms hn hz hql hml ((hl.below hb0).below h) ((hq.below hb0).below h) ((hm.below hb0).below h)
  have HP1 : Hid (graphB xs rs ns = true → ∀ w', Below W.heap.size W w' → Calls Try.prog 24 #[.slice a xs.length cap, .agg #[.slice b rs.length vc, .slice c ns.length cc]] w' fun e w'' => GOut (plainR xs rs ns) (plainN xs rs ns) w' e w'') := fun _ w' h => (impl_plain w' a cap xs b vc rs c cc ns hn hz hrl hnl ((hl.below hb0).below h) ((hr.below hb0).below h) ((hg.below hb0).below h)).mono (fun _ _ q => gout_of q)
  have HP2 : Hid (graphB xs qs ms = true → ∀ w', Below W.heap.size W w' → Calls Try.prog 24 #[.slice a xs.length cap, .agg #[.slice b' qs.length vc', .slice c' ms.length cc']] w' fun e w'' => GOut (plainR xs qs ms) (plainN xs qs ms) w' e w'') := fun _ w' h => (impl_plain w' a cap xs b' vc' qs c' cc' ms hn hz hql hml ((hl.below hb0).below h) ((hq.below hb0).below h) ((hm.below hb0).below h)).mono (fun _ _ q => gout_of q)
  have HAL : Hid (alikeB xs rs ns qs ms = (graphB xs rs ns && graphB xs qs ms && (decide (plainR xs rs ns = plainR xs qs ms) && decide (plainN xs rs ns = plainN xs qs ms)))) := rfl
  obtain ⟨s1, s2, s3⟩ := plain_small xs rs ns
  have HSM : Hid (∀ (w' : World) (p1 p2 q1 q2 : Option Addr) (c1 c2 d1 d2 : Nat), Nums w' p1 (plainR xs rs ns) → Nums w' q1 (plainR xs qs ms) → Og w' p2 (plainN xs rs ns) → Og w' q2 (plainN xs qs ms) → Calls _ _ _ w' _) := fun w' p1 p2 q1 q2 c1 c2 d1 d2 h1 h2 h3 h4 => samegraph_any w' p1 p2 q1 q2 c1 c2 d1 d2 (plainR xs rs ns) (plainR xs qs ms) (plainN xs rs ns) (plainN xs qs ms) (by omega) (by omega) (fun x hx => by have := s3 x hx; omega) h1 h2 h3 h4
  have hacc : Below W.heap.size W W.drew := (Below.refl _ _).drew
  generalize alikeB xs rs ns qs ms = al at HAL ⊢
  generalize plainR xs rs ns = pr at HP1 HSM HAL
  generalize plainN xs rs ns = pn at HP1 HSM HAL
  generalize plainR xs qs ms = pq at HP2 HSM HAL
  generalize plainN xs qs ms = pm at HP2 HSM HAL
  generalize (decide (pr = pq) && decide (pn = pm)) = z at HSM HAL
  clear hW hb0 hsz hl hr hg hq hm hn hz hrl hnl hql hml s1 s2 s3
  cases h1 : graphB xs rs ns with
  | false =>
    rw [h1] at HG1 HAL
    have HR : Hid (al = false) := by show al = false; rw [HAL.out]; rfl
    clear h1 HG2 HP1 HP2 HSM HAL
    go_enter Try.func27, Try.ntmps27
    go_wp2_with (rw [← HW.out])
    refine wp_region_held_drew (S := fun w' => w'.cell? ⟨w.heap.size, 0, none⟩ = some (.slice b rs.length vc) ∧ w'.cell? ⟨w.heap.size, 1, none⟩ = some (.slice c ns.length cc) ∧ w'.cell? ⟨w.heap.size + 1, 0, none⟩ = some (.slice b' qs.length vc') ∧ w'.cell? ⟨w.heap.size + 1, 1, none⟩ = some (.slice c' ms.length cc')) (by kernel_rfl) (HK.out _ hacc) (fun hH => ?_)
    refine wpAnyH_take (i := 0) (oi := { dst := some 7, op := Op.move (Operand.tmp 0), type := 22, pos := "l07_graphs.go:77", after := #[], guard := none }) (v := .slice a xs.length cap) rfl (by kernel_rfl) (by kernel_rfl) (by kernel_rfl) (fun _ _ _ h => h) (Or.inl ⟨by rfl, fun w _ => by go_simp⟩) hH ?_
    simp only [Act.put, List.setIfInBounds_toArray, List.set_cons_zero, List.set_cons_succ]
    refine wpAnyH_take (i := 1) (oi := { dst := some 8, op := Op.load 33 (Operand.tmp 4), type := 33, pos := "l07_graphs.go:77", after := #[], guard := none }) (v := .agg #[.slice b rs.length vc, .slice c ns.length cc]) rfl (by kernel_rfl) (by kernel_rfl) (by kernel_rfl) (fun _ _ _ h => h) (Or.inl ⟨by rfl, fun w hSw => by obtain ⟨s0, s1, s2, s3⟩ := hSw; go_simp⟩) hH ?_
    simp only [Act.put, List.setIfInBounds_toArray, List.set_cons_zero, List.set_cons_succ]
    refine wpAnyH_ready (rs := [2]) (by kernel_rfl) (by simp) ?_
    refine AllReadyH.cons (i := 2) (o := { dst := some 9, op := Op.call { callee := Callee.value (Operand.func 33), args := #[Operand.tmp 7, Operand.tmp 8], argTypes := #[22, 33] }, type := 4, pos := "l07_graphs.go:77", after := #[{ on := 0, ground := Ground.data }, { on := 1, ground := Ground.data }], guard := none }) (rs := []) rfl ?_ AllReadyH.nil
    intro K hK
    go_simp
    go_at_call 33
    refine (HG1.out _ hacc).mono ?_
    rintro e w3 ⟨rfl, hb⟩
    have hac2 : Below W.heap.size W w3 := hacc.trans (hb.mono hacc.size)
    clear hacc hb; have hacc := hac2; clear hac2
    refine hK.out _ _ (HK.out _ hacc) (fun hH => ?_)
    clear hK K
    try simp only [Act.put, List.setIfInBounds_toArray, List.set_cons_zero, List.set_cons_succ]
    refine wpAnyH_take (i := 3) (oi := { dst := some 10, op := Op.move (Operand.tmp 9), type := 4, pos := "l07_graphs.go:77", after := #[{ on := 2, ground := Ground.data }, { on := 2, ground := Ground.chain }], guard := none }) (v := .bool false) rfl (by kernel_rfl) (by kernel_rfl) (by kernel_rfl) (fun _ _ _ h => h) (Or.inl ⟨by rfl, fun w _ => by go_simp⟩) hH ?_
    simp only [Act.put, List.setIfInBounds_toArray, List.set_cons_zero, List.set_cons_succ]
    refine wpAnyH_take (i := 4) (oi := { dst := some 11, op := Op.move (Operand.tmp 0), type := 22, pos := "l07_graphs.go:77", after := #[{ on := 3, ground := Ground.guard }], guard := some (3, true) }) (v := undef) rfl (by kernel_rfl) (by kernel_rfl) (by kernel_rfl) (fun _ _ _ h => h) (Or.inr ⟨by rfl, rfl⟩) hH ?_
    simp only [Act.put, List.setIfInBounds_toArray, List.set_cons_zero, List.set_cons_succ]
    refine wpAnyH_take (i := 5) (oi := { dst := some 12, op := Op.load 33 (Operand.tmp 5), type := 33, pos := "l07_graphs.go:77", after := #[{ on := 3, ground := Ground.guard }], guard := some (3, true) }) (v := undef) rfl (by kernel_rfl) (by kernel_rfl) (by kernel_rfl) (fun _ _ _ h => h) (Or.inr ⟨by rfl, rfl⟩) hH ?_
    simp only [Act.put, List.setIfInBounds_toArray, List.set_cons_zero, List.set_cons_succ]
    refine wpAnyH_take (i := 6) (oi := { dst := some 13, op := Op.call { callee := Callee.value (Operand.func 33), args := #[Operand.tmp 11, Operand.tmp 12], argTypes := #[22, 33] }, type := 4, pos := "l07_graphs.go:77", after := #[{ on := 4, ground := Ground.data }, { on := 5, ground := Ground.data }, { on := 3, ground := Ground.chain }, { on := 3, ground := Ground.guard }], guard := some (3, true) }) (v := undef) rfl (by kernel_rfl) (by kernel_rfl) (by kernel_rfl) (fun _ _ _ h => h) (Or.inr ⟨by rfl, rfl⟩) hH ?_
    simp only [Act.put, List.setIfInBounds_toArray, List.set_cons_zero, List.set_cons_succ]
    refine wpAnyH_take (i := 7) (oi := { dst := some 14, op := Op.pick (Operand.tmp 10) (Operand.tmp 13) (Operand.const (Value.bool false)), type := 4, pos := "l07_graphs.go:77", after := #[{ on := 3, ground := Ground.data }, { on := 6, ground := Ground.data }], guard := none }) (v := .bool false) rfl (by kernel_rfl) (by kernel_rfl) (by kernel_rfl) (fun _ _ _ h => h) (Or.inl ⟨by rfl, fun w _ => by go_simp⟩) hH ?_
    simp only [Act.put, List.setIfInBounds_toArray, List.set_cons_zero, List.set_cons_succ]
    refine wpAnyH_take (i := 8) (oi := { dst := some 15, op := Op.move (Operand.tmp 14), type := 4, pos := "l07_graphs.go:77", after := #[{ on := 7, ground := Ground.data }, { on := 6, ground := Ground.chain }], guard := none }) (v := .bool false) rfl (by kernel_rfl) (by kernel_rfl) (by kernel_rfl) (fun _ _ _ h => h) (Or.inl ⟨by rfl, fun w _ => by go_simp⟩) hH ?_
    simp only [Act.put, List.setIfInBounds_toArray, List.set_cons_zero, List.set_cons_succ]
    refine wpAnyH_take (i := 9) (oi := { dst := some 16, op := Op.move (Operand.tmp 0), type := 22, pos := "l07_graphs.go:77", after := #[{ on := 8, ground := Ground.guard }], guard := some (8, true) }) (v := undef) rfl (by kernel_rfl) (by kernel_rfl) (by kernel_rfl) (fun _ _ _ h => h) (Or.inr ⟨by rfl, rfl⟩) hH ?_
    simp only [Act.put, List.setIfInBounds_toArray, List.set_cons_zero, List.set_cons_succ]
    refine wpAnyH_take (i := 10) (oi := { dst := some 17, op := Op.load 33 (Operand.tmp 4), type := 33, pos := "l07_graphs.go:77", after := #[{ on := 8, ground := Ground.guard }], guard := some (8, true) }) (v := undef) rfl (by kernel_rfl) (by kernel_rfl) (by kernel_rfl) (fun _ _ _ h => h) (Or.inr ⟨by rfl, rfl⟩) hH ?_
    simp only [Act.put, List.setIfInBounds_toArray, List.set_cons_zero, List.set_cons_succ]
    refine wpAnyH_take (i := 12) (oi := { dst := some 19, op := Op.move (Operand.tmp 0), type := 22, pos := "l07_graphs.go:77", after := #[{ on := 8, ground := Ground.guard }], guard := some (8, true) }) (v := undef) rfl (by kernel_rfl) (by kernel_rfl) (by kernel_rfl) (fun _ _ _ h => h) (Or.inr ⟨by rfl, rfl⟩) hH ?_
    simp only [Act.put, List.setIfInBounds_toArray, List.set_cons_zero, List.set_cons_succ]
    refine wpAnyH_take (i := 13) (oi := { dst := some 20, op := Op.load 33 (Operand.tmp 5), type := 33, pos := "l07_graphs.go:77", after := #[{ on := 8, ground := Ground.guard }], guard := some (8, true) }) (v := undef) rfl (by kernel_rfl) (by kernel_rfl) (by kernel_rfl) (fun _ _ _ h => h) (Or.inr ⟨by rfl, rfl⟩) hH ?_
    simp only [Act.put, List.setIfInBounds_toArray, List.set_cons_zero, List.set_cons_succ]
    refine wpAnyH_take (i := 11) (oi := { dst := some 18, op := Op.call { callee := Callee.value (Operand.func 24), args := #[Operand.tmp 16, Operand.tmp 17], argTypes := #[22, 33] }, type := 33, pos := "l07_graphs.go:77", after := #[{ on := 9, ground := Ground.data }, { on := 10, ground := Ground.data }, { on := 8, ground := Ground.chain }, { on := 8, ground := Ground.guard }], guard := some (8, true) }) (v := undef) rfl (by kernel_rfl) (by kernel_rfl) (by kernel_rfl) (fun _ _ _ h => h) (Or.inr ⟨by rfl, rfl⟩) hH ?_
    simp only [Act.put, List.setIfInBounds_toArray, List.set_cons_zero, List.set_cons_succ]
    refine wpAnyH_take (i := 14) (oi := { dst := some 21, op := Op.call { callee := Callee.value (Operand.func 24), args := #[Operand.tmp 19, Operand.tmp 20], argTypes := #[22, 33] }, type := 33, pos := "l07_graphs.go:77", after := #[{ on := 12, ground := Ground.data }, { on := 13, ground := Ground.data }, { on := 11, ground := Ground.chain }, { on := 8, ground := Ground.guard }], guard := some (8, true) }) (v := undef) rfl (by kernel_rfl) (by kernel_rfl) (by kernel_rfl) (fun _ _ _ h => h) (Or.inr ⟨by rfl, rfl⟩) hH ?_
    simp only [Act.put, List.setIfInBounds_toArray, List.set_cons_zero, List.set_cons_succ]
    refine wpAnyH_take (i := 15) (oi := { dst := some 22, op := Op.call { callee := Callee.value (Operand.func 52), args := #[Operand.tmp 18, Operand.tmp 21], argTypes := #[33, 33] }, type := 4, pos := "l07_graphs.go:77", after := #[{ on := 11, ground := Ground.data }, { on := 14, ground := Ground.data }, { on := 14, ground := Ground.chain }, { on := 8, ground := Ground.guard }], guard := some (8, true) }) (v := undef) rfl (by kernel_rfl) (by kernel_rfl) (by kernel_rfl) (fun _ _ _ h => h) (Or.inr ⟨by rfl, rfl⟩) hH ?_
    simp only [Act.put, List.setIfInBounds_toArray, List.set_cons_zero, List.set_cons_succ]
    refine wpAnyH_take (i := 16) (oi := { dst := some 23, op := Op.pick (Operand.tmp 15) (Operand.tmp 22) (Operand.const (Value.bool false)), type := 4, pos := "l07_graphs.go:77", after := #[{ on := 8, ground := Ground.data }, { on := 15, ground := Ground.data }], guard := none }) (v := .bool false) rfl (by kernel_rfl) (by kernel_rfl) (by kernel_rfl) (fun _ _ _ h => h) (Or.inl ⟨by rfl, fun w _ => by go_simp⟩) hH ?_
    simp only [Act.put, List.setIfInBounds_toArray, List.set_cons_zero, List.set_cons_succ]
    refine wpAnyH_ready (rs := [17]) (by kernel_rfl) (by simp) ?_
    refine AllReadyH.cons (i := 17) (o := { dst := some 6, op := Op.assign (Operand.tmp 23), type := 4, pos := "l07_graphs.go:77", after := #[{ on := 16, ground := Ground.data }, { on := 15, ground := Ground.chain }, { on := 0, ground := Ground.phase }, { on := 1, ground := Ground.phase }, { on := 2, ground := Ground.phase }, { on := 3, ground := Ground.phase }, { on := 4, ground := Ground.phase }, { on := 5, ground := Ground.phase }, { on := 6, ground := Ground.phase }, { on := 7, ground := Ground.phase }, { on := 8, ground := Ground.phase }, { on := 9, ground := Ground.phase }, { on := 10, ground := Ground.phase }, { on := 11, ground := Ground.phase }, { on := 12, ground := Ground.phase }, { on := 13, ground := Ground.phase }, { on := 14, ground := Ground.phase }, { on := 15, ground := Ground.phase }, { on := 16, ground := Ground.phase }], guard := none }) (rs := []) rfl ?_ AllReadyH.nil
    intro K hK
    go_simp
    refine hK.out _ _ (HK.out _ hacc) (fun hH => ?_)
    clear hK K
    try simp only [Act.put, List.setIfInBounds_toArray, List.set_cons_zero, List.set_cons_succ]
    refine wpAnyH_done (by kernel_rfl) ?_ _
    clear hH
    all_goals
      have HBE : Hid (Below w.heap.size w w3) := HB0.out.trans (hacc.mono HB0.out.size)
      go_wp2
      go_ret
      exact ⟨by rw [HR.out]; rfl, HBE.out⟩
  | true =>
    cases h2 : graphB xs qs ms with
    | false =>
      rw [h1] at HG1 HAL
      rw [h2] at HG2 HAL
      have HR : Hid (al = false) := by show al = false; rw [HAL.out]; rfl
      clear h1 h2 HP1 HP2 HSM HAL
      go_enter Try.func27, Try.ntmps27
      go_wp2_with (rw [← HW.out])
      refine wp_region_held_drew (S := fun w' => w'.cell? ⟨w.heap.size, 0, none⟩ = some (.slice b rs.length vc) ∧ w'.cell? ⟨w.heap.size, 1, none⟩ = some (.slice c ns.length cc) ∧ w'.cell? ⟨w.heap.size + 1, 0, none⟩ = some (.slice b' qs.length vc') ∧ w'.cell? ⟨w.heap.size + 1, 1, none⟩ = some (.slice c' ms.length cc')) (by kernel_rfl) (HK.out _ hacc) (fun hH => ?_)
      refine wpAnyH_take (i := 0) (oi := { dst := some 7, op := Op.move (Operand.tmp 0), type := 22, pos := "l07_graphs.go:77", after := #[], guard := none }) (v := .slice a xs.length cap) rfl (by kernel_rfl) (by kernel_rfl) (by kernel_rfl) (fun _ _ _ h => h) (Or.inl ⟨by rfl, fun w _ => by go_simp⟩) hH ?_
      simp only [Act.put, List.setIfInBounds_toArray, List.set_cons_zero, List.set_cons_succ]
      refine wpAnyH_take (i := 1) (oi := { dst := some 8, op := Op.load 33 (Operand.tmp 4), type := 33, pos := "l07_graphs.go:77", after := #[], guard := none }) (v := .agg #[.slice b rs.length vc, .slice c ns.length cc]) rfl (by kernel_rfl) (by kernel_rfl) (by kernel_rfl) (fun _ _ _ h => h) (Or.inl ⟨by rfl, fun w hSw => by obtain ⟨s0, s1, s2, s3⟩ := hSw; go_simp⟩) hH ?_
      simp only [Act.put, List.setIfInBounds_toArray, List.set_cons_zero, List.set_cons_succ]
      refine wpAnyH_ready (rs := [2]) (by kernel_rfl) (by simp) ?_
      refine AllReadyH.cons (i := 2) (o := { dst := some 9, op := Op.call { callee := Callee.value (Operand.func 33), args := #[Operand.tmp 7, Operand.tmp 8], argTypes := #[22, 33] }, type := 4, pos := "l07_graphs.go:77", after := #[{ on := 0, ground := Ground.data }, { on := 1, ground := Ground.data }], guard := none }) (rs := []) rfl ?_ AllReadyH.nil
      intro K hK
      go_simp
      go_at_call 33
      refine (HG1.out _ hacc).mono ?_
      rintro e w3 ⟨rfl, hb⟩
      have hac2 : Below W.heap.size W w3 := hacc.trans (hb.mono hacc.size)
      clear hacc hb; have hacc := hac2; clear hac2
      refine hK.out _ _ (HK.out _ hacc) (fun hH => ?_)
      clear hK K
      try simp only [Act.put, List.setIfInBounds_toArray, List.set_cons_zero, List.set_cons_succ]
      refine wpAnyH_take (i := 3) (oi := { dst := some 10, op := Op.move (Operand.tmp 9), type := 4, pos := "l07_graphs.go:77", after := #[{ on := 2, ground := Ground.data }, { on := 2, ground := Ground.chain }], guard := none }) (v := .bool true) rfl (by kernel_rfl) (by kernel_rfl) (by kernel_rfl) (fun _ _ _ h => h) (Or.inl ⟨by rfl, fun w _ => by go_simp⟩) hH ?_
      simp only [Act.put, List.setIfInBounds_toArray, List.set_cons_zero, List.set_cons_succ]
      refine wpAnyH_take (i := 4) (oi := { dst := some 11, op := Op.move (Operand.tmp 0), type := 22, pos := "l07_graphs.go:77", after := #[{ on := 3, ground := Ground.guard }], guard := some (3, true) }) (v := .slice a xs.length cap) rfl (by kernel_rfl) (by kernel_rfl) (by kernel_rfl) (fun _ _ _ h => h) (Or.inl ⟨by rfl, fun w _ => by go_simp⟩) hH ?_
      simp only [Act.put, List.setIfInBounds_toArray, List.set_cons_zero, List.set_cons_succ]
      refine wpAnyH_take (i := 5) (oi := { dst := some 12, op := Op.load 33 (Operand.tmp 5), type := 33, pos := "l07_graphs.go:77", after := #[{ on := 3, ground := Ground.guard }], guard := some (3, true) }) (v := .agg #[.slice b' qs.length vc', .slice c' ms.length cc']) rfl (by kernel_rfl) (by kernel_rfl) (by kernel_rfl) (fun _ _ _ h => h) (Or.inl ⟨by rfl, fun w hSw => by obtain ⟨s0, s1, s2, s3⟩ := hSw; go_simp⟩) hH ?_
      simp only [Act.put, List.setIfInBounds_toArray, List.set_cons_zero, List.set_cons_succ]
      refine wpAnyH_ready (rs := [6]) (by kernel_rfl) (by simp) ?_
      refine AllReadyH.cons (i := 6) (o := { dst := some 13, op := Op.call { callee := Callee.value (Operand.func 33), args := #[Operand.tmp 11, Operand.tmp 12], argTypes := #[22, 33] }, type := 4, pos := "l07_graphs.go:77", after := #[{ on := 4, ground := Ground.data }, { on := 5, ground := Ground.data }, { on := 3, ground := Ground.chain }, { on := 3, ground := Ground.guard }], guard := some (3, true) }) (rs := []) rfl ?_ AllReadyH.nil
      intro K hK
      go_simp
      go_at_call 33
      refine (HG2.out _ hacc).mono ?_
      rintro e w4 ⟨rfl, hb⟩
      have hac2 : Below W.heap.size W w4 := hacc.trans (hb.mono hacc.size)
      clear hacc hb; have hacc := hac2; clear hac2
      refine hK.out _ _ (HK.out _ hacc) (fun hH => ?_)
      clear hK K
      try simp only [Act.put, List.setIfInBounds_toArray, List.set_cons_zero, List.set_cons_succ]
      refine wpAnyH_take (i := 7) (oi := { dst := some 14, op := Op.pick (Operand.tmp 10) (Operand.tmp 13) (Operand.const (Value.bool false)), type := 4, pos := "l07_graphs.go:77", after := #[{ on := 3, ground := Ground.data }, { on := 6, ground := Ground.data }], guard := none }) (v := .bool false) rfl (by kernel_rfl) (by kernel_rfl) (by kernel_rfl) (fun _ _ _ h => h) (Or.inl ⟨by rfl, fun w _ => by go_simp⟩) hH ?_
      simp only [Act.put, List.setIfInBounds_toArray, List.set_cons_zero, List.set_cons_succ]
      refine wpAnyH_take (i := 8) (oi := { dst := some 15, op := Op.move (Operand.tmp 14), type := 4, pos := "l07_graphs.go:77", after := #[{ on := 7, ground := Ground.data }, { on := 6, ground := Ground.chain }], guard := none }) (v := .bool false) rfl (by kernel_rfl) (by kernel_rfl) (by kernel_rfl) (fun _ _ _ h => h) (Or.inl ⟨by rfl, fun w _ => by go_simp⟩) hH ?_
      simp only [Act.put, List.setIfInBounds_toArray, List.set_cons_zero, List.set_cons_succ]
      refine wpAnyH_take (i := 9) (oi := { dst := some 16, op := Op.move (Operand.tmp 0), type := 22, pos := "l07_graphs.go:77", after := #[{ on := 8, ground := Ground.guard }], guard := some (8, true) }) (v := undef) rfl (by kernel_rfl) (by kernel_rfl) (by kernel_rfl) (fun _ _ _ h => h) (Or.inr ⟨by rfl, rfl⟩) hH ?_
      simp only [Act.put, List.setIfInBounds_toArray, List.set_cons_zero, List.set_cons_succ]
      refine wpAnyH_take (i := 10) (oi := { dst := some 17, op := Op.load 33 (Operand.tmp 4), type := 33, pos := "l07_graphs.go:77", after := #[{ on := 8, ground := Ground.guard }], guard := some (8, true) }) (v := undef) rfl (by kernel_rfl) (by kernel_rfl) (by kernel_rfl) (fun _ _ _ h => h) (Or.inr ⟨by rfl, rfl⟩) hH ?_
      simp only [Act.put, List.setIfInBounds_toArray, List.set_cons_zero, List.set_cons_succ]
      refine wpAnyH_take (i := 12) (oi := { dst := some 19, op := Op.move (Operand.tmp 0), type := 22, pos := "l07_graphs.go:77", after := #[{ on := 8, ground := Ground.guard }], guard := some (8, true) }) (v := undef) rfl (by kernel_rfl) (by kernel_rfl) (by kernel_rfl) (fun _ _ _ h => h) (Or.inr ⟨by rfl, rfl⟩) hH ?_
      simp only [Act.put, List.setIfInBounds_toArray, List.set_cons_zero, List.set_cons_succ]
      refine wpAnyH_take (i := 13) (oi := { dst := some 20, op := Op.load 33 (Operand.tmp 5), type := 33, pos := "l07_graphs.go:77", after := #[{ on := 8, ground := Ground.guard }], guard := some (8, true) }) (v := undef) rfl (by kernel_rfl) (by kernel_rfl) (by kernel_rfl) (fun _ _ _ h => h) (Or.inr ⟨by rfl, rfl⟩) hH ?_
      simp only [Act.put, List.setIfInBounds_toArray, List.set_cons_zero, List.set_cons_succ]
      refine wpAnyH_take (i := 11) (oi := { dst := some 18, op := Op.call { callee := Callee.value (Operand.func 24), args := #[Operand.tmp 16, Operand.tmp 17], argTypes := #[22, 33] }, type := 33, pos := "l07_graphs.go:77", after := #[{ on := 9, ground := Ground.data }, { on := 10, ground := Ground.data }, { on := 8, ground := Ground.chain }, { on := 8, ground := Ground.guard }], guard := some (8, true) }) (v := undef) rfl (by kernel_rfl) (by kernel_rfl) (by kernel_rfl) (fun _ _ _ h => h) (Or.inr ⟨by rfl, rfl⟩) hH ?_
      simp only [Act.put, List.setIfInBounds_toArray, List.set_cons_zero, List.set_cons_succ]
      refine wpAnyH_take (i := 14) (oi := { dst := some 21, op := Op.call { callee := Callee.value (Operand.func 24), args := #[Operand.tmp 19, Operand.tmp 20], argTypes := #[22, 33] }, type := 33, pos := "l07_graphs.go:77", after := #[{ on := 12, ground := Ground.data }, { on := 13, ground := Ground.data }, { on := 11, ground := Ground.chain }, { on := 8, ground := Ground.guard }], guard := some (8, true) }) (v := undef) rfl (by kernel_rfl) (by kernel_rfl) (by kernel_rfl) (fun _ _ _ h => h) (Or.inr ⟨by rfl, rfl⟩) hH ?_
      simp only [Act.put, List.setIfInBounds_toArray, List.set_cons_zero, List.set_cons_succ]
      refine wpAnyH_take (i := 15) (oi := { dst := some 22, op := Op.call { callee := Callee.value (Operand.func 52), args := #[Operand.tmp 18, Operand.tmp 21], argTypes := #[33, 33] }, type := 4, pos := "l07_graphs.go:77", after := #[{ on := 11, ground := Ground.data }, { on := 14, ground := Ground.data }, { on := 14, ground := Ground.chain }, { on := 8, ground := Ground.guard }], guard := some (8, true) }) (v := undef) rfl (by kernel_rfl) (by kernel_rfl) (by kernel_rfl) (fun _ _ _ h => h) (Or.inr ⟨by rfl, rfl⟩) hH ?_
      simp only [Act.put, List.setIfInBounds_toArray, List.set_cons_zero, List.set_cons_succ]
      refine wpAnyH_take (i := 16) (oi := { dst := some 23, op := Op.pick (Operand.tmp 15) (Operand.tmp 22) (Operand.const (Value.bool false)), type := 4, pos := "l07_graphs.go:77", after := #[{ on := 8, ground := Ground.data }, { on := 15, ground := Ground.data }], guard := none }) (v := .bool false) rfl (by kernel_rfl) (by kernel_rfl) (by kernel_rfl) (fun _ _ _ h => h) (Or.inl ⟨by rfl, fun w _ => by go_simp⟩) hH ?_
      simp only [Act.put, List.setIfInBounds_toArray, List.set_cons_zero, List.set_cons_succ]
      refine wpAnyH_ready (rs := [17]) (by kernel_rfl) (by simp) ?_
      refine AllReadyH.cons (i := 17) (o := { dst := some 6, op := Op.assign (Operand.tmp 23), type := 4, pos := "l07_graphs.go:77", after := #[{ on := 16, ground := Ground.data }, { on := 15, ground := Ground.chain }, { on := 0, ground := Ground.phase }, { on := 1, ground := Ground.phase }, { on := 2, ground := Ground.phase }, { on := 3, ground := Ground.phase }, { on := 4, ground := Ground.phase }, { on := 5, ground := Ground.phase }, { on := 6, ground := Ground.phase }, { on := 7, ground := Ground.phase }, { on := 8, ground := Ground.phase }, { on := 9, ground := Ground.phase }, { on := 10, ground := Ground.phase }, { on := 11, ground := Ground.phase }, { on := 12, ground := Ground.phase }, { on := 13, ground := Ground.phase }, { on := 14, ground := Ground.phase }, { on := 15, ground := Ground.phase }, { on := 16, ground := Ground.phase }], guard := none }) (rs := []) rfl ?_ AllReadyH.nil
      intro K hK
      go_simp
      refine hK.out _ _ (HK.out _ hacc) (fun hH => ?_)
      clear hK K
      try simp only [Act.put, List.setIfInBounds_toArray, List.set_cons_zero, List.set_cons_succ]
      refine wpAnyH_done (by kernel_rfl) ?_ _
      clear hH
      all_goals
        have HBE : Hid (Below w.heap.size w w4) := HB0.out.trans (hacc.mono HB0.out.size)
        go_wp2
        go_ret
        exact ⟨by rw [HR.out]; rfl, HBE.out⟩
    | true =>
      have hp1 := HP1.out h1
      have hp2 := HP2.out h2
      rw [h1] at HG1 HAL
      rw [h2] at HG2 HAL
      have HR : Hid (al = z) := by show al = z; rw [HAL.out]; simp
      clear h1 h2 HP1 HP2 HAL
      unfold GOut at hp1 hp2
      have HP1 : Hid (∀ w', Below W.heap.size W w' → Calls _ _ _ w' _) := hp1
      have HP2 : Hid (∀ w', Below W.heap.size W w' → Calls _ _ _ w' _) := hp2
      clear hp1 hp2
      go_enter Try.func27, Try.ntmps27
      go_wp2_with (rw [← HW.out])
      refine wp_region_held_drew (S := fun w' => w'.cell? ⟨w.heap.size, 0, none⟩ = some (.slice b rs.length vc) ∧ w'.cell? ⟨w.heap.size, 1, none⟩ = some (.slice c ns.length cc) ∧ w'.cell? ⟨w.heap.size + 1, 0, none⟩ = some (.slice b' qs.length vc') ∧ w'.cell? ⟨w.heap.size + 1, 1, none⟩ = some (.slice c' ms.length cc')) (by kernel_rfl) (HK.out _ hacc) (fun hH => ?_)
      refine wpAnyH_take (i := 0) (oi := { dst := some 7, op := Op.move (Operand.tmp 0), type := 22, pos := "l07_graphs.go:77", after := #[], guard := none }) (v := .slice a xs.length cap) rfl (by kernel_rfl) (by kernel_rfl) (by kernel_rfl) (fun _ _ _ h => h) (Or.inl ⟨by rfl, fun w _ => by go_simp⟩) hH ?_
      simp only [Act.put, List.setIfInBounds_toArray, List.set_cons_zero, List.set_cons_succ]
      refine wpAnyH_take (i := 1) (oi := { dst := some 8, op := Op.load 33 (Operand.tmp 4), type := 33, pos := "l07_graphs.go:77", after := #[], guard := none }) (v := .agg #[.slice b rs.length vc, .slice c ns.length cc]) rfl (by kernel_rfl) (by kernel_rfl) (by kernel_rfl) (fun _ _ _ h => h) (Or.inl ⟨by rfl, fun w hSw => by obtain ⟨s0, s1, s2, s3⟩ := hSw; go_simp⟩) hH ?_
      simp only [Act.put, List.setIfInBounds_toArray, List.set_cons_zero, List.set_cons_succ]
      refine wpAnyH_ready (rs := [2]) (by kernel_rfl) (by simp) ?_
      refine AllReadyH.cons (i := 2) (o := { dst := some 9, op := Op.call { callee := Callee.value (Operand.func 33), args := #[Operand.tmp 7, Operand.tmp 8], argTypes := #[22, 33] }, type := 4, pos := "l07_graphs.go:77", after := #[{ on := 0, ground := Ground.data }, { on := 1, ground := Ground.data }], guard := none }) (rs := []) rfl ?_ AllReadyH.nil
      intro K hK
      go_simp
      go_at_call 33
      refine (HG1.out _ hacc).mono ?_
      rintro e w3 ⟨rfl, hb⟩
      have hac2 : Below W.heap.size W w3 := hacc.trans (hb.mono hacc.size)
      clear hacc hb; have hacc := hac2; clear hac2
      refine hK.out _ _ (HK.out _ hacc) (fun hH => ?_)
      clear hK K
      try simp only [Act.put, List.setIfInBounds_toArray, List.set_cons_zero, List.set_cons_succ]
      refine wpAnyH_take (i := 3) (oi := { dst := some 10, op := Op.move (Operand.tmp 9), type := 4, pos := "l07_graphs.go:77", after := #[{ on := 2, ground := Ground.data }, { on := 2, ground := Ground.chain }], guard := none }) (v := .bool true) rfl (by kernel_rfl) (by kernel_rfl) (by kernel_rfl) (fun _ _ _ h => h) (Or.inl ⟨by rfl, fun w _ => by go_simp⟩) hH ?_
      simp only [Act.put, List.setIfInBounds_toArray, List.set_cons_zero, List.set_cons_succ]
      refine wpAnyH_take (i := 4) (oi := { dst := some 11, op := Op.move (Operand.tmp 0), type := 22, pos := "l07_graphs.go:77", after := #[{ on := 3, ground := Ground.guard }], guard := some (3, true) }) (v := .slice a xs.length cap) rfl (by kernel_rfl) (by kernel_rfl) (by kernel_rfl) (fun _ _ _ h => h) (Or.inl ⟨by rfl, fun w _ => by go_simp⟩) hH ?_
      simp only [Act.put, List.setIfInBounds_toArray, List.set_cons_zero, List.set_cons_succ]
      refine wpAnyH_take (i := 5) (oi := { dst := some 12, op := Op.load 33 (Operand.tmp 5), type := 33, pos := "l07_graphs.go:77", after := #[{ on := 3, ground := Ground.guard }], guard := some (3, true) }) (v := .agg #[.slice b' qs.length vc', .slice c' ms.length cc']) rfl (by kernel_rfl) (by kernel_rfl) (by kernel_rfl) (fun _ _ _ h => h) (Or.inl ⟨by rfl, fun w hSw => by obtain ⟨s0, s1, s2, s3⟩ := hSw; go_simp⟩) hH ?_
      simp only [Act.put, List.setIfInBounds_toArray, List.set_cons_zero, List.set_cons_succ]
      refine wpAnyH_ready (rs := [6]) (by kernel_rfl) (by simp) ?_
      refine AllReadyH.cons (i := 6) (o := { dst := some 13, op := Op.call { callee := Callee.value (Operand.func 33), args := #[Operand.tmp 11, Operand.tmp 12], argTypes := #[22, 33] }, type := 4, pos := "l07_graphs.go:77", after := #[{ on := 4, ground := Ground.data }, { on := 5, ground := Ground.data }, { on := 3, ground := Ground.chain }, { on := 3, ground := Ground.guard }], guard := some (3, true) }) (rs := []) rfl ?_ AllReadyH.nil
      intro K hK
      go_simp
      go_at_call 33
      refine (HG2.out _ hacc).mono ?_
      rintro e w4 ⟨rfl, hb⟩
      have hac2 : Below W.heap.size W w4 := hacc.trans (hb.mono hacc.size)
      clear hacc hb; have hacc := hac2; clear hac2
      refine hK.out _ _ (HK.out _ hacc) (fun hH => ?_)
      clear hK K
      try simp only [Act.put, List.setIfInBounds_toArray, List.set_cons_zero, List.set_cons_succ]
      refine wpAnyH_take (i := 7) (oi := { dst := some 14, op := Op.pick (Operand.tmp 10) (Operand.tmp 13) (Operand.const (Value.bool false)), type := 4, pos := "l07_graphs.go:77", after := #[{ on := 3, ground := Ground.data }, { on := 6, ground := Ground.data }], guard := none }) (v := .bool true) rfl (by kernel_rfl) (by kernel_rfl) (by kernel_rfl) (fun _ _ _ h => h) (Or.inl ⟨by rfl, fun w _ => by go_simp⟩) hH ?_
      simp only [Act.put, List.setIfInBounds_toArray, List.set_cons_zero, List.set_cons_succ]
      refine wpAnyH_take (i := 8) (oi := { dst := some 15, op := Op.move (Operand.tmp 14), type := 4, pos := "l07_graphs.go:77", after := #[{ on := 7, ground := Ground.data }, { on := 6, ground := Ground.chain }], guard := none }) (v := .bool true) rfl (by kernel_rfl) (by kernel_rfl) (by kernel_rfl) (fun _ _ _ h => h) (Or.inl ⟨by rfl, fun w _ => by go_simp⟩) hH ?_
      simp only [Act.put, List.setIfInBounds_toArray, List.set_cons_zero, List.set_cons_succ]
      refine wpAnyH_take (i := 9) (oi := { dst := some 16, op := Op.move (Operand.tmp 0), type := 22, pos := "l07_graphs.go:77", after := #[{ on := 8, ground := Ground.guard }], guard := some (8, true) }) (v := .slice a xs.length cap) rfl (by kernel_rfl) (by kernel_rfl) (by kernel_rfl) (fun _ _ _ h => h) (Or.inl ⟨by rfl, fun w _ => by go_simp⟩) hH ?_
      simp only [Act.put, List.setIfInBounds_toArray, List.set_cons_zero, List.set_cons_succ]
      refine wpAnyH_take (i := 10) (oi := { dst := some 17, op := Op.load 33 (Operand.tmp 4), type := 33, pos := "l07_graphs.go:77", after := #[{ on := 8, ground := Ground.guard }], guard := some (8, true) }) (v := .agg #[.slice b rs.length vc, .slice c ns.length cc]) rfl (by kernel_rfl) (by kernel_rfl) (by kernel_rfl) (fun _ _ _ h => h) (Or.inl ⟨by rfl, fun w hSw => by obtain ⟨s0, s1, s2, s3⟩ := hSw; go_simp⟩) hH ?_
      simp only [Act.put, List.setIfInBounds_toArray, List.set_cons_zero, List.set_cons_succ]
      refine wpAnyH_take (i := 12) (oi := { dst := some 19, op := Op.move (Operand.tmp 0), type := 22, pos := "l07_graphs.go:77", after := #[{ on := 8, ground := Ground.guard }], guard := some (8, true) }) (v := .slice a xs.length cap) rfl (by kernel_rfl) (by kernel_rfl) (by kernel_rfl) (fun _ _ _ h => h) (Or.inl ⟨by rfl, fun w _ => by go_simp⟩) hH ?_
      simp only [Act.put, List.setIfInBounds_toArray, List.set_cons_zero, List.set_cons_succ]
      refine wpAnyH_take (i := 13) (oi := { dst := some 20, op := Op.load 33 (Operand.tmp 5), type := 33, pos := "l07_graphs.go:77", after := #[{ on := 8, ground := Ground.guard }], guard := some (8, true) }) (v := .agg #[.slice b' qs.length vc', .slice c' ms.length cc']) rfl (by kernel_rfl) (by kernel_rfl) (by kernel_rfl) (fun _ _ _ h => h) (Or.inl ⟨by rfl, fun w hSw => by obtain ⟨s0, s1, s2, s3⟩ := hSw; go_simp⟩) hH ?_
      simp only [Act.put, List.setIfInBounds_toArray, List.set_cons_zero, List.set_cons_succ]
      refine wpAnyH_ready (rs := [11]) (by kernel_rfl) (by simp) ?_
      refine AllReadyH.cons (i := 11) (o := { dst := some 18, op := Op.call { callee := Callee.value (Operand.func 24), args := #[Operand.tmp 16, Operand.tmp 17], argTypes := #[22, 33] }, type := 33, pos := "l07_graphs.go:77", after := #[{ on := 9, ground := Ground.data }, { on := 10, ground := Ground.data }, { on := 8, ground := Ground.chain }, { on := 8, ground := Ground.guard }], guard := some (8, true) }) (rs := []) rfl ?_ AllReadyH.nil
      intro K hK
      go_simp
      go_at_call 24
      refine (HP1.out _ hacc).mono ?_
      rintro e w5 ⟨a5, g5, k5, b5, d5, L5, rfl, hpa5, hb⟩
      have hac2 : Below W.heap.size W w5 := hacc.trans (hb.mono hacc.size)
      clear hacc hb; have hacc := hac2; clear hac2
      refine hK.out _ _ (HK.out _ hacc) (fun hH => ?_)
      clear hK K
      try simp only [Act.put, List.setIfInBounds_toArray, List.set_cons_zero, List.set_cons_succ]
      refine wpAnyH_ready (rs := [14]) (by kernel_rfl) (by simp) ?_
      refine AllReadyH.cons (i := 14) (o := { dst := some 21, op := Op.call { callee := Callee.value (Operand.func 24), args := #[Operand.tmp 19, Operand.tmp 20], argTypes := #[22, 33] }, type := 33, pos := "l07_graphs.go:77", after := #[{ on := 12, ground := Ground.data }, { on := 13, ground := Ground.data }, { on := 11, ground := Ground.chain }, { on := 8, ground := Ground.guard }], guard := some (8, true) }) (rs := []) rfl ?_ AllReadyH.nil
      intro K hK
      go_simp
      go_at_call 24
      refine (HP2.out _ hacc).mono ?_
      rintro e w6 ⟨a6, g6, k6, b6, d6, L6, rfl, hpa6, hb⟩
      have hi5 := hpa5.ir.nums.below hb; have ho5 := hpa5.og.below hb
      have hac2 : Below W.heap.size W w6 := hacc.trans (hb.mono hacc.size)
      clear hacc hb; have hacc := hac2; clear hac2
      refine hK.out _ _ (HK.out _ hacc) (fun hH => ?_)
      clear hK K
      try simp only [Act.put, List.setIfInBounds_toArray, List.set_cons_zero, List.set_cons_succ]
      refine wpAnyH_ready (rs := [15]) (by kernel_rfl) (by simp) ?_
      refine AllReadyH.cons (i := 15) (o := { dst := some 22, op := Op.call { callee := Callee.value (Operand.func 52), args := #[Operand.tmp 18, Operand.tmp 21], argTypes := #[33, 33] }, type := 4, pos := "l07_graphs.go:77", after := #[{ on := 11, ground := Ground.data }, { on := 14, ground := Ground.data }, { on := 14, ground := Ground.chain }, { on := 8, ground := Ground.guard }], guard := some (8, true) }) (rs := []) rfl ?_ AllReadyH.nil
      intro K hK
      go_simp
      go_at_call 52
      refine (HSM.out w6 a5 b5 a6 b6 k5 d5 k6 d6 hi5 hpa6.ir.nums ho5 hpa6.og).mono ?_
      rintro e w7 ⟨rfl, hb⟩
      have hac2 : Below W.heap.size W w7 := hacc.trans (hb.mono hacc.size)
      clear hacc hb; have hacc := hac2; clear hac2
      refine hK.out _ _ (HK.out _ hacc) (fun hH => ?_)
      clear hK K
      try simp only [Act.put, List.setIfInBounds_toArray, List.set_cons_zero, List.set_cons_succ]
      refine wpAnyH_take (i := 16) (oi := { dst := some 23, op := Op.pick (Operand.tmp 15) (Operand.tmp 22) (Operand.const (Value.bool false)), type := 4, pos := "l07_graphs.go:77", after := #[{ on := 8, ground := Ground.data }, { on := 15, ground := Ground.data }], guard := none }) (v := .bool z) rfl (by kernel_rfl) (by kernel_rfl) (by kernel_rfl) (fun _ _ _ h => h) (Or.inl ⟨by rfl, fun w _ => by go_simp⟩) hH ?_
      simp only [Act.put, List.setIfInBounds_toArray, List.set_cons_zero, List.set_cons_succ]
      refine wpAnyH_ready (rs := [17]) (by kernel_rfl) (by simp) ?_
      refine AllReadyH.cons (i := 17) (o := { dst := some 6, op := Op.assign (Operand.tmp 23), type := 4, pos := "l07_graphs.go:77", after := #[{ on := 16, ground := Ground.data }, { on := 15, ground := Ground.chain }, { on := 0, ground := Ground.phase }, { on := 1, ground := Ground.phase }, { on := 2, ground := Ground.phase }, { on := 3, ground := Ground.phase }, { on := 4, ground := Ground.phase }, { on := 5, ground := Ground.phase }, { on := 6, ground := Ground.phase }, { on := 7, ground := Ground.phase }, { on := 8, ground := Ground.phase }, { on := 9, ground := Ground.phase }, { on := 10, ground := Ground.phase }, { on := 11, ground := Ground.phase }, { on := 12, ground := Ground.phase }, { on := 13, ground := Ground.phase }, { on := 14, ground := Ground.phase }, { on := 15, ground := Ground.phase }, { on := 16, ground := Ground.phase }], guard := none }) (rs := []) rfl ?_ AllReadyH.nil
      intro K hK
      go_simp
      refine hK.out _ _ (HK.out _ hacc) (fun hH => ?_)
      clear hK K
      try simp only [Act.put, List.setIfInBounds_toArray, List.set_cons_zero, List.set_cons_succ]
      refine wpAnyH_done (by kernel_rfl) ?_ _
      clear hH
      all_goals
        have HBE : Hid (Below w.heap.size w w7) := HB0.out.trans (hacc.mono HB0.out.size)
        go_wp2
        go_ret
        exact ⟨by rw [HR.out]; rfl, HBE.out⟩
end Go.Proofs.Ythjfgibflbbgmaa.gs
