/-
  Drawn configs: some numbers, and a few types; nothing that was there is written but the reader's own place.
-/
import Derived.Test.YtpkdkkjdlhillaaDoorDrawTy
import Derived.Deep.RegionHeld3
namespace Go.Proofs.YtpkdkkjdlhillaaDoor.rd
open Go.RowKit
open txt ints

/-- A config that is being drawn: in block cb, and the block rb of the answer. -/
structure Cfg (w : World) (R rb cb : Nat) (a : Option Addr) (len cap : Nat) (n1 n2 n3 : Int) (v : Value) (xs : List ByteArray) (wr : World) : Prop where
  c0 : wr.cell? ⟨cb, 0, none⟩ = some (.int .i64 n1)
  c1 : wr.cell? ⟨cb, 1, none⟩ = some (.int .i64 n2)
  c2 : wr.cell? ⟨cb, 2, none⟩ = some (.int .i64 n3)
  c3 : wr.cell? ⟨cb, 3, none⟩ = some v
  fr : ∀ i, wr.frozen? ⟨cb, i, none⟩ = false
  r : ∀ i, i < 4 → ∃ v, wr.cell? ⟨rb, i, none⟩ = some v
  rf : ∀ i, wr.frozen? ⟨rb, i, none⟩ = false
  own : wr.ownsRow (rb + 1) 9 1 v xs.length (xs.map Value.string)
  ob : v.ownBlock ≠ some cb
  rd : Rd wr R a len cap
  grown : w.grownBy wr (some R)
  atr : w.heap.size ≤ rb
  atc : rb < cb
theorem Cfg.ltc {w : World} {R rb cb : Nat} {a : Option Addr} {len cap : Nat} {n1 n2 n3 : Int} {v : Value} {xs : List ByteArray} {wr : World} (h : Cfg w R rb cb a len cap n1 n2 n3 v xs wr) : cb < wr.heap.size := World.block_lt_of_cell? wr _ h.c0
theorem Cfg.drawn {w : World} {R rb cb : Nat} {a : Option Addr} {len cap : Nat} {n1 n2 n3 : Int} {v : Value} {xs : List ByteArray} {wr w' : World} (h : Cfg w R rb cb a len cap n1 n2 n3 v xs wr) (hR : R < w.heap.size) (hg : wr.grownBy w' (some R)) (hr : Rd w' R a len cap) : Cfg w R rb cb a len cap n1 n2 n3 v xs w' := by
  have hc := hg.block cb h.ltc (fun e => by have := Option.some.inj e; have := h.atr; have := h.atc; omega)
  have hb := hg.block rb (by have := h.ltc; have := h.atc; omega) (fun e => by have := Option.some.inj e; have := h.atr; omega)
  refine ⟨by rw [World.cell?_of_block (a := ⟨cb, 0, none⟩) hc]; exact h.c0, by rw [World.cell?_of_block (a := ⟨cb, 1, none⟩) hc]; exact h.c1, by rw [World.cell?_of_block (a := ⟨cb, 2, none⟩) hc]; exact h.c2, by rw [World.cell?_of_block (a := ⟨cb, 3, none⟩) hc]; exact h.c3, fun i => by rw [World.frozen?_of_block (a := ⟨cb, i, none⟩) hc]; exact h.fr i, fun i hi => ?_, fun i => by rw [World.frozen?_of_block (a := ⟨rb, i, none⟩) hb]; exact h.rf i, own_rdT h.own hg (by have := h.atr; omega), h.ob, hr, gtrans h.grown hg, h.atr, h.atc⟩
  obtain ⟨v, hv⟩ := h.r i hi
  exact ⟨v, by rw [World.cell?_of_block (a := ⟨rb, i, none⟩) hb]; exact hv⟩
theorem Cfg.put {w : World} {R rb cb : Nat} {a : Option Addr} {len cap : Nat} {n1 n2 n3 m1 m2 m3 : Int} {v : Value} {xs : List ByteArray} {wr : World} (h : Cfg w R rb cb a len cap n1 n2 n3 v xs wr) (hR : R < w.heap.size) (i : Nat) (x : Int)
    (h0 : (wr.setCell ⟨cb, i, none⟩ (.int .i64 x)).cell? ⟨cb, 0, none⟩ = some (.int .i64 m1)) (h1 : (wr.setCell ⟨cb, i, none⟩ (.int .i64 x)).cell? ⟨cb, 1, none⟩ = some (.int .i64 m2)) (h2 : (wr.setCell ⟨cb, i, none⟩ (.int .i64 x)).cell? ⟨cb, 2, none⟩ = some (.int .i64 m3)) (h3 : (wr.setCell ⟨cb, i, none⟩ (.int .i64 x)).cell? ⟨cb, 3, none⟩ = some v) : Cfg w R rb cb a len cap m1 m2 m3 v xs (wr.setCell ⟨cb, i, none⟩ (.int .i64 x)) := by
  have hb : Below cb wr (wr.setCell ⟨cb, i, none⟩ (.int .i64 x)) := (Below.refl _ _).setCell (p := ⟨cb, i, none⟩) (Nat.le_refl _) _
  refine ⟨h0, h1, h2, h3, fun i => by rw [World.frozen?_setCell]; exact h.fr i, fun j hj => ?_, fun i => by rw [World.frozen?_setCell]; exact h.rf i, ?_, h.ob, h.rd.above (hb.mono (by have := h.atr; have := h.atc; omega)), gBt h.grown (hb.mono (by have := h.atr; have := h.atc; omega)), h.atr, h.atc⟩
  · obtain ⟨v, hv⟩ := h.r j hj
    exact cell?_setCell_some hv
  · exact h.own.kept (row := some cb) ⟨rfl, rfl, rfl, by simp, fun k _ hk => Below.heap_setCell _ _ _ _ (fun e => hk (by rw [e]))⟩ (.inr h.ob)
theorem Cfg.put0 {w : World} {R rb cb : Nat} {a : Option Addr} {len cap : Nat} {n1 n2 n3 : Int} {v : Value} {xs : List ByteArray} {wr : World} (h : Cfg w R rb cb a len cap n1 n2 n3 v xs wr) (hR : R < w.heap.size) (x : Int) : Cfg w R rb cb a len cap x n2 n3 v xs (wr.setCell ⟨cb, 0, none⟩ (.int .i64 x)) :=
  h.put hR 0 x (World.cell?_setCell_same _ _ _ h.c0) (by rw [World.cell?_setCell_other _ _ _ _ (by simp)]; exact h.c1) (by rw [World.cell?_setCell_other _ _ _ _ (by simp)]; exact h.c2) (by rw [World.cell?_setCell_other _ _ _ _ (by simp)]; exact h.c3)
theorem Cfg.put1 {w : World} {R rb cb : Nat} {a : Option Addr} {len cap : Nat} {n1 n2 n3 : Int} {v : Value} {xs : List ByteArray} {wr : World} (h : Cfg w R rb cb a len cap n1 n2 n3 v xs wr) (hR : R < w.heap.size) (x : Int) : Cfg w R rb cb a len cap n1 x n3 v xs (wr.setCell ⟨cb, 1, none⟩ (.int .i64 x)) :=
  h.put hR 1 x (by rw [World.cell?_setCell_other _ _ _ _ (by simp)]; exact h.c0) (World.cell?_setCell_same _ _ _ h.c1) (by rw [World.cell?_setCell_other _ _ _ _ (by simp)]; exact h.c2) (by rw [World.cell?_setCell_other _ _ _ _ (by simp)]; exact h.c3)
theorem Cfg.put2 {w : World} {R rb cb : Nat} {a : Option Addr} {len cap : Nat} {n1 n2 n3 : Int} {v : Value} {xs : List ByteArray} {wr : World} (h : Cfg w R rb cb a len cap n1 n2 n3 v xs wr) (hR : R < w.heap.size) (x : Int) : Cfg w R rb cb a len cap n1 n2 x v xs (wr.setCell ⟨cb, 2, none⟩ (.int .i64 x)) :=
  h.put hR 2 x (by rw [World.cell?_setCell_other _ _ _ _ (by simp)]; exact h.c0) (by rw [World.cell?_setCell_other _ _ _ _ (by simp)]; exact h.c1) (World.cell?_setCell_same _ _ _ h.c2) (by rw [World.cell?_setCell_other _ _ _ _ (by simp)]; exact h.c3)
def put4 (W : World) (b : Nat) (x0 x1 x2 x3 : Value) : World := (((W.setCell ⟨b, 0, none⟩ x0).setCell ⟨b, 1, none⟩ x1).setCell ⟨b, 2, none⟩ x2).setCell ⟨b, 3, none⟩ x3
theorem got4 {b : Nat} {W : World} (h : ∀ i, i < 4 → ∃ v, W.cell? ⟨b, i, none⟩ = some v) (x0 x1 x2 x3 : Value) :
    (put4 W b x0 x1 x2 x3).cell? ⟨b, 0, none⟩ = some x0 ∧ (put4 W b x0 x1 x2 x3).cell? ⟨b, 1, none⟩ = some x1 ∧ (put4 W b x0 x1 x2 x3).cell? ⟨b, 2, none⟩ = some x2 ∧ (put4 W b x0 x1 x2 x3).cell? ⟨b, 3, none⟩ = some x3 := by
  have same : ∀ (W : World) (i : Nat) (x : Value), (∃ v, W.cell? ⟨b, i, none⟩ = some v) → (W.setCell ⟨b, i, none⟩ x).cell? ⟨b, i, none⟩ = some x := fun W i x ⟨v, hv⟩ => World.cell?_setCell_same _ _ _ hv
  have keep : ∀ (W : World) (i j : Nat) (x : Value), (∃ v, W.cell? ⟨b, i, none⟩ = some v) → ∃ v, (W.setCell ⟨b, j, none⟩ x).cell? ⟨b, i, none⟩ = some v := fun W i j x ⟨v, hv⟩ => cell?_setCell_some hv
  have other : ∀ (W : World) (i j : Nat) (x v : Value), i ≠ j → W.cell? ⟨b, i, none⟩ = some v → (W.setCell ⟨b, j, none⟩ x).cell? ⟨b, i, none⟩ = some v := fun W i j x v hne hv => by rw [World.cell?_setCell_other _ _ _ _ (fun e => hne (congrArg Addr.off e).symm)]; exact hv
  unfold put4
  refine ⟨?_, ?_, ?_, ?_⟩
  · exact other _ 0 3 _ _ (by decide) (other _ 0 2 _ _ (by decide) (other _ 0 1 _ _ (by decide) (same _ 0 _ (h 0 (by decide)))))
  · exact other _ 1 3 _ _ (by decide) (other _ 1 2 _ _ (by decide) (same _ 1 _ (keep _ 1 0 _ (h 1 (by decide)))))
  · exact other _ 2 3 _ _ (by decide) (same _ 2 _ (keep _ 2 1 _ (keep _ 2 0 _ (h 2 (by decide)))))
  · exact same _ 3 _ (keep _ 3 2 _ (keep _ 3 1 _ (keep _ 3 0 _ (h 3 (by decide)))))
/-- What config answers. -/
def CfgAns (w : World) (R : Nat) (a : Option Addr) (len cap : Nat) (e : Ending) (w' : World) : Prop :=
  ∃ (n1 n2 n3 : Int) (v : Value), e = .returned (.agg #[.int .i64 n1, .int .i64 n2, .int .i64 n3, v]) ∧ (0 ≤ n1 ∧ n1 ≤ 128 ∧ 0 ≤ n2 ∧ n2 ≤ 32 ∧ 0 ≤ n3 ∧ n3 ≤ 400) ∧ ∃ xs : List ByteArray, 1 ≤ xs.length ∧ xs.length ≤ 3 ∧ (∀ x ∈ xs, x.size ≤ 23) ∧ w'.ownsRow w.heap.size 9 1 v xs.length (xs.map Value.string) ∧ Rd w' R a len cap ∧ w.grownBy w' (some R)
theorem Cfg.done {w : World} {R rb cb : Nat} {a : Option Addr} {len cap : Nat} {n1 n2 n3 : Int} {v : Value} {xs : List ByteArray} {wr : World} (h : Cfg w R rb cb a len cap n1 n2 n3 v xs wr) (hR : R < w.heap.size) (x0 x1 x2 x3 : Value) :
    (put4 wr rb x0 x1 x2 x3).ownsRow w.heap.size 9 1 v xs.length (xs.map Value.string) ∧ Rd (put4 wr rb x0 x1 x2 x3) R a len cap ∧ w.grownBy (put4 wr rb x0 x1 x2 x3) (some R) := by
  have hb : Below rb wr (put4 wr rb x0 x1 x2 x3) := ((((Below.refl rb wr).setCell (p := ⟨rb, 0, none⟩) (Nat.le_refl _) _).setCell (p := ⟨rb, 1, none⟩) (Nat.le_refl _) _).setCell (p := ⟨rb, 2, none⟩) (Nat.le_refl _) _).setCell (p := ⟨rb, 3, none⟩) (Nat.le_refl _) _
  have ha : ∀ (W : World) (i : Nat) (x : Value), W.ownsRow (rb + 1) 9 1 v xs.length (xs.map Value.string) → (W.setCell ⟨rb, i, none⟩ x).ownsRow (rb + 1) 9 1 v xs.length (xs.map Value.string) := fun W i x q =>
    q.kept (row := some rb) ⟨rfl, rfl, rfl, by simp, fun k _ hk => Below.heap_setCell _ _ _ _ (fun e => hk (by rw [e]))⟩ (by
      cases ho : v.ownBlock with
      | none => exact .inl rfl
      | some b => exact .inr (by have := (q.lt b ho).1; simp; omega))
  exact ⟨own_mono (ha _ 3 x3 (ha _ 2 x2 (ha _ 1 x1 (ha _ 0 x0 h.own)))) (by have := h.atr; omega), h.rd.above (hb.mono (by have := h.atr; omega)), gBt h.grown (hb.mono h.atr)⟩
set_option maxHeartbeats 2000000 in
set_option maxRecDepth 20000 in
theorem config_any (w : World) (R : Nat) (a : Option Addr) (len cap : Nat) (h : Rd w R a len cap) :
    Calls Tryd.prog 32 #[.pointer (some ⟨R, 0, none⟩)] w fun e w' => CfgAns w R a len cap e w' ∧ w.grownBy w' (some R) := by
  have HR : Hid (Rd w R a len cap) := h
  have hRsz := h.size
  have HRS : Hid (R < w.heap.size) := hRsz
  clear h hRsz
  obtain ⟨V, hV⟩ : ∃ V, V = w.alloc (.cells #[.int .i64 0, .int .i64 0, .int .i64 0, .slice none 0 0] 26) := ⟨_, rfl⟩
  have HV : Hid (V = w.alloc (.cells #[.int .i64 0, .int .i64 0, .int .i64 0, .slice none 0 0] 26)) := hV
  have HVS : Hid (V.heap.size = w.heap.size + 1) := by show V.heap.size = _; rw [hV]; simp
  have HVR : Hid (Rd V R a len cap) := by
    have h1 : Rd V R a len cap := by rw [hV]; exact HR.out.alloc _
    exact h1
  have HVG : Hid (w.grownBy V (some R)) := by
    have h1 : w.grownBy V (some R) := by rw [hV]; exact galloc (grefl _ _) _
    exact h1
  have HVC : Hid (∀ i, i < 4 → (∃ v, V.cell? ⟨w.heap.size, i, none⟩ = some v) ∧ V.frozen? ⟨w.heap.size, i, none⟩ = false) := fun i hi => by
    rw [hV]
    refine ⟨?_, World.frozen?_alloc_new _ _ _ _⟩
    rw [World.cell?_alloc_new]
    match i, hi with
    | 0, _ => exact ⟨_, rfl⟩
    | 1, _ => exact ⟨_, rfl⟩
    | 2, _ => exact ⟨_, rfl⟩
    | 3, _ => exact ⟨_, rfl⟩
  have HVF : Hid (∀ i, V.frozen? ⟨w.heap.size, i, none⟩ = false) := fun i => by rw [hV]; exact World.frozen?_alloc_new _ _ _ _
  clear hV
  go_enter Tryd.func32, Tryd.ntmps32
  go_wp2_with fail
  rw [← HV.out]
  refine (below_pos _ R a len cap HVR.out 10 (by omega) (by omega)).mono ?_
  rintro e w1 ⟨u1, rfl, hu1, hr1, hb1⟩
  have HR1 : Hid (Rd w1 R a len cap) := hr1
  have HG1 : Hid (V.grownBy w1 (some R)) := hb1
  clear hr1 hb1
  go_wp2_with fail
  refine (below_pos _ R a len cap HR1.out 40 (by omega) (by omega)).mono ?_
  rintro e w2 ⟨u2, rfl, hu2, hr2, hb2⟩
  have HR2 : Hid (Rd w2 R a len cap) := hr2
  have HG2 : Hid (V.grownBy w2 (some R)) := gtrans HG1.out hb2
  clear hr2 hb2
  go_wp2_with fail
  refine (types_any _ R a len cap HR2.out).mono ?_
  rintro e w3 ⟨v, rfl, xs, hx1, hx3, hxs, hown, hr3, hb3⟩
  have HG3 : Hid (V.grownBy w3 (some R)) := gtrans HG2.out hb3
  have hown2 := own_mono hown HG2.out.size
  have hob : v.ownBlock ≠ some w3.heap.size := fun e => by have := (hown.lt _ e).2; omega
  obtain ⟨av, gv, cv, rfl, hgv, _⟩ := txts_of_row hown
  have HXS : Hid (1 ≤ xs.length ∧ xs.length ≤ 3 ∧ ∀ x ∈ xs, x.size ≤ 23) := ⟨hx1, hx3, hxs⟩
  obtain ⟨nx, hnx⟩ : ∃ n, n = xs.length := ⟨_, rfl⟩
  have HNX : Hid (xs.length = nx) := hnx.symm
  rw [← hnx]
  obtain ⟨n2, hn2⟩ : ∃ n : Int, n = 1 + (u1 : Int) := ⟨_, rfl⟩
  obtain ⟨n3, hn3⟩ : ∃ n : Int, n = 4 + (u2 : Int) := ⟨_, rfl⟩
  obtain ⟨C, hC⟩ : ∃ C, C = w3.alloc (.cells #[.int .i64 0, .int .i64 n2, .int .i64 n3, .slice av nx cv] 26) := ⟨_, rfl⟩
  have HC : Hid (C = w3.alloc (.cells #[.int .i64 0, .int .i64 n2, .int .i64 n3, .slice av nx cv] 26)) := hC
  obtain ⟨cb, hcb⟩ : ∃ c, c = w3.heap.size := ⟨_, rfl⟩
  have HCB : Hid (cb = w3.heap.size) := hcb
  have HCF : Hid (Cfg w R w.heap.size cb a len cap 0 n2 n3 (.slice av nx cv) xs C) := by
    have hblk := HG3.out.block w.heap.size (by rw [HVS.out]; omega) (fun e => by have := Option.some.inj e; have := HRS.out; omega)
    have hlt3 : w.heap.size < w3.heap.size := by have h1 := HG3.out.size; rw [HVS.out] at h1; omega
    have hba : Below w3.heap.size w3 C := by rw [hC]; exact (Below.refl _ _).alloc (Nat.le_refl _) _
    have cell : ∀ i v, #[Value.int .i64 0, .int .i64 n2, .int .i64 n3, .slice av nx cv][i]? = some v → C.cell? ⟨w3.heap.size, i, none⟩ = some v := fun i v q => by rw [hC, World.cell?_alloc_new]; exact q
    have hRW : R < w.heap.size := HRS.out
    refine ⟨by rw [hcb]; exact cell 0 _ rfl, by rw [hcb]; exact cell 1 _ rfl, by rw [hcb]; exact cell 2 _ rfl, by rw [hcb]; exact cell 3 _ rfl, fun i => by rw [hcb, hC]; exact World.frozen?_alloc_new _ _ _ _, fun i hi => ?_, fun i => ?_, ?_, by rw [hcb, hnx]; exact hob, by rw [hC]; exact hr3.alloc _, by rw [hC]; exact galloc (gtrans HVG.out HG3.out) _, Nat.le_refl _, by omega⟩
    · obtain ⟨v, hv⟩ := (HVC.out i hi).1
      exact ⟨v, by rw [hba.cell (p := ⟨w.heap.size, i, none⟩) hlt3, World.cell?_of_block (a := ⟨w.heap.size, i, none⟩) hblk]; exact hv⟩
    · rw [hba.frozen (p := ⟨w.heap.size, i, none⟩) hlt3, World.frozen?_of_block (a := ⟨w.heap.size, i, none⟩) hblk]
      exact HVF.out i
    · have h5 := own_below hown2 hba
      rw [HVS.out] at h5
      rw [hnx]
      exact h5
  have HN2 : Hid (1 + (u1 : Int) = n2) := hn2.symm
  have HN3 : Hid (4 + (u2 : Int) = n3) := hn3.symm
  have hb2 : 1 ≤ n2 ∧ n2 ≤ 10 := by omega
  have hb3 : 4 ≤ n3 ∧ n3 ≤ 43 := by omega
  obtain ⟨hb21, hb22⟩ := hb2
  have HB3 : Hid (4 ≤ n3 ∧ n3 ≤ 43) := hb3
  clear hC hcb hn2 hn3 hnx hown hown2 hob hgv hr3 hx1 hx3 hxs hb3 HR1 HR2 HG1 HG2 HVC HVF
  have hCd : Cfg w R w.heap.size cb a len cap 0 n2 n3 (.slice av nx cv) xs C.drew := HCF.out.drawn HRS.out (gdraws (grefl _ _) 1) (HCF.out.rd.draws 1)
  go_wp2_with fail
  rw [HN2.out, HN3.out, ← HC.out, ← HCB.out]
  go_region_held3 (fun w' => w'.cell? ⟨cb, 1, none⟩ = some (.int .i64 n2)) (first | with_reducible exact hCd.c1 | with_reducible exact (hCd.put0 HRS.out _).c1)
    (first | (go_at_call 33; refine (below_pos _ R a len cap hCd.rd 14 (by omega) (by omega)).mono ?_; rintro e wB ⟨u3, rfl, hu3, hrB, hbB⟩; have hC2 := hCd.drawn HRS.out hbB hrB; clear hCd hrB hbB; have hCd := hC2; clear hC2; have k0 := hCd.c0; have kf := hCd.fr 0))
  all_goals
    have hw1 : IntKind.i64.wrap (4 + n2) = 4 + n2 := by rw [IntKind.wrap_i64]; omega
    have hw2 : IntKind.i64.wrap (4 + (u3 : Int)) = 4 + (u3 : Int) := by rw [IntKind.wrap_i64]; omega
    have hw3 : IntKind.i64.wrap (4 + n2 + (4 + (u3 : Int))) = 4 + n2 + (4 + (u3 : Int)) := by rw [IntKind.wrap_i64]; omega
    rw [hw1, hw2, hw3]
    obtain ⟨n1, hn1⟩ : ∃ n : Int, n = 4 + n2 + (4 + (u3 : Int)) := ⟨_, rfl⟩
    rw [← hn1]
    have hn10 : 9 ≤ n1 := by omega
    have hn11 : n1 ≤ 40 := by omega
    have hC4 := hCd.put0 HRS.out n1
    obtain ⟨D, hD⟩ : ∃ D, D = wB.setCell ⟨cb, 0, none⟩ (.int .i64 n1) := ⟨_, rfl⟩
    rw [← hD] at hC4 ⊢
    have HC4 : Hid (Cfg w R w.heap.size cb a len cap n1 n2 n3 (.slice av nx cv) xs D) := hC4
    clear hCd hC4 hD hw1 hw2 hw3 hn1 k0 kf hu3
    obtain ⟨hb31, hb32⟩ := HB3.out
    go_wp2_with fail
    refine (once_any _ R a len cap HC4.out.rd 3 (by omega) (by omega)).mono ?_
    rintro e w5 ⟨q, rfl, hr5, hb5⟩
    have HC5 : Hid (Cfg w R w.heap.size cb a len cap n1 n2 n3 (.slice av nx cv) xs w5) := HC4.out.drawn HRS.out hb5 hr5
    clear hr5 hb5
    cases q with
    | false =>
      have HC9 : Hid (Cfg w R w.heap.size cb a len cap n1 n2 n3 (.slice av nx cv) xs w5) := HC5.out
      have hC9 := HC9.out
      obtain ⟨⟨v0, e0⟩, ⟨v1, e1⟩, ⟨v2, e2⟩, ⟨v3, e3⟩⟩ := And.intro (hC9.r 0 (by decide)) (And.intro (hC9.r 1 (by decide)) (And.intro (hC9.r 2 (by decide)) (hC9.r 3 (by decide))))
      have f0 := hC9.rf 0
      have f1 := hC9.rf 1
      have f2 := hC9.rf 2
      have f3 := hC9.rf 3
      have g0 := hC9.c0
      have g1 := hC9.c1
      have g2 := hC9.c2
      have g3 := hC9.c3
      clear hC9
      have HD : Hid (_ ∧ _ ∧ _) := HC9.out.done HRS.out (.int .i64 n1) (.int .i64 n2) (.int .i64 n3) (.slice av nx cv)
      have HQ : Hid (_ ∧ _ ∧ _ ∧ _) := got4 HC9.out.r (.int .i64 n1) (.int .i64 n2) (.int .i64 n3) (.slice av nx cv)
      go_wp2
      refine bodyPost_ret (v := .agg #[.int .i64 n1, .int .i64 n2, .int .i64 n3, .slice av nx cv]) ?_ rfl ⟨⟨n1, n2, n3, .slice av nx cv, rfl, ⟨by omega, by omega, by omega, by omega, by omega, by omega⟩, xs, HXS.out.1, HXS.out.2.1, HXS.out.2.2, HD.out.1, HD.out.2.1, HD.out.2.2⟩, HD.out.2.2⟩
      obtain ⟨q0, q1, q2, q3⟩ := HQ.out
      unfold put4 at q0 q1 q2 q3
      simp [results, Tryd.results32, go_sem, q0, q1, q2, q3]
    | true =>
      have k0 := HC5.out.c0
      have kf := HC5.out.fr 0
      have hmn : n1 + 40 ≤ 128 := by omega
      have HC6 : Hid (Cfg w R w.heap.size cb a len cap (n1 + 40) n2 n3 (.slice av nx cv) xs (w5.setCell ⟨cb, 0, none⟩ (.int .i64 (n1 + 40)))) := HC5.out.put0 HRS.out (n1 + 40)
      go_wp2_with fail
      refine (below_pos _ R a len cap HC6.out.rd 200 (by omega) (by omega)).mono ?_
      rintro e w6 ⟨u4, rfl, hu4, hr6, hb6⟩
      have hC7 := HC6.out.drawn HRS.out hb6 hr6
      have j2 := hC7.c2
      have jf2 := hC7.fr 2
      have hC8 := hC7.put2 HRS.out (4 + (u4 : Int))
      have j1 := hC8.c1
      have jf1 := hC8.fr 1
      have HC8 : Hid (Cfg w R w.heap.size cb a len cap (n1 + 40) n2 (4 + (u4 : Int)) (.slice av nx cv) xs (w6.setCell ⟨cb, 2, none⟩ (.int .i64 (4 + (u4 : Int))))) := hC8
      have HC9 : Hid (Cfg w R w.heap.size cb a len cap (n1 + 40) 10 (4 + (u4 : Int)) (.slice av nx cv) xs ((w6.setCell ⟨cb, 2, none⟩ (.int .i64 (4 + (u4 : Int)))).setCell ⟨cb, 1, none⟩ (.int .i64 10))) := hC8.put1 HRS.out 10
      clear hr6 hb6 hC7 hC8 k0 kf
      have hC9 := HC9.out
      obtain ⟨⟨v0, e0⟩, ⟨v1, e1⟩, ⟨v2, e2⟩, ⟨v3, e3⟩⟩ := And.intro (hC9.r 0 (by decide)) (And.intro (hC9.r 1 (by decide)) (And.intro (hC9.r 2 (by decide)) (hC9.r 3 (by decide))))
      have f0 := hC9.rf 0
      have f1 := hC9.rf 1
      have f2 := hC9.rf 2
      have f3 := hC9.rf 3
      have g0 := hC9.c0
      have g1 := hC9.c1
      have g2 := hC9.c2
      have g3 := hC9.c3
      clear hC9
      have HD : Hid (_ ∧ _ ∧ _) := HC9.out.done HRS.out (.int .i64 (n1 + 40)) (.int .i64 10) (.int .i64 (4 + (u4 : Int))) (.slice av nx cv)
      have HQ : Hid (_ ∧ _ ∧ _ ∧ _) := got4 HC9.out.r (.int .i64 (n1 + 40)) (.int .i64 10) (.int .i64 (4 + (u4 : Int))) (.slice av nx cv)
      go_wp2
      refine bodyPost_ret (v := .agg #[.int .i64 (n1 + 40), .int .i64 10, .int .i64 (4 + (u4 : Int)), .slice av nx cv]) ?_ rfl ⟨⟨(n1 + 40), 10, (4 + (u4 : Int)), .slice av nx cv, rfl, ⟨by omega, by omega, by omega, by omega, by omega, by omega⟩, xs, HXS.out.1, HXS.out.2.1, HXS.out.2.2, HD.out.1, HD.out.2.1, HD.out.2.2⟩, HD.out.2.2⟩
      obtain ⟨q0, q1, q2, q3⟩ := HQ.out
      unfold put4 at q0 q1 q2 q3
      simp [results, Tryd.results32, go_sem, q0, q1, q2, q3]
end Go.Proofs.YtpkdkkjdlhillaaDoor.rd
