/-
  Graphs that a call has put together, compared.
-/
import Derived.Test.YthjfgibflbbgmaaGsPl1
import Derived.Deep.RegionHeld3
namespace Go.Proofs.Ythjfgibflbbgmaa.gs
open Go.RowKit
open kinds ints obj ref gr cl

/-- Objects as they are read: each with its values at a place of their own. -/
def Og (w : World) (a : Option Addr) (ns : List Nd) : Prop := ∀ i (hi : i < ns.length), ∃ g gi ci, a = some ⟨g, 0, none⟩ ∧ w.cell? ⟨g, i * 2, none⟩ = some (.int .i64 ns[i].1) ∧ w.cell? ⟨g, i * 2 + 1, none⟩ = some (.slice (some ⟨gi, 0, none⟩) ns[i].2.length ci) ∧ Ints w (some ⟨gi, 0, none⟩) gi ns[i].2
theorem Og.below {w w' : World} {a : Option Addr} {ns : List Nd} (h : Og w a ns) (hb : Below w.heap.size w w') : Og w' a ns := fun i hi => by
  obtain ⟨g, gi, ci, e, h0, h1, h2⟩ := h i hi
  exact ⟨g, gi, ci, e, by rw [hb.cell (p := ⟨g, i * 2, none⟩) (World.block_lt_of_cell? w _ h0)]; exact h0, by rw [hb.cell (p := ⟨g, i * 2 + 1, none⟩) (World.block_lt_of_cell? w _ h1)]; exact h1, h2.below hb⟩
theorem ndsE_at (L : List En) (i : Nat) (hi : i < (ndsE L).length) : (ndsE L)[i] = (L[i]'(by rw [← ndsE_len]; exact hi)).2.2 := by simp [ndsE]
theorem RowE.og {w : World} {B : Nat} {v : Value} {L : List En} (h : RowE w B v L) : ∃ a c, v = .slice a L.length c ∧ Og w a (ndsE L) := by
  obtain ⟨a, g, c, e, _, hr⟩ := h.shape
  refine ⟨a, c, e, fun i hi => ?_⟩
  have hi2 : i < L.length := by rw [← ndsE_len]; exact hi
  obtain ⟨e0, c0, _, c1⟩ := hr i hi2
  obtain ⟨hv, _, _⟩ := h.vals _ (List.getElem_mem hi2)
  rw [ndsE_at L i hi]
  exact ⟨g, L[i].1, L[i].2.1, e0, c0, c1, hv⟩
theorem copies_og {w : World} {g : Nat} {ns : List Nd} (h : Copies w g ns) : Og w (some ⟨g, 0, none⟩) ns := fun i hi => by
  obtain ⟨c0, gi, c1, ia, _⟩ := h i hi
  exact ⟨g, gi, _, rfl, c0, c1, ia⟩
set_option maxHeartbeats 1000000 in
set_option maxRecDepth 20000 in
theorem eqObjSE (w : World) (a b : Option Addr) (ca cb n : Nat) (ns : List Nd) (hx : ns.length = n) (hn : n ≤ 1048576) (hz : ∀ x ∈ ns, x.2.length ≤ 1048576) (ha : Og w a ns) (hb : Og w b ns) :
    Calls Try.prog 44 #[.slice a n ca, .slice b n cb] w fun e w' => e = .returned (.bool true) ∧ Below w.heap.size w w' := by
  have HA : Hid (Og w a ns) := ha
  have HBb : Hid (Og w b ns) := hb
  have HXS : Hid (ns.length = n) := hx
  have HZ : Hid (∀ x ∈ ns, x.2.length ≤ 1048576) := hz
  clear ha hb hx hz
  have hne : ((n : Int) != (n : Int)) = false := by simp
  go_enter Try.func44, Try.ntmps44
  go_wp2
  go_loopw [5] (fun i wr => ∃ k : Nat, k ≤ n ∧ i = .int .i64 k ∧ Below w.heap.size w wr) (fun i _ => n - (intOf i).toNat)
  case atStart => exact ⟨0, Nat.zero_le _, rfl, Below.refl _ _⟩
  case round =>
    obtain ⟨k, hk, rfl, hb⟩ := hrel
    have HB : Hid (Below w.heap.size w wr) := hb
    clear hb
    by_cases hlt : k < n
    · have hi0 : k < ns.length := by have := HXS.out; omega
      obtain ⟨g, gi, ci, rfl, c0, c1, ia⟩ := HA.out.below HB.out k hi0
      obtain ⟨h, hi, di, rfl, d0, d1, ib⟩ := HBb.out.below HB.out k hi0
      have hv := HZ.out ns[k] (List.getElem_mem hi0)
      generalize ns[k] = nd at c0 c1 d0 d1 ia ib hv
      obtain ⟨x, v⟩ := nd
      have hlt' : (k : Int) < (n : Int) := by omega
      have hv' : v.length ≤ 1048576 := hv
      have HE : Hid (∀ W, Below wr.heap.size wr W → Calls _ _ _ W _) := fun W q => eqObj_same W x _ _ gi hi v.length ci di v rfl hv' (ia.below q) (ib.below q)
      have e0 : wr.cell? ⟨g, k * 2, none⟩ = some (.int .i64 x) := c0
      have e1 : wr.cell? ⟨g, k * 2 + 1, none⟩ = some (.slice (some ⟨gi, 0, none⟩) v.length ci) := c1
      have e2 : wr.cell? ⟨h, k * 2, none⟩ = some (.int .i64 x) := d0
      have e3 : wr.cell? ⟨h, k * 2 + 1, none⟩ = some (.slice (some ⟨hi, 0, none⟩) v.length di) := d1
      have HCS : Hid (∀ w', Below wr.heap.size wr w' → w'.cell? ⟨g, k * 2, none⟩ = some (.int .i64 x) ∧ w'.cell? ⟨g, k * 2 + 1, none⟩ = some (.slice (some ⟨gi, 0, none⟩) v.length ci) ∧ w'.cell? ⟨h, k * 2, none⟩ = some (.int .i64 x) ∧ w'.cell? ⟨h, k * 2 + 1, none⟩ = some (.slice (some ⟨hi, 0, none⟩) v.length di)) := fun w' hb' =>
        ⟨by rw [hb'.cell (p := ⟨g, k * 2, none⟩) (World.block_lt_of_cell? wr _ e0)]; exact e0, by rw [hb'.cell (p := ⟨g, k * 2 + 1, none⟩) (World.block_lt_of_cell? wr _ e1)]; exact e1, by rw [hb'.cell (p := ⟨h, k * 2, none⟩) (World.block_lt_of_cell? wr _ e2)]; exact e2, by rw [hb'.cell (p := ⟨h, k * 2 + 1, none⟩) (World.block_lt_of_cell? wr _ e3)]; exact e3⟩
      have HBd : Hid (Below wr.heap.size wr wr.drew) := (Below.refl _ _).drew
      clear c0 c1 d0 d1 ia ib hv
      go_wp2
      go_region_held3 (fun w' => w'.cell? ⟨g, k * 2, none⟩ = some (.int .i64 x) ∧ w'.cell? ⟨g, k * 2 + 1, none⟩ = some (.slice (some ⟨gi, 0, none⟩) v.length ci) ∧ w'.cell? ⟨h, k * 2, none⟩ = some (.int .i64 x) ∧ w'.cell? ⟨h, k * 2 + 1, none⟩ = some (.slice (some ⟨hi, 0, none⟩) v.length di))
        (first | exact HCS.out _ HBd.out | exact HCS.out _ h5)
        (first | (go_at_call 76; refine (HE.out _ HBd.out).mono ?_; rintro e w5 ⟨rfl, hb5⟩; have h5 : Below wr.heap.size wr w5 := ⟨hb5.os, hb5.tape, hb5.output, hb5.size, hb5.block⟩))
      all_goals
        have HB5 : Hid (Below w.heap.size w w5) := HB.out.trans (h5.mono HB.out.size)
        clear h5 hb5
        go_wp2
        go_roundw
        case rel => exact ⟨k + 1, by omega, by go_num, HB5.out⟩
        case measure => simp [intOf]; omega
    · go_wp2
      go_ret
      exact ⟨rfl, HB.out⟩
set_option maxHeartbeats 1000000 in
set_option maxRecDepth 20000 in
theorem eqGraphE (w : World) (p1 p2 q1 q2 : Option Addr) (g1 h1 c1 c2 d1 d2 : Nat) (rs : List Int) (ns : List Nd) (hr : rs.length ≤ 1048576) (hn : ns.length ≤ 1048576) (hz : ∀ x ∈ ns, x.2.length ≤ 1048576) (ra : Ints w p1 g1 rs) (rb : Ints w q1 h1 rs) (na : Og w p2 ns) (nb : Og w q2 ns) :
    Calls Try.prog 18 #[.agg #[.slice p1 rs.length c1, .slice p2 ns.length c2], .agg #[.slice q1 rs.length d1, .slice q2 ns.length d2]] w fun e w' => e = .returned (.bool true) ∧ Below w.heap.size w w' := by
  obtain ⟨n2, hn2⟩ : ∃ n, ns.length = n := ⟨_, rfl⟩
  rw [hn2] at hn ⊢
  obtain ⟨W, hW⟩ : ∃ W, W = (w.alloc (.cells #[.slice p1 rs.length c1, .slice p2 n2 c2] 33)).alloc (.cells #[.slice q1 rs.length d1, .slice q2 n2 d2] 33) := ⟨_, rfl⟩
  have HW : Hid (W = (w.alloc (.cells #[.slice p1 rs.length c1, .slice p2 n2 c2] 33)).alloc (.cells #[.slice q1 rs.length d1, .slice q2 n2 d2] 33)) := hW
  have hb0 : Below w.heap.size w W := by rw [hW]; exact ((Below.refl _ _).alloc (Nat.le_refl _) _).alloc (by simp) _
  have HB0 : Hid (Below w.heap.size w W) := hb0
  have k0 : W.cell? ⟨w.heap.size, 1, none⟩ = some (.slice p2 n2 c2) := by rw [hW, World.cell?_alloc_past _ _ _ (by simp), World.cell?_alloc_at _ _ _ _ (by simp)]; rfl
  have k1 : W.cell? ⟨w.heap.size + 1, 1, none⟩ = some (.slice q2 n2 d2) := by rw [hW, World.cell?_alloc_at _ _ _ _ (by simp)]; rfl
  have hsz : W.heap.size = w.heap.size + 2 := by rw [hW]; simp
  have HE1 : Hid (Calls _ _ _ W _) := eqInt64S_same W _ _ g1 h1 c1 d1 rs hr (ra.below hb0) (rb.below hb0)
  have HE2 : Hid (∀ W', Below W.heap.size W W' → Calls _ _ _ W' _) := fun W' q => eqObjSE W' p2 q2 c2 d2 n2 ns hn2 hn hz ((na.below hb0).below q) ((nb.below hb0).below q)
  have HK : Hid (∀ W', Below W.heap.size W W' → W'.cell? ⟨w.heap.size, 1, none⟩ = some (.slice p2 n2 c2) ∧ W'.cell? ⟨w.heap.size + 1, 1, none⟩ = some (.slice q2 n2 d2)) := fun W' q =>
    ⟨by rw [q.cell (p := ⟨w.heap.size, 1, none⟩) (by show w.heap.size < _; omega)]; exact k0, by rw [q.cell (p := ⟨w.heap.size + 1, 1, none⟩) (by show w.heap.size + 1 < _; omega)]; exact k1⟩
  clear hW hb0 k0 k1 ra rb na nb hn2 hn hz hsz hr
  go_enter Try.func18, Try.ntmps18
  go_wp2_with fail
  rw [← HW.out]
  refine HE1.out.mono ?_
  rintro e w1 ⟨rfl, hb⟩
  have HB1 : Hid (Below W.heap.size W w1) := hb
  obtain ⟨k0, k1⟩ := HK.out w1 hb
  clear hb
  go_wp2_with fail
  refine (HE2.out w1 HB1.out).mono ?_
  rintro e w2 ⟨rfl, hb⟩
  have HB2 : Hid (Below w.heap.size w w2) := HB0.out.trans ((HB1.out.trans (hb.mono HB1.out.size)).mono HB0.out.size)
  clear hb k0 k1
  go_wp2
  go_ret
  exact ⟨rfl, HB2.out⟩
end Go.Proofs.Ythjfgibflbbgmaa.gs
