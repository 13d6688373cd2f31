/-
  Graphs that a call has put together, marked, and their marks found again.
-/
import Derived.Test.YthjfgibflbbgmaaGsPl4
namespace Go.Proofs.Ythjfgibflbbgmaa.gs
open Go.RowKit
open kinds ints obj ref gr cl

/-- The mark with which an object's begin. -/
def cnt (k : Nat) (L : List En) : Nat → Nat
  | 0 => k
  | i + 1 => cnt k L i + 1 + (L.getD i (0, 0, (0, []))).2.2.2.length
theorem cnt_succ (k : Nat) (L : List En) {i : Nat} (hi : i < L.length) : cnt k L (i + 1) = cnt k L i + 1 + L[i].2.2.2.length := by
  rw [cnt, List.getD_eq_getElem?_getD, List.getElem?_eq_getElem hi]; rfl
theorem cnt_le {k : Nat} {L : List En} (h : ∀ e ∈ L, e.2.2.2.length ≤ 23) : ∀ i, i ≤ L.length → cnt k L i ≤ k + i * 24
  | 0, _ => by simp [cnt]
  | i + 1, hi => by
    have h1 := cnt_le (k := k) h i (by omega)
    have h2 := h _ (List.getElem_mem (show i < L.length by omega))
    rw [cnt_succ k L (by omega)]
    omega
structure MG (B g k : Nat) (L : List En) (j : Nat) (w0 w : World) : Prop where
  c1 : ∀ i (hi : i < L.length), w.cell? ⟨g, i * 2 + 1, none⟩ = some (.slice (some ⟨L[i].1, 0, none⟩) L[i].2.2.2.length L[i].2.1)
  fz : ∀ i, i < L.length → w.frozen? ⟨g, i * 2, none⟩ = false
  c0 : ∀ i (hi : i < L.length), w.cell? ⟨g, i * 2, none⟩ = some (.int .i64 (if i < j then ((cnt k L i : Nat) : Int) else L[i].2.2.1))
  iv : ∀ i (hi : i < L.length), Ints w (some ⟨L[i].1, 0, none⟩) L[i].1 (if i < j then marks (cnt k L i + 1) L[i].2.2.2.length else L[i].2.2.2)
  fr : Below B w0 w
  kp : ∀ i, i < w0.heap.size → (0 < L.length → i ≠ g) → (∀ e ∈ L, e.1 ≠ i) → w.heap[i]? = w0.heap[i]?
/-- Apart: each object's values lie in a block of their own. -/
structure Apt (B g : Nat) (L : List En) : Prop where
  gB : B ≤ g
  vB : ∀ e ∈ L, B ≤ e.1
  ne : ∀ e ∈ L, e.1 ≠ g
  df : ∀ i j (hi : i < L.length) (hj : j < L.length), i ≠ j → L[i].1 ≠ L[j].1
theorem MG.begin {w : World} {B n c : Nat} {a : Option Addr} {L : List En} (k : Nat) (h : RowE w B (.slice a n c) L) : ∃ g, (∀ i, i < L.length → a = some ⟨g, 0, none⟩) ∧ Apt B g L ∧ MG B g k L 0 w w ∧ (0 < L.length → (Value.slice a n c).ownBlock = some g) := by
  obtain ⟨a2, g, c2, e, hg, hr⟩ := h.shape
  injection e with e1 e2 e3
  subst e1
  have hz : ∀ i, i < L.length → a = some ⟨g, 0, none⟩ := fun i hi => (hr i hi).1
  have hown : 0 < L.length → (Value.slice a n c).ownBlock = some g := fun h0 => by rw [hz 0 h0]; rfl
  refine ⟨g, hz, ⟨hg, fun e he => (h.vals e he).2.1, fun e he => h.ne g (hown (List.length_pos_of_mem he)) e he, fun i j hi hj hij => ?_⟩, ⟨fun i hi => (hr i hi).2.2.2, fun i hi => (hr i hi).2.2.1, fun i hi => by rw [if_neg (Nat.not_lt_zero _)]; exact (hr i hi).2.1, fun i hi => by rw [if_neg (Nat.not_lt_zero _)]; exact (h.vals _ (List.getElem_mem hi)).1, Below.refl _ _, fun _ _ _ _ => rfl⟩, hown⟩
  have hp := List.pairwise_iff_getElem.1 h.up
  rcases Nat.lt_or_gt_of_ne hij with q | q
  · have := hp i j hi hj q; omega
  · have := hp j i hj hi q; omega
theorem MG.step {B g k j : Nat} {L : List En} {w0 w w5 : World} (h : MG B g k L j w0 w) (hj : j < L.length) (ha : Apt B g L) (hgr : (w.setCell ⟨g, j * 2, none⟩ (.int .i64 ((cnt k L j : Nat) : Int))).grownBy w5 (some L[j].1)) (hin : Ints w5 (some ⟨L[j].1, 0, none⟩) L[j].1 (marks (cnt k L j + 1) L[j].2.2.2.length)) : MG B g k L (j + 1) w0 w5 := by
  have hgl : g < w.heap.size := World.block_lt_of_cell? w _ (h.c1 j hj)
  have hjg : L[j].1 ≠ g := ha.ne _ (List.getElem_mem hj)
  have hjB : B ≤ L[j].1 := ha.vB _ (List.getElem_mem hj)
  have hgB := ha.gB
  have hgb : w5.heap[g]? = (w.setCell ⟨g, j * 2, none⟩ (.int .i64 ((cnt k L j : Nat) : Int))).heap[g]? := hgr.block g (by simpa using hgl) (fun q => hjg (Option.some.inj q).symm)
  have hot : ∀ i, i < w.heap.size → i ≠ g → i ≠ L[j].1 → w5.heap[i]? = w.heap[i]? := fun i hi h1 h2 => (hgr.block i (by simpa using hi) (fun q => h2 (Option.some.inj q))).trans (Below.heap_setCell w ⟨g, j * 2, none⟩ _ i (fun e => h1 e))
  refine ⟨fun i hi => ?_, fun i hi => ?_, fun i hi => ?_, fun i hi => ?_, ?_, fun i hi h1 h2 => ?_⟩
  · rw [World.cell?_of_block (a := ⟨g, i * 2 + 1, none⟩) hgb, World.cell?_setCell_other _ _ _ _ (fun q => by have : j * 2 = i * 2 + 1 := congrArg Addr.off q; omega)]
    exact h.c1 i hi
  · rw [World.frozen?_of_block (a := ⟨g, i * 2, none⟩) hgb, World.frozen?_setCell]
    exact h.fz i hi
  · rw [World.cell?_of_block (a := ⟨g, i * 2, none⟩) hgb]
    by_cases e : i = j
    · subst e
      rw [if_pos (Nat.lt_succ_self _)]
      exact World.cell?_setCell_same _ _ _ (h.c0 i hi)
    · rw [World.cell?_setCell_other _ _ _ _ (fun q => e (by have : j * 2 = i * 2 := congrArg Addr.off q; omega)), h.c0 i hi]
      by_cases q : i < j
      · rw [if_pos q, if_pos (by omega)]
      · rw [if_neg q, if_neg (by omega)]
  · by_cases e : i = j
    · subst e
      rw [if_pos (Nat.lt_succ_self _)]
      exact hin
    · have hi1 : Ints w5 (some ⟨L[i].1, 0, none⟩) L[i].1 (if i < j then marks (cnt k L i + 1) L[i].2.2.2.length else L[i].2.2.2) := fun t ht => by
        obtain ⟨q0, q1, q2⟩ := h.iv i hi t ht
        have hb := hot L[i].1 (World.block_lt_of_cell? w _ q1) (ha.ne _ (List.getElem_mem hi)) (ha.df i j hi hj e)
        exact ⟨q0, by rw [World.cell?_of_block (a := ⟨L[i].1, t, none⟩) hb]; exact q1, by rw [World.frozen?_of_block (a := ⟨L[i].1, t, none⟩) hb]; exact q2⟩
      by_cases q : i < j
      · rw [if_pos q] at hi1
        rw [if_pos (by omega)]
        exact hi1
      · rw [if_neg q] at hi1
        rw [if_neg (by omega)]
        exact hi1
  · have h5 := h.fr
    exact ⟨hgr.os.trans h5.os, hgr.tape.trans h5.tape, hgr.output.trans h5.output, Nat.le_trans h5.size (by have := hgr.size; simpa using this), fun i hi => (hot i (by omega) (by omega) (by omega)).trans (h5.block i hi)⟩
  · exact (hot i (Nat.lt_of_lt_of_le hi h.fr.size) (h1 (Nat.lt_of_le_of_lt (Nat.zero_le _) hj)) (fun e => h2 _ (List.getElem_mem hj) e.symm)).trans (h.kp i hi h1 h2)
/-- Objects that are marked, as they are read. -/
def MS (w : World) (a : Option Addr) (k : Nat) (L : List En) : Prop := ∀ i (hi : i < L.length), ∃ g, a = some ⟨g, 0, none⟩ ∧ w.cell? ⟨g, i * 2, none⟩ = some (.int .i64 ((cnt k L i : Nat) : Int)) ∧ w.cell? ⟨g, i * 2 + 1, none⟩ = some (.slice (some ⟨L[i].1, 0, none⟩) L[i].2.2.2.length L[i].2.1) ∧ Ints w (some ⟨L[i].1, 0, none⟩) L[i].1 (marks (cnt k L i + 1) L[i].2.2.2.length)
theorem MS.below {w w' : World} {a : Option Addr} {k : Nat} {L : List En} (h : MS w a k L) (hb : Below w.heap.size w w') : MS w' a k L := fun i hi => by
  obtain ⟨g, e, h0, h1, h2⟩ := h i hi
  exact ⟨g, e, by rw [hb.cell (p := ⟨g, i * 2, none⟩) (World.block_lt_of_cell? w _ h0)]; exact h0, by rw [hb.cell (p := ⟨g, i * 2 + 1, none⟩) (World.block_lt_of_cell? w _ h1)]; exact h1, h2.below hb⟩
set_option maxHeartbeats 1000000 in
set_option maxRecDepth 20000 in
theorem markObjSE (w : World) (a : Option Addr) (B g cap n k : Nat) (L : List En) (hx : L.length = n) (hn : n ≤ 400) (h23 : ∀ e ∈ L, e.2.2.2.length ≤ 23) (hk : k ≤ 1048577) (hsh : ∀ i, i < L.length → a = some ⟨g, 0, none⟩) (ha : Apt B g L) (hm : MG B g k L 0 w w) :
    Calls Try.prog 46 #[.slice a n cap, .int .i64 (k : Int)] w fun e w' => e = .returned (.int .i64 ((cnt k L n : Nat) : Int)) ∧ MG B g k L n w w' := by
  have HX : Hid (L.length = n) := hx
  have HSH : Hid (∀ i, i < L.length → a = some ⟨g, 0, none⟩) := hsh
  have HAP : Hid (Apt B g L) := ha
  have HL : Hid (∀ e ∈ L, e.2.2.2.length ≤ 23) := h23
  have HM0 : Hid (MG B g k L 0 w w) := hm
  clear hx hsh ha hm h23
  go_enter Try.func46, Try.ntmps46
  go_wp2
  go_loopw [1, 5] (fun m i wr => ∃ j : Nat, j ≤ n ∧ i = .int .i64 (j : Int) ∧ m = .int .i64 ((cnt k L j : Nat) : Int) ∧ MG B g k L j w wr) (fun _ i _ => n - (intOf i).toNat)
  case atStart => exact ⟨0, Nat.zero_le _, rfl, rfl, HM0.out⟩
  case round =>
    clear HM0
    obtain ⟨j, hj, rfl, rfl, hmg⟩ := hrel
    have HMG : Hid (MG B g k L j w wr) := hmg
    clear hmg
    by_cases hlt : j < n
    · have hjl : j < L.length := by have := HX.out; omega
      obtain rfl := HSH.out j hjl
      have hlti : (j : Int) < (n : Int) := by omega
      have hj0 : (0 : Int) ≤ (j : Int) := by omega
      have d0 := HMG.out.c0 j hjl
      have d1 := HMG.out.c1 j hjl
      have f0 := HMG.out.fz j hjl
      have hvi := HMG.out.iv j hjl
      rw [if_neg (Nat.lt_irrefl _)] at d0 hvi
      have hv23 := HL.out _ (List.getElem_mem hjl)
      have hcl := cnt_le (k := k) HL.out j (by omega)
      have hcs := cnt_succ k L hjl
      have hnb : L[j].1 ≠ g := HAP.out.ne _ (List.getElem_mem hjl)
      have HST : Hid (∀ w5, (wr.setCell ⟨g, j * 2, none⟩ (.int .i64 ((cnt k L j : Nat) : Int))).grownBy w5 (some L[j].1) → Ints w5 (some ⟨L[j].1, 0, none⟩) L[j].1 (marks (cnt k L j + 1) L[j].2.2.2.length) → MG B g k L (j + 1) w w5) := fun w5 h1 h2 => HMG.out.step hjl HAP.out h1 h2
      have HCS : Hid (cnt k L (j + 1) = cnt k L j + 1 + L[j].2.2.2.length) := hcs
      generalize cnt k L j = kk at HST hcl HCS
      generalize L[j] = en at d0 d1 hvi hv23 hnb HST HCS
      obtain ⟨gi, ci, t, vs⟩ := en
      dsimp only at d0 d1 hvi hv23 hnb HST HCS
      obtain ⟨X, hX⟩ : ∃ X, X = wr.setCell ⟨g, j * 2, none⟩ (.int .i64 (kk : Int)) := ⟨_, rfl⟩
      have HX1 : Hid (X = wr.setCell ⟨g, j * 2, none⟩ (.int .i64 (kk : Int))) := hX
      rw [← hX] at HST
      have e1 : X.cell? ⟨g, j * 2 + 1, none⟩ = some (.slice (some ⟨gi, 0, none⟩) vs.length ci) := by rw [hX, World.cell?_setCell_other _ _ _ _ (fun q => by have : j * 2 = j * 2 + 1 := congrArg Addr.off q; omega)]; exact d1
      have hvx : Ints X (some ⟨gi, 0, none⟩) gi vs := fun i hi => by
        obtain ⟨q0, q1, q2⟩ := hvi i hi
        have hb : X.heap[gi]? = wr.heap[gi]? := by rw [hX]; exact Below.heap_setCell wr ⟨g, j * 2, none⟩ _ gi hnb
        exact ⟨q0, by rw [World.cell?_of_block (a := ⟨gi, i, none⟩) hb]; exact q1, by rw [World.frozen?_of_block (a := ⟨gi, i, none⟩) hb]; exact q2⟩
      obtain ⟨k1, hk1⟩ : ∃ k1 : Nat, k1 = kk + 1 := ⟨_, rfl⟩
      have HMK : Hid (Calls _ _ _ X _) := markInt64S_any X (some ⟨gi, 0, none⟩) gi vs.length ci vs k1 rfl hvx (by omega) (by omega)
      rw [← hk1] at HST HCS
      have hkw : (kk : Int) + 1 = (k1 : Int) := by omega
      have hk1b : k1 ≤ 1058577 := by omega
      clear hvi hv23 hnb hcl hcs hX hvx hk1 d1
      go_wp2_with (rw [← HX1.out])
      try rw [hkw]
      refine HMK.out.mono ?_
      rintro e w5 ⟨rfl, hg5, hi5⟩
      have HM5 : Hid (MG B g k L (j + 1) w w5) := HST.out w5 hg5 hi5
      clear hg5 hi5 e1 hkw d0 f0
      go_wp2
      go_roundw
      case rel => exact ⟨j + 1, by omega, by go_num, by rw [HCS.out]; simp, HM5.out⟩
      case measure => simp [intOf]; omega
    · obtain rfl : j = n := by omega
      go_wp2
      go_ret
      exact ⟨rfl, HMG.out⟩
set_option maxHeartbeats 1000000 in
set_option maxRecDepth 20000 in
theorem heldObjSE (w : World) (a : Option Addr) (cap n k : Nat) (L : List En) (hx : L.length = n) (hn : n ≤ 400) (h23 : ∀ e ∈ L, e.2.2.2.length ≤ 23) (hk : k ≤ 1048577) (hm : MS w a k L) :
    Calls Try.prog 50 #[.slice a n cap, .int .i64 (k : Int)] w fun e w' => e = .returned (.int .i64 ((cnt k L n : Nat) : Int)) ∧ Below w.heap.size w w' := by
  have HX : Hid (L.length = n) := hx
  have HL : Hid (∀ e ∈ L, e.2.2.2.length ≤ 23) := h23
  have HM0 : Hid (MS w a k L) := hm
  clear hx hm h23
  go_enter Try.func50, Try.ntmps50
  go_wp2
  go_loopw [1, 5] (fun m i wr => ∃ j : Nat, j ≤ n ∧ i = .int .i64 (j : Int) ∧ m = .int .i64 ((cnt k L j : Nat) : Int) ∧ Below w.heap.size w wr) (fun _ i _ => n - (intOf i).toNat)
  case atStart => exact ⟨0, Nat.zero_le _, rfl, rfl, Below.refl _ _⟩
  case round =>
    obtain ⟨j, hj, rfl, rfl, hb⟩ := hrel
    have HB : Hid (Below w.heap.size w wr) := hb
    clear hb
    by_cases hlt : j < n
    · have hjl : j < L.length := by have := HX.out; omega
      obtain ⟨g, rfl, d0, d1, hvi⟩ := HM0.out.below HB.out j hjl
      have hlti : (j : Int) < (n : Int) := by omega
      have hj0 : (0 : Int) ≤ (j : Int) := by omega
      have hv23 := HL.out _ (List.getElem_mem hjl)
      have hcl := cnt_le (k := k) HL.out j (by omega)
      have hcs := cnt_succ k L hjl
      have HCS : Hid (cnt k L (j + 1) = cnt k L j + 1 + L[j].2.2.2.length) := hcs
      generalize cnt k L j = kk at d0 hvi hcl HCS
      generalize L[j] = en at d1 hvi hv23 HCS
      obtain ⟨gi, ci, t, vs⟩ := en
      dsimp only at d1 hvi hv23 HCS
      obtain ⟨k1, hk1⟩ : ∃ k1 : Nat, k1 = kk + 1 := ⟨_, rfl⟩
      rw [← hk1] at hvi HCS
      have HMK : Hid (Calls _ _ _ wr _) := heldInt64S_any wr (some ⟨gi, 0, none⟩) gi vs.length ci k1 hvi (by omega) (by omega)
      have hkw : (kk : Int) + 1 = (k1 : Int) := by omega
      have hk1b : k1 ≤ 1058577 := by omega
      have hqq : ((kk : Int) != (kk : Int)) = false := by simp
      obtain ⟨k2, hk2⟩ : ∃ k2 : Nat, k2 = k1 + vs.length := ⟨_, rfl⟩
      rw [← hk2] at HMK HCS
      have hk0 : ¬ (k2 : Int) < 0 := by omega
      clear hvi hv23 hcl hcs hk1
      go_wp2_with fail
      try rw [hkw]
      refine HMK.out.mono ?_
      rintro e w5 ⟨rfl, hb5⟩
      have HB5 : Hid (Below w.heap.size w w5) := HB.out.trans (hb5.mono HB.out.size)
      clear hb5 d0 d1 hkw
      go_wp2
      go_roundw
      case rel => exact ⟨j + 1, by omega, by go_num, by rw [HCS.out, hk2]; simp, HB5.out⟩
      case measure => simp [intOf]; omega
    · obtain rfl : j = n := by omega
      go_wp2
      go_ret
      exact ⟨rfl, HB.out⟩
set_option maxHeartbeats 1000000 in
theorem markGraphE (w : World) (p1 p2 : Option Addr) (B g1 n1 n2 c1 c2 k : Nat) (rs : List Int) (L : List En) (hrl : rs.length = n1) (hnl : L.length = n2) (hr : n1 ≤ 1048576) (hn : n2 ≤ 400) (h23 : ∀ e ∈ L, e.2.2.2.length ≤ 23) (hk : k ≤ 1) (hi1 : Ints w p1 g1 rs) (hrow : RowE w B (.slice p2 n2 c2) L) (hB : B ≤ w.heap.size) (hB1 : B ≤ g1) (hne : (Value.slice p2 n2 c2).ownBlock ≠ some g1) (hnv : ∀ e ∈ L, e.1 ≠ g1) (hgw : 0 < n1 → g1 < w.heap.size) :
    Calls Try.prog 20 #[.agg #[.slice p1 n1 c1, .slice p2 n2 c2], .int .i64 (k : Int)] w fun e w' => e = .returned (.int .i64 ((cnt (k + n1) L n2 : Nat) : Int)) ∧ Ints w' p1 g1 (marks k n1) ∧ MS w' p2 (k + n1) L ∧ Below B w w' ∧ ∀ i, i < w.heap.size → (0 < n1 → i ≠ g1) → (Value.slice p2 n2 c2).ownBlock ≠ some i → (∀ e ∈ L, e.1 ≠ i) → w'.heap[i]? = w.heap[i]? := by
  obtain ⟨W, hW⟩ : ∃ W, W = w.alloc (.cells #[.slice p1 n1 c1, .slice p2 n2 c2] 33) := ⟨_, rfl⟩
  have HW : Hid (W = w.alloc (.cells #[.slice p1 n1 c1, .slice p2 n2 c2] 33)) := hW
  have hb0 : Below w.heap.size w W := by rw [hW]; exact (Below.refl _ _).alloc (Nat.le_refl _) _
  have HB0 : Hid (Below w.heap.size w W) := hb0
  have hWs : w.heap.size < W.heap.size := by rw [hW]; simp
  have k0 : W.cell? ⟨w.heap.size, 0, none⟩ = some (.slice p1 n1 c1) := by rw [hW, World.cell?_alloc_new]; rfl
  have k1 : W.cell? ⟨w.heap.size, 1, none⟩ = some (.slice p2 n2 c2) := by rw [hW, World.cell?_alloc_new]; rfl
  obtain ⟨g2, hi2, ha2, hb2, hc2, hd2, he2⟩ : ∃ g2, Ints w p1 g2 rs ∧ g2 ≠ w.heap.size ∧ (Value.slice p2 n2 c2).ownBlock ≠ some g2 ∧ (∀ e ∈ L, e.1 ≠ g2) ∧ B ≤ g2 ∧ (n1 = 0 ∧ g2 = w.heap.size + 1 ∨ 0 < n1 ∧ g2 = g1) := by
    rcases Nat.eq_zero_or_pos n1 with q | q
    · exact ⟨w.heap.size + 1, fun i hi => by omega, by omega, fun z => by have := (hrow.row.lt _ z).2; omega, fun e he => by have := (hrow.vals e he).2.2; omega, by omega, .inl ⟨q, rfl⟩⟩
    · exact ⟨g1, hi1, by have := hgw q; omega, hne, hnv, hB1, .inr ⟨q, rfl⟩⟩
  have HM1 : Hid (Calls _ _ _ W _) := markInt64S_any W p1 g2 n1 c1 rs k hrl (hi2.below hb0) hr (by omega)
  have HRW : Hid (RowE W B (.slice p2 n2 c2) L) := hrow.quiet hb0
  have HNE : Hid ((Value.slice p2 n2 c2).ownBlock ≠ some g2 ∧ ∀ e ∈ L, e.1 ≠ g2) := ⟨hb2, hc2⟩
  have HN : Hid (L.length = n2 ∧ ∀ e ∈ L, e.2.2.2.length ≤ 23) := ⟨hnl, h23⟩
  have HBB : Hid (B ≤ w.heap.size ∧ B ≤ g2 ∧ (n1 = 0 ∧ g2 = w.heap.size + 1 ∨ 0 < n1 ∧ g2 = g1)) := ⟨hB, hd2, he2⟩
  have HK1 : Hid (∀ w', W.grownBy w' (some g2) → w'.cell? ⟨w.heap.size, 1, none⟩ = some (.slice p2 n2 c2)) := fun w' h => by
    have hk : w'.heap[w.heap.size]? = W.heap[w.heap.size]? := h.block _ hWs (fun q => ha2 (Option.some.inj q).symm)
    rw [World.cell?_of_block (a := ⟨w.heap.size, 1, none⟩) hk]
    exact k1
  clear hW hb0 hWs hi1 hrow hB hB1 hne hnv hrl hnl h23 hi2 ha2 hb2 hc2 hd2 he2 hgw k1
  go_enter Try.func20, Try.ntmps20
  go_wp2_with (rw [← HW.out])
  refine HM1.out.mono ?_
  rintro e w2 ⟨rfl, hg2, hin2⟩
  have k2 := HK1.out w2 hg2
  have hB2 : Below B w w2 := (HB0.out.mono HBB.out.1).trans ⟨hg2.os, hg2.tape, hg2.output, hg2.size, fun i hi => hg2.block i (by have := HB0.out.size; have := HBB.out.1; omega) (fun q => by have := Option.some.inj q; have := HBB.out.2.1; omega)⟩
  have hrow2 : RowE w2 B (.slice p2 n2 c2) L := HRW.out.kept hg2 (fun r q => by
    have q2 : g2 = r := Option.some.inj q
    subst q2
    exact HNE.out)
  obtain ⟨g, hz, hapt, hmg, hown⟩ := MG.begin (k + n1) hrow2
  have HI2 : Hid (Ints w2 p1 g2 (marks k n1)) := hin2
  have HKP : Hid (∀ i, i < w.heap.size → (0 < n1 → i ≠ g1) → w2.heap[i]? = w.heap[i]?) := fun i hi h0 => (hg2.block i (by have := HB0.out.size; omega) (fun q => by
    have q2 : i = g2 := Option.some.inj q
    rcases HBB.out.2.2 with ⟨_, z⟩ | ⟨z0, z⟩
    · omega
    · exact h0 z0 (by omega))).trans (HB0.out.block i hi)
  have HSW : Hid (w.heap.size ≤ w2.heap.size) := hB2.size
  have HB2 : Hid (Below B w w2) := hB2
  have HZ : Hid (∀ i, i < L.length → p2 = some ⟨g, 0, none⟩) := hz
  have HOW : Hid (0 < L.length → (Value.slice p2 n2 c2).ownBlock = some g) := hown
  obtain ⟨k9, hk9⟩ : ∃ k9 : Nat, k9 = k + n1 := ⟨_, rfl⟩
  rw [← hk9] at hmg ⊢
  have HK9 : Hid (k9 = k + n1) := hk9
  have HM2 : Hid (Calls _ _ _ w2 _) := markObjSE w2 p2 B g c2 n2 k9 L HN.out.1 hn HN.out.2 (by omega) hz hapt hmg
  clear hg2 hin2 hB2 hrow2 hz hapt hmg hown k0 hk9
  go_wp2_with fail
  refine HM2.out.mono ?_
  rintro e w3 ⟨rfl, hmg⟩
  have HM3 : Hid (MG B g k9 L n2 w2 w3) := hmg
  have HB3 : Hid (Below B w w3) := HB2.out.trans hmg.fr
  clear hmg k2
  go_wp2
  go_ret
  rw [← HK9.out]
  refine ⟨rfl, fun i hi => ?_, fun i hi => ?_, HB3.out, fun i hi h1 h2 h3 => ?_⟩
  · have hn1 : i < n1 := by rw [marks_len] at hi; exact hi
    obtain rfl : g2 = g1 := (HBB.out.2.2.resolve_left (fun h => by have := h.1; omega)).2
    obtain ⟨q0, q1, q2⟩ := HI2.out i hi
    have hb := HM3.out.kp g2 (World.block_lt_of_cell? w2 _ q1) (fun h0 q => HNE.out.1 (q ▸ HOW.out h0)) (fun e he => HNE.out.2 e he)
    exact ⟨q0, by rw [World.cell?_of_block (a := ⟨g2, i, none⟩) hb]; exact q1, by rw [World.frozen?_of_block (a := ⟨g2, i, none⟩) hb]; exact q2⟩
  · have hil : i < n2 := by rw [← HN.out.1]; exact hi
    have h0 := HM3.out.c0 i hi
    have hv := HM3.out.iv i hi
    rw [if_pos hil] at h0 hv
    exact ⟨g, HZ.out i hi, h0, HM3.out.c1 i hi, hv⟩
  · exact (HM3.out.kp i (Nat.lt_of_lt_of_le hi HSW.out) (fun h0 q => h2 (q ▸ HOW.out h0)) h3).trans (HKP.out i hi h1)
set_option maxHeartbeats 1000000 in
theorem heldGraphE (w : World) (p1 p2 : Option Addr) (g1 n1 n2 c1 c2 k : Nat) (L : List En) (hnl : L.length = n2) (hr : n1 ≤ 1048576) (hn : n2 ≤ 400) (h23 : ∀ e ∈ L, e.2.2.2.length ≤ 23) (hk : k ≤ 1) (hi1 : Ints w p1 g1 (marks k n1)) (hm : MS w p2 (k + n1) L) :
    Calls Try.prog 25 #[.agg #[.slice p1 n1 c1, .slice p2 n2 c2], .int .i64 (k : Int)] w fun e w' => e = .returned (.int .i64 ((cnt (k + n1) L n2 : Nat) : Int)) ∧ Below w.heap.size w w' := by
  obtain ⟨W, hW⟩ : ∃ W, W = w.alloc (.cells #[.slice p1 n1 c1, .slice p2 n2 c2] 33) := ⟨_, rfl⟩
  have HW : Hid (W = w.alloc (.cells #[.slice p1 n1 c1, .slice p2 n2 c2] 33)) := hW
  have hb0 : Below w.heap.size w W := by rw [hW]; exact (Below.refl _ _).alloc (Nat.le_refl _) _
  have HB0 : Hid (Below w.heap.size w W) := hb0
  have hWs : w.heap.size < W.heap.size := by rw [hW]; simp
  have k0 : W.cell? ⟨w.heap.size, 0, none⟩ = some (.slice p1 n1 c1) := by rw [hW, World.cell?_alloc_new]; rfl
  have k1 : W.cell? ⟨w.heap.size, 1, none⟩ = some (.slice p2 n2 c2) := by rw [hW, World.cell?_alloc_new]; rfl
  have HM1 : Hid (Calls _ _ _ W _) := heldInt64S_any W p1 g1 n1 c1 k (hi1.below hb0) hr (by omega)
  have HK1 : Hid (∀ w', Below W.heap.size W w' → w'.cell? ⟨w.heap.size, 1, none⟩ = some (.slice p2 n2 c2)) := fun w' h => by rw [h.cell (p := ⟨w.heap.size, 1, none⟩) hWs]; exact k1
  obtain ⟨k9, hk9⟩ : ∃ k9 : Nat, k9 = k + n1 := ⟨_, rfl⟩
  rw [← hk9] at HM1 hm ⊢
  have HM2 : Hid (∀ w', Below W.heap.size W w' → Calls _ _ _ w' _) := fun w' h => heldObjSE w' p2 c2 n2 k9 L hnl hn h23 (by omega) ((hm.below hb0).below h)
  have hcl := cnt_le (k := k9) h23 n2 (by omega)
  obtain ⟨m9, hm9⟩ : ∃ m9 : Nat, m9 = cnt k9 L n2 := ⟨_, rfl⟩
  rw [← hm9] at HM2 hcl ⊢
  have hk0 : ¬ (k9 : Int) < 0 := by omega
  have hm0 : ¬ (m9 : Int) < 0 := by omega
  clear hW hb0 hWs hi1 hm hnl h23 k1 hk9 hm9
  go_enter Try.func25, Try.ntmps25
  go_wp2_with (rw [← HW.out])
  refine HM1.out.mono ?_
  rintro e w2 ⟨rfl, hb2⟩
  have HB2 : Hid (Below W.heap.size W w2) := hb2
  have k2 := HK1.out w2 hb2
  clear hb2 k0
  go_wp2_with fail
  refine (HM2.out w2 HB2.out).mono ?_
  rintro e w3 ⟨rfl, hb3⟩
  have HB3 : Hid (Below w.heap.size w w3) := HB0.out.trans ((HB2.out.trans (hb3.mono HB2.out.size)).mono HB0.out.size)
  clear hb3 k2
  go_wp2
  go_ret
  exact ⟨rfl, HB3.out⟩
end Go.Proofs.Ythjfgibflbbgmaa.gs
