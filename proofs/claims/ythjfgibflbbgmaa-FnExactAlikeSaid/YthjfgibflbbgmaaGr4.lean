/-
  Graphs: their size; held against their like.
-/
import Derived.Test.YthjfgibflbbgmaaGr3
namespace Go.Proofs.Ythjfgibflbbgmaa.gr
open Go.RowKit
open kinds ints obj

set_option maxRecDepth 20000 in
theorem szInts_any (w : World) (b : Option Addr) (vc n : Nat) (left : Int) (h0 : 0 ≤ left) (h1 : left ≤ 1048576) (hm : n ≤ maxLen) :
    Calls Try.prog 37 #[.slice b n vc, .int .i64 left] w fun e w' => ∃ r : Int, e = .returned (.int .i64 r) ∧ -1 ≤ r ∧ r ≤ 1048576 ∧ (0 ≤ r → n ≤ 1048576) ∧ w' = w := by
  unfold maxLen at hm
  by_cases hn : left - (n : Int) < 0
  · go_enter Try.func37, Try.ntmps37
    go_wp2
    go_ret
    exact ⟨-1, rfl, by omega, by omega, by omega, rfl⟩
  · go_enter Try.func37, Try.ntmps37
    go_wp2
    go_ret
    exact ⟨left - (n : Int), rfl, by omega, by omega, by omega, rfl⟩
set_option maxHeartbeats 1000000 in
set_option maxRecDepth 20000 in
theorem szObjS_any (w : World) (a : Option Addr) (cap n : Nat) (ns : List Nd) (left : Int) (h0 : 0 ≤ left) (h1 : left ≤ 1048576) (hx : ns.length = n) (hm : n ≤ maxLen) (hok : ∀ x ∈ ns, NdOk x) (hl : Nodes w a ns) :
    Calls Try.prog 38 #[.slice a n cap, .int .i64 left] w fun e w' => ∃ r : Int, e = .returned (.int .i64 r) ∧ -1 ≤ r ∧ r ≤ 1048576 ∧ (0 ≤ r → n ≤ 1048576 ∧ ∀ x ∈ ns, x.2.length ≤ 1048576) ∧ Below w.heap.size w w' := by
  unfold maxLen at hm
  have HL : Hid (Nodes w a ns) := hl
  have HX : Hid (ns.length = n) := hx
  have HOK : Hid (∀ x ∈ ns, NdOk x) := hok
  clear hl hx hok
  by_cases hn : left - (n : Int) < 0
  · go_enter Try.func38, Try.ntmps38
    go_wp2
    go_ret
    exact ⟨-1, rfl, by omega, by omega, by omega, Below.refl _ _⟩
  · have HN : Hid (n ≤ 1048576) := by show n ≤ 1048576; omega
    have hn2 : (n : Int) ≤ 1048576 := by omega
    clear hm
    go_enter Try.func38, Try.ntmps38
    go_wp2
    go_loopw [1, 5] (fun m i wr => ∃ (k : Nat) (l : Int), k ≤ n ∧ i = .int .i64 k ∧ m = .int .i64 l ∧ 0 ≤ l ∧ l ≤ 1048576 ∧ (∀ j (hj : j < ns.length), j < k → ns[j].2.length ≤ 1048576) ∧ Below w.heap.size w wr) (fun _ i _ => n - (intOf i).toNat)
    case atStart => exact ⟨0, left - (n : Int), Nat.zero_le _, rfl, rfl, by omega, by omega, fun j hj h => by omega, Below.refl _ _⟩
    case round =>
      obtain ⟨k, l, hk, rfl, rfl, hl0, hl1, hsm, hb⟩ := hrel
      have HB : Hid (Below w.heap.size w wr) := hb
      have HSM : Hid (∀ j (hj : j < ns.length), j < k → ns[j].2.length ≤ 1048576) := hsm
      clear hb hsm hn
      by_cases hlt : k < n
      · have hi0 : k < ns.length := by have := HX.out; omega
        have hlti : (k : Int) < (n : Int) := by omega
        obtain ⟨b, off, rfl, c0, ai, ci, c1, _⟩ := HL.out.below HB.out k hi0
        have hvm := (HOK.out ns[k] (List.getElem_mem hi0)).2.1
        have HS : Hid (∀ W, Calls _ _ _ W _) := fun W => szObj_any W ns[k].1 ai ci ns[k].2 l hl0 hl1 hvm
        have HV : Hid (∀ v : List Int, v = ns[k].2 → v.length ≤ 1048576 → ∀ j (hj : j < ns.length), j < k + 1 → ns[j].2.length ≤ 1048576) := fun v hv h j hj hjk => by
          by_cases e : j = k
          · subst e; rw [← hv]; exact h
          · exact HSM.out j hj (by omega)
        obtain ⟨x, hxk⟩ : ∃ x, x = ns[k].1 := ⟨_, rfl⟩
        obtain ⟨v, hvk⟩ : ∃ v, v = ns[k].2 := ⟨_, rfl⟩
        have HVK : Hid (v = ns[k].2) := hvk
        rw [← hxk] at c0 HS
        rw [← hvk] at c1 HS
        clear hxk hvk hvm
        go_wp2_with fail
        refine (HS.out _).mono ?_
        rintro e w2 ⟨r, rfl, hr0, hr1, hr2, hb2⟩
        have HB2 : Hid (Below w.heap.size w w2) := HB.out.trans (hb2.mono HB.out.size)
        have HR : Hid (0 ≤ r → v.length ≤ 1048576) := hr2
        clear hb2 hr2 c0 c1
        by_cases hneg : r < 0
        · go_wp2
          go_ret
          exact ⟨-1, rfl, by omega, by omega, fun h => by omega, HB2.out⟩
        · go_wp2
          go_roundw
          case rel => exact ⟨k + 1, r, by omega, by go_num, rfl, by omega, hr1, HV.out v HVK.out (HR.out (by omega)), HB2.out⟩
          case measure => simp [intOf]; omega
      · go_wp2
        go_ret
        refine ⟨l, rfl, by omega, hl1, fun _ => ⟨HN.out, fun x hx => ?_⟩, HB.out⟩
        obtain ⟨j, hj, rfl⟩ := List.getElem_of_mem hx
        exact HSM.out j hj (by have := HX.out; omega)
set_option maxHeartbeats 1000000 in
set_option maxRecDepth 20000 in
theorem szGraph_any (w : World) (b : Option Addr) (vc : Nat) (rs : List Int) (a : Option Addr) (c : Nat) (ns : List Nd) (left : Int) (h0 : 0 ≤ left) (h1 : left ≤ 1048576) (hr : rs.length ≤ maxLen) (hn : ns.length ≤ maxLen) (hok : ∀ x ∈ ns, NdOk x) (hl : Nodes w a ns) :
    Calls Try.prog 11 #[.agg #[.slice b rs.length vc, .slice a ns.length c], .int .i64 left] w fun e w' => ∃ r : Int, e = .returned (.int .i64 r) ∧ -1 ≤ r ∧ r ≤ 1048576 ∧ (0 ≤ r → rs.length ≤ 1048576 ∧ ns.length ≤ 1048576 ∧ ∀ x ∈ ns, x.2.length ≤ 1048576) ∧ Below w.heap.size w w' := by
  obtain ⟨W, hW⟩ : ∃ W, W = w.alloc (.cells #[.slice b rs.length vc, .slice a ns.length c] 26) := ⟨_, rfl⟩
  have HW : Hid (W = w.alloc (.cells #[.slice b rs.length vc, .slice a ns.length c] 26)) := hW
  have hb0 : Below w.heap.size w W := by rw [hW]; exact (Below.refl _ _).alloc (Nat.le_refl _) _
  have HB0 : Hid (Below w.heap.size w W) := hb0
  have k1 : W.cell? ⟨w.heap.size, 1, none⟩ = some (.slice a ns.length c) := by rw [hW, World.cell?_alloc_new]; rfl
  have HS1 : Hid (∀ W, Calls _ _ _ W _) := fun W => szInts_any W b vc rs.length left h0 h1 hr
  have HS2 : Hid (∀ (l : Int), 0 ≤ l → l ≤ 1048576 → Calls _ _ _ W _) := fun l q1 q2 => szObjS_any W a c ns.length ns l q1 q2 rfl hn hok (hl.below hb0)
  obtain ⟨n, hnn⟩ : ∃ n, n = rs.length := ⟨_, rfl⟩
  obtain ⟨m, hmm⟩ : ∃ n, n = ns.length := ⟨_, rfl⟩
  rw [← hnn] at HS1 HW ⊢
  rw [← hmm] at HS2 HW k1 ⊢
  clear hW hb0 hnn hmm hr hn hok hl
  go_enter Try.func11, Try.ntmps11
  go_wp2_with fail
  rw [← HW.out]
  refine (HS1.out _).mono ?_
  rintro e w1 ⟨r, rfl, hr0, hr1, hr2, rfl⟩
  have HR : Hid (0 ≤ r → n ≤ 1048576) := hr2
  clear hr2
  by_cases hneg : r < 0
  · go_wp2
    go_ret
    exact ⟨-1, rfl, by omega, by omega, by omega, HB0.out⟩
  go_wp2_with fail
  refine (HS2.out r (by omega) hr1).mono ?_
  rintro e w2 ⟨s, rfl, hs0, hs1, hs2, hb⟩
  have HSS : Hid (0 ≤ s → m ≤ 1048576 ∧ ∀ x ∈ ns, x.2.length ≤ 1048576) := hs2
  have HB2 : Hid (Below w.heap.size w w2) := HB0.out.trans (hb.mono HB0.out.size)
  clear hs2 hb k1
  by_cases hneg2 : s < 0
  · go_wp2
    go_ret
    exact ⟨-1, rfl, by omega, by omega, by omega, HB2.out⟩
  go_wp2
  go_ret
  exact ⟨s, rfl, hs0, hs1, fun h => ⟨HR.out (by omega), HSS.out h⟩, HB2.out⟩
set_option maxHeartbeats 1000000 in
set_option maxRecDepth 20000 in
theorem eqObjS_same (w : World) (g h ca cb n : Nat) (ns : List Nd) (hx : ns.length = n) (hn : n ≤ 1048576) (hz : ∀ x ∈ ns, x.2.length ≤ 1048576) (ha : Copies w g ns) (hb : Copies w h ns) :
    Calls Try.prog 44 #[.slice (some ⟨g, 0, none⟩) n ca, .slice (some ⟨h, 0, none⟩) n cb] w fun e w' => e = .returned (.bool true) ∧ Below w.heap.size w w' := by
  have HA : Hid (Copies w g ns) := ha
  have HBb : Hid (Copies w h ns) := hb
  have HXS : Hid (ns.length = n) := hx
  have HZ : Hid (∀ x ∈ ns, x.2.length ≤ 1048576) := hz
  clear ha hb hx hz
  have hne : ((n : Int) != (n : Int)) = false := by simp
  go_enter Try.func44, Try.ntmps44
  go_wp2
  go_loopw [5] (fun i wr => ∃ k : Nat, k ≤ n ∧ i = .int .i64 k ∧ Below w.heap.size w wr) (fun i _ => n - (intOf i).toNat)
  case atStart => exact ⟨0, Nat.zero_le _, rfl, Below.refl _ _⟩
  case round =>
    obtain ⟨k, hk, rfl, hb⟩ := hrel
    have HB : Hid (Below w.heap.size w wr) := hb
    clear hb
    by_cases hlt : k < n
    · have hi0 : k < ns.length := by have := HXS.out; omega
      obtain ⟨c0, gi, c1, ia, _⟩ := HA.out.below HB.out k hi0
      obtain ⟨d0, hi, d1, ib, _⟩ := HBb.out.below HB.out k hi0
      have hv := HZ.out ns[k] (List.getElem_mem hi0)
      generalize ns[k] = nd at c0 c1 d0 d1 ia ib hv
      obtain ⟨x, v⟩ := nd
      have hlt' : (k : Int) < (n : Int) := by omega
      have hv' : v.length ≤ 1048576 := hv
      have HE : Hid (∀ W, Below wr.heap.size wr W → Calls _ _ _ W _) := fun W q => eqObj_same W x _ _ gi hi v.length v.length v.length v rfl hv' (ia.below q) (ib.below q)
      have e0 : wr.cell? ⟨g, k * 2, none⟩ = some (.int .i64 x) := c0
      have e1 : wr.cell? ⟨g, k * 2 + 1, none⟩ = some (.slice (some ⟨gi, 0, none⟩) v.length v.length) := c1
      have e2 : wr.cell? ⟨h, k * 2, none⟩ = some (.int .i64 x) := d0
      have e3 : wr.cell? ⟨h, k * 2 + 1, none⟩ = some (.slice (some ⟨hi, 0, none⟩) v.length v.length) := d1
      have HCS : Hid (∀ w', Below wr.heap.size wr w' → w'.cell? ⟨g, k * 2, none⟩ = some (.int .i64 x) ∧ w'.cell? ⟨g, k * 2 + 1, none⟩ = some (.slice (some ⟨gi, 0, none⟩) v.length v.length) ∧ w'.cell? ⟨h, k * 2, none⟩ = some (.int .i64 x) ∧ w'.cell? ⟨h, k * 2 + 1, none⟩ = some (.slice (some ⟨hi, 0, none⟩) v.length v.length)) := fun w' hb' =>
        ⟨by rw [hb'.cell (p := ⟨g, k * 2, none⟩) (World.block_lt_of_cell? wr _ e0)]; exact e0, by rw [hb'.cell (p := ⟨g, k * 2 + 1, none⟩) (World.block_lt_of_cell? wr _ e1)]; exact e1, by rw [hb'.cell (p := ⟨h, k * 2, none⟩) (World.block_lt_of_cell? wr _ e2)]; exact e2, by rw [hb'.cell (p := ⟨h, k * 2 + 1, none⟩) (World.block_lt_of_cell? wr _ e3)]; exact e3⟩
      have HBd : Hid (Below wr.heap.size wr wr.drew) := (Below.refl _ _).drew
      clear c0 c1 d0 d1 ia ib hv
      go_wp2
      go_region_held3 (fun w' => w'.cell? ⟨g, k * 2, none⟩ = some (.int .i64 x) ∧ w'.cell? ⟨g, k * 2 + 1, none⟩ = some (.slice (some ⟨gi, 0, none⟩) v.length v.length) ∧ w'.cell? ⟨h, k * 2, none⟩ = some (.int .i64 x) ∧ w'.cell? ⟨h, k * 2 + 1, none⟩ = some (.slice (some ⟨hi, 0, none⟩) v.length v.length))
        (first | exact HCS.out _ HBd.out | exact HCS.out _ h5)
        (first | (go_at_call 76; refine (HE.out _ HBd.out).mono ?_; rintro e w5 ⟨rfl, hb5⟩; have h5 : Below wr.heap.size wr w5 := ⟨hb5.os, hb5.tape, hb5.output, hb5.size, hb5.block⟩))
      all_goals
        have HB5 : Hid (Below w.heap.size w w5) := HB.out.trans (h5.mono HB.out.size)
        clear h5 hb5
        go_wp2
        go_roundw
        case rel => exact ⟨k + 1, by omega, by go_num, HB5.out⟩
        case measure => simp [intOf]; omega
    · go_wp2
      go_ret
      exact ⟨rfl, HB.out⟩
set_option maxHeartbeats 1000000 in
set_option maxRecDepth 20000 in
theorem eqGraph_same (w : World) (g1 n1 g2 h1 n2 h2 c1 c2 d1 d2 : Nat) (rs : List Int) (ns : List Nd) (hrl : rs.length = n1) (hnl : ns.length = n2) (hr : n1 ≤ 1048576) (hn : n2 ≤ 1048576) (hz : ∀ x ∈ ns, x.2.length ≤ 1048576) (ra : Ints w (some ⟨g1, 0, none⟩) g1 rs) (rb : Ints w (some ⟨h1, 0, none⟩) h1 rs) (na : Copies w g2 ns) (nb : Copies w h2 ns) :
    Calls Try.prog 18 #[.agg #[.slice (some ⟨g1, 0, none⟩) n1 c1, .slice (some ⟨g2, 0, none⟩) n2 c2], .agg #[.slice (some ⟨h1, 0, none⟩) n1 d1, .slice (some ⟨h2, 0, none⟩) n2 d2]] w fun e w' => e = .returned (.bool true) ∧ Below w.heap.size w w' := by
  subst hrl
  obtain ⟨W, hW⟩ : ∃ W, W = (w.alloc (.cells #[.slice (some ⟨g1, 0, none⟩) rs.length c1, .slice (some ⟨g2, 0, none⟩) n2 c2] 33)).alloc (.cells #[.slice (some ⟨h1, 0, none⟩) rs.length d1, .slice (some ⟨h2, 0, none⟩) n2 d2] 33) := ⟨_, rfl⟩
  have HW : Hid (W = (w.alloc (.cells #[.slice (some ⟨g1, 0, none⟩) rs.length c1, .slice (some ⟨g2, 0, none⟩) n2 c2] 33)).alloc (.cells #[.slice (some ⟨h1, 0, none⟩) rs.length d1, .slice (some ⟨h2, 0, none⟩) n2 d2] 33)) := hW
  have hb0 : Below w.heap.size w W := by rw [hW]; exact ((Below.refl _ _).alloc (Nat.le_refl _) _).alloc (by simp) _
  have HB0 : Hid (Below w.heap.size w W) := hb0
  have k0 : W.cell? ⟨w.heap.size, 1, none⟩ = some (.slice (some ⟨g2, 0, none⟩) n2 c2) := by rw [hW, World.cell?_alloc_past _ _ _ (by simp), World.cell?_alloc_at _ _ _ _ (by simp)]; rfl
  have k1 : W.cell? ⟨w.heap.size + 1, 1, none⟩ = some (.slice (some ⟨h2, 0, none⟩) n2 d2) := by rw [hW, World.cell?_alloc_at _ _ _ _ (by simp)]; rfl
  have hsz : W.heap.size = w.heap.size + 2 := by rw [hW]; simp
  have HE1 : Hid (Calls _ _ _ W _) := eqInt64S_same W _ _ g1 h1 c1 d1 rs hr (ra.below hb0) (rb.below hb0)
  have HE2 : Hid (∀ W', Below W.heap.size W W' → Calls _ _ _ W' _) := fun W' q => eqObjS_same W' g2 h2 c2 d2 n2 ns hnl hn hz ((na.below hb0).below q) ((nb.below hb0).below q)
  have HK : Hid (∀ W', Below W.heap.size W W' → W'.cell? ⟨w.heap.size, 1, none⟩ = some (.slice (some ⟨g2, 0, none⟩) n2 c2) ∧ W'.cell? ⟨w.heap.size + 1, 1, none⟩ = some (.slice (some ⟨h2, 0, none⟩) n2 d2)) := fun W' q =>
    ⟨by rw [q.cell (p := ⟨w.heap.size, 1, none⟩) (by show w.heap.size < _; omega)]; exact k0, by rw [q.cell (p := ⟨w.heap.size + 1, 1, none⟩) (by show w.heap.size + 1 < _; omega)]; exact k1⟩
  clear hW hb0 k0 k1 ra rb na nb hnl hn hz hsz hr
  go_enter Try.func18, Try.ntmps18
  go_wp2_with fail
  rw [← HW.out]
  refine HE1.out.mono ?_
  rintro e w1 ⟨rfl, hb⟩
  have HB1 : Hid (Below W.heap.size W w1) := hb
  obtain ⟨k0, k1⟩ := HK.out w1 hb
  clear hb
  go_wp2_with fail
  refine (HE2.out w1 HB1.out).mono ?_
  rintro e w2 ⟨rfl, hb⟩
  have HB2 : Hid (Below w.heap.size w w2) := HB0.out.trans ((HB1.out.trans (hb.mono HB1.out.size)).mono HB0.out.size)
  clear hb k0 k1
  go_wp2
  go_ret
  exact ⟨rfl, HB2.out⟩
end Go.Proofs.Ythjfgibflbbgmaa.gr
