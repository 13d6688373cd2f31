/-
  The nodes of a graph, linked: walked.
-/
import Derived.Test.YthjfgibflbbgmaaGsLink
import Derived.Test.YthjfgibflbbgmaaGsSpec
namespace Go.Proofs.Ythjfgibflbbgmaa.gs
open Go.RowKit
open kinds ints obj ref gr cl

theorem Lk1.nds {B : Nat} {bs : List Nat} {va : Nat → Value} {ns : List Nd} {na : Option Addr} {n nc : Nat} {w wr : World} (h : Lk1 B bs va ns (.slice na n nc) w wr) : ∀ k, k < bs.length → ∃ g, na = some ⟨g, 0, none⟩ ∧ B ≤ g ∧ g < wr.heap.size ∧ g ∉ bs ∧ wr.cell? ⟨g, k, none⟩ = some (ptr (bs.getD k 0)) := fun k hk => by
  have h1 := h.row
  rw [show bs.length = (bs.map ptr).length by simp] at h1
  obtain ⟨a, g, cap, e, hg, hc⟩ := vals_of_row h1
  simp only [Value.slice.injEq] at e
  obtain ⟨rfl, _, _⟩ := e
  obtain ⟨rfl, q1, _⟩ := hc k (by simpa using hk)
  refine ⟨g, rfl, hg, World.block_lt_of_cell? wr _ q1, h.vn g rfl, ?_⟩
  rw [q1]
  simp [List.getD_eq_getElem?_getD, List.getElem?_eq_getElem hk]
theorem choose_vals {w : World} {c : Option Addr} {ns : List Nd} (h : Nodes w c ns) : ∃ va : Nat → Value, ∀ i (hi : i < ns.length), ∃ (b2 off : Nat) (ai : Option Addr) (ci : Nat), c = some ⟨b2, off, none⟩ ∧ va i = .slice ai ns[i].2.length ci ∧ ∀ w', Below w.heap.size w w' → w'.cell? ⟨b2, off + i * 2, none⟩ = some (.int .i64 ns[i].1) ∧ w'.cell? ⟨b2, off + i * 2 + 1, none⟩ = some (.slice ai ns[i].2.length ci) ∧ Nums w' ai ns[i].2 := by
  have hx : ∀ i, ∃ v : Value, ∀ (hi : i < ns.length), ∃ (b2 off : Nat) (ai : Option Addr) (ci : Nat), c = some ⟨b2, off, none⟩ ∧ v = .slice ai ns[i].2.length ci ∧ ∀ w', Below w.heap.size w w' → w'.cell? ⟨b2, off + i * 2, none⟩ = some (.int .i64 ns[i].1) ∧ w'.cell? ⟨b2, off + i * 2 + 1, none⟩ = some (.slice ai ns[i].2.length ci) ∧ Nums w' ai ns[i].2 := fun i => by
    by_cases hi : i < ns.length
    · obtain ⟨b2, off, ai, ci, e, hc⟩ := nodes_later h i hi
      exact ⟨.slice ai ns[i].2.length ci, fun _ => ⟨b2, off, ai, ci, e, rfl, hc⟩⟩
    · exact ⟨.slice none 0 0, fun q => absurd q hi⟩
  exact ⟨fun i => (hx i).choose, fun i hi => (hx i).choose_spec hi⟩
set_option maxHeartbeats 4000000 in
set_option maxRecDepth 20000 in
theorem linked_any (w : World) (a : Option Addr) (cap : Nat) (xs : List ByteArray) (b : Option Addr) (vc : Nat) (rs : List Int) (c : Option Addr) (cc : Nat) (ns : List Nd) (hok : graphB xs rs ns = true) (hxn : xs.length ≤ 1048576) (hl : Strs w a xs) (hg : Nodes w c ns) :
    Calls Try.prog 73 #[.slice a xs.length cap, .agg #[.slice b rs.length vc, .slice c ns.length cc]] w fun e w' => ∃ na nc bs va, e = .returned (.slice na ns.length nc) ∧ Lk2 w.heap.size bs va xs ns (.slice na ns.length nc) ns.length w w' ∧ ∀ j, j < ns.length → ∃ b2 off, c = some ⟨b2, off, none⟩ ∧ w.cell? ⟨b2, off + j * 2 + 1, none⟩ = some (va j) := by
  obtain ⟨htp, h40, h400, hin, hnd⟩ := graph_facts hok
  obtain ⟨va, hva⟩ := choose_vals hg
  obtain ⟨W, hW⟩ : ∃ W, W = w.alloc (.cells #[.slice b rs.length vc, .slice c ns.length cc] 33) := ⟨_, rfl⟩
  have HW : Hid (W = w.alloc (.cells #[.slice b rs.length vc, .slice c ns.length cc] 33)) := hW
  have hb0 : Below w.heap.size w W := by rw [hW]; exact (Below.refl _ _).alloc (Nat.le_refl _) _
  have HB0 : Hid (Below w.heap.size w W) := hb0
  have k1 : W.cell? ⟨w.heap.size, 1, none⟩ = some (.slice c ns.length cc) := by rw [hW, World.cell?_alloc_new]; rfl
  have HVA : Hid (∀ i (hi : i < ns.length) (nd : Nd), nd = ns[i] → ∃ (b2 off : Nat) (ai : Option Addr) (ci : Nat), c = some ⟨b2, off, none⟩ ∧ va i = .slice ai nd.2.length ci ∧ ∀ w', Below w.heap.size w w' → w'.cell? ⟨b2, off + i * 2, none⟩ = some (.int .i64 nd.1) ∧ w'.cell? ⟨b2, off + i * 2 + 1, none⟩ = some (.slice ai nd.2.length ci) ∧ Nums w' ai nd.2) := fun i hi nd e => by subst e; exact hva i hi
  have HVO : Hid (∀ j (hj : j < ns.length), ∃ ai ci, va j = .slice ai ns[j].2.length ci ∧ ∀ w'', Below w.heap.size w w'' → Nums w'' ai ns[j].2) := fun j hj => by
    obtain ⟨_, _, ai, ci, _, e, hc⟩ := hva j hj
    exact ⟨ai, ci, e, fun w'' hb => (hc w'' hb).2.2⟩
  have HVC : Hid (∀ j, j < ns.length → ∃ b2 off, c = some ⟨b2, off, none⟩ ∧ w.cell? ⟨b2, off + j * 2 + 1, none⟩ = some (va j)) := fun j hj => by
    obtain ⟨b2, off, ai, ci, e, e2, hc⟩ := hva j hj
    exact ⟨b2, off, e, by rw [e2]; exact (hc w (Below.refl _ _)).2.1⟩
  have HST : Hid (∀ w', Below w.heap.size w w' → Strs w' a xs) := fun w' h => hl.below h
  have HNF : Hid (∀ i (hi : i < ns.length), _) := fun i hi => node_fits htp hnd hi
  have HNR : Hid (∀ i (hi : i < ns.length), allIn ns.length (nmA xs ns[i]) = true) := fun i hi => node_refs hnd hi
  have HXN : Hid (xs.length ≤ 1048576) := hxn
  clear hW hb0 hl hg hok htp hin hnd hva hxn
  go_enter Try.func73, Try.ntmps73
  go_wp2_with (rw [← HW.out])
  clear k1
  go_loopw [5, 13] (fun v i wr => ∃ bs : List Nat, i = .int .i64 (bs.length : Int) ∧ Lk1 w.heap.size bs va ns v w wr) (fun _ i _ => ns.length - (intOf i).toNat)
  case atStart => exact ⟨[], rfl, ⟨Nat.zero_le _, (fun i j hi => by cases hi), (fun x hx => by cases hx), World.ownsRow_nil _ _ _ _, (fun r q => by cases q), (fun j hj hjb => by cases hjb), HB0.out, HB0.out.size⟩⟩
  case round =>
    obtain ⟨bs, rfl, hlk⟩ := hrel
    have HL : Hid (Lk1 w.heap.size bs va ns u5 w wr) := hlk
    have hbn := hlk.len
    have HBN : Hid (bs.length ≤ ns.length) := hbn
    clear hlk
    by_cases hlt : bs.length < ns.length
    · have hlti : (bs.length : Int) < (ns.length : Int) := by omega
      have hk4 : bs.length ≤ 400 := by omega
      have HLT : Hid (bs.length < ns.length) := hlt
      obtain ⟨nd, hnd⟩ : ∃ nd : Nd, nd = ns[bs.length] := ⟨_, rfl⟩
      obtain ⟨b2, off, ai, ci, rfl, hvk, hcell⟩ := HVA.out bs.length hlt nd hnd
      obtain ⟨d0, d1, _⟩ := hcell wr HL.out.bel
      have HTE : Hid (ns[bs.length].1 = nd.1) := by show ns[bs.length].1 = _; rw [← hnd]
      generalize nd.1 = t at d0 HTE
      generalize nd.2.length = m at d1 hvk
      obtain ⟨Y, hY⟩ : ∃ Y, Y = wr.alloc (.cells #[.int .i64 t, .slice ai m ci] 53) := ⟨_, rfl⟩
      obtain ⟨yb, hyb⟩ : ∃ y, y = wr.heap.size := ⟨_, rfl⟩
      have HY : Hid (Y = wr.alloc (.cells #[.int .i64 t, .slice ai m ci] 53)) := hY
      have HYB : Hid (yb = wr.heap.size) := hyb
      have hbY : Below wr.heap.size wr Y := by rw [hY]; exact (Below.refl _ _).alloc (Nat.le_refl _) _
      have hYs : Y.heap.size = wr.heap.size + 1 := by rw [hY]; simp
      have j0 : Y.cell? ⟨yb, 0, none⟩ = some (.int .i64 t) := by rw [hY, hyb, World.cell?_alloc_new]; rfl
      have j1 : Y.cell? ⟨yb, 1, none⟩ = some (.slice ai m ci) := by rw [hY, hyb, World.cell?_alloc_new]; rfl
      obtain ⟨Z, hZ⟩ : ∃ Z, Z = Y.alloc (.cells #[.int .i64 t, .slice ai m ci, .slice none 0 0, .int .i64 0] 65) := ⟨_, rfl⟩
      obtain ⟨zb, hzb⟩ : ∃ z, z = Y.heap.size := ⟨_, rfl⟩
      have HZ : Hid (Z = Y.alloc (.cells #[.int .i64 t, .slice ai m ci, .slice none 0 0, .int .i64 0] 65)) := hZ
      have HZB : Hid (zb = Y.heap.size) := hzb
      have hbZ : Below wr.heap.size wr Z := by rw [hZ]; exact hbY.alloc hbY.size _
      have HNC : Hid (NodeC Z zb t (.slice ai m ci) 0) := ⟨by rw [hZ, hzb, World.cell?_alloc_new]; rfl, by rw [hZ, hzb, World.cell?_alloc_new]; rfl, by rw [hZ, hzb, World.cell?_alloc_new]; rfl, fun j => by rw [hZ, hzb]; exact World.frozen?_alloc_new _ _ _ _⟩
      have HN2 : Hid (∃ x, Z.cell? ⟨zb, 2, none⟩ = some x) := ⟨_, by rw [hZ, hzb, World.cell?_alloc_new]; rfl⟩
      have HBZ : Hid (Below wr.heap.size wr Z) := hbZ
      have HZW : Hid (wr.heap.size ≤ zb) := by show wr.heap.size ≤ zb; omega
      have HOW : Hid (Z.ownsRow w.heap.size 63 1 u5 bs.length (bs.map ptr)) := row_kept HL.out.row (grown_below none hbZ) (fun _ _ _ q => by cases q)
      have HZS : Hid (w.heap.size ≤ Z.heap.size) := Nat.le_trans HL.out.siz hbZ.size
      have HK4 : Hid (bs.length ≤ 1048576) := by show bs.length ≤ 1048576; omega
      have HVK2 : Hid (va bs.length = .slice ai m ci) := hvk
      have HNF2 : Hid (∀ t' v', t' = t → v' = .slice ai m ci → NodeC Z zb t' v' 0) := fun _ _ e1 e2 => by rw [e1, e2]; exact HNC.out
      clear hY hyb hbY hYs hZ hzb hbZ hcell hnd hvk hlt
      go_wp2_with (first | (rw [← HZ.out, ← HZB.out]) | (rw [← HZ.out]) | (rw [← HY.out, ← HYB.out]) | (rw [← HY.out]) | (refine wpList_pushP Z (by rfl) _ _ (by rfl) w.heap.size u5 bs.length (bs.map ptr) zb HOW.out (by rfl) (by rfl) HK4.out HZS.out ?_; intro g2 c2 w6 hown6 hg6 hb6 hat6; have HL6 : Hid (Lk1 w.heap.size (bs ++ [zb]) va ns _ w w6) := HL.out.pushed HLT.out HBZ.out HZW.out (HNF2.out _ _ HTE.out HVK2.out) HN2.out hown6 hg6 hat6; clear hown6 hg6 hb6 hat6))
      go_roundw
      case rel => exact ⟨bs ++ [zb], by rw [List.length_append, List.length_singleton]; go_num, HL6.out⟩
      case measure => simp [intOf]; omega
    · have hbe : bs.length = ns.length := by omega
      have HBE : Hid (bs.length = ns.length) := hbe
      have h1 := HL.out.row
      rw [show bs.length = (bs.map ptr).length by simp] at h1
      obtain ⟨na, ng, nc, hv5, _, _⟩ := vals_of_row h1
      rw [List.length_map, hbe] at hv5
      clear h1 hlt
      subst hv5
      have HL2 : Hid (Lk2 w.heap.size bs va xs ns (.slice na ns.length nc) 0 w wr) := ⟨HL.out, hbe, fun j hj hjk => by omega⟩
      have hnl : ¬ (bs.length : Int) < (ns.length : Int) := by omega
      clear hbe HL HBN hbn
      go_wp2
      go_loopw [26] (fun i w2 => ∃ k : Nat, k ≤ ns.length ∧ i = .int .i64 (k : Int) ∧ Lk2 w.heap.size bs va xs ns (.slice na ns.length nc) k w w2) (fun i _ => ns.length - (intOf i).toNat)
      case atStart => exact ⟨0, Nat.zero_le _, rfl, HL2.out⟩
      case round =>
        clear HL2
        obtain ⟨k, hk, rfl, hlk⟩ := hrel
        have HL : Hid (Lk2 w.heap.size bs va xs ns (.slice na ns.length nc) k w wr) := hlk
        clear hlk
        by_cases hlt : k < ns.length
        · have hlti : (k : Int) < (ns.length : Int) := by omega
          have hk0 : (0 : Int) ≤ (k : Int) := by omega
          have hk4 : k ≤ 400 := by omega
          have hkb : k < bs.length := by have := HBE.out; omega
          obtain ⟨ng, rfl, _, _, _, e5⟩ := HL.out.one.nds k hkb
          obtain ⟨hnc, x2, c2⟩ := HL.out.one.at' k hlt hkb
          obtain ⟨ai, ci, hvk, hnu⟩ := HVO.out k hlt
          obtain ⟨q, hq1, hql, hkd, hvl, h23, h1, hty⟩ := HNF.out k hlt
          have hin := HNR.out k hlt
          have c0 := hnc.c0
          have c1 := hnc.c1
          have fz := hnc.fz 2
          rw [hvk] at c1
          rw [hq1] at c0
          have hnm : nmA xs ns[k] = refsL xs[q] ns[k].2 ns[k].2.length := by unfold nmA; rw [hkd]
          have hll := refsL_len xs[q] ns[k].2 ns[k].2.length
          rw [hnm] at hin
          have HNAME : Hid (∀ (w' : World) (g c m : Nat), m = (refsL xs[q] ns[k].2 ns[k].2.length).length → Below wr.heap.size wr w' → wr.heap.size ≤ g → g < w'.heap.size → (∀ i (hi : i < (refsL xs[q] ns[k].2 ns[k].2.length).length), w'.cell? ⟨g, i, none⟩ = some (ptrOf bs (refsL xs[q] ns[k].2 ns[k].2.length)[i])) → Lk2 w.heap.size bs va xs ns (.slice (some ⟨ng, 0, none⟩) ns.length nc) (k + 1) w (w'.setCell ⟨bs.getD k 0, 2, none⟩ (.slice (some ⟨g, 0, none⟩) m c))) := fun w' g c m hm hb hg hgl hr => by
            subst hm
            have h1 := (HL.out.quiet hb).name hlt (g := g) (c := c) (Nat.le_trans HL.out.one.siz hg) hgl (fun hm => by have := HL.out.one.lt g hm; omega) (by rw [hnm]; exact hr)
            rw [hnm] at h1
            exact h1
          have HRO : Hid (Calls _ _ _ wr _) := refsOf_any wr a cap xs q ai ci ns[k].2 HXN.out (HST.out wr HL.out.one.bel) hql hvl h23 (hnu wr HL.out.one.bel)
          generalize ns[k].2.length = vl at c1 HRO hll HNAME hin h23
          generalize refsL xs[q] ns[k].2 vl = L at HRO hll HNAME hin
          obtain ⟨n, hn⟩ : ∃ n, n = L.length := ⟨_, rfl⟩
          rw [← hn] at HRO
          have HLL : Hid (L.length = n) := hn.symm
          have HND : Hid (∀ w', Below wr.heap.size wr w' → ∀ i, i < bs.length → ∃ g, (some ⟨ng, 0, none⟩ : Option Addr) = some ⟨g, 0, none⟩ ∧ w'.cell? ⟨g, i, none⟩ = some (ptr (bs.getD i 0))) := fun w' hb i hi => by
            obtain ⟨g, e, _, _, _, h9⟩ := (HL.out.one.quiet hb).nds i hi
            exact ⟨g, e, h9⟩
          have HIN : Hid (allIn bs.length L = true) := by show allIn bs.length L = true; rw [HBE.out]; exact hin
          have HCU : Hid (∀ w', Below wr.heap.size wr w' → w'.cell? ⟨bs.getD k 0, 2, none⟩ = some x2 ∧ w'.frozen? ⟨bs.getD k 0, 2, none⟩ = false) := fun w' hb => ⟨by rw [hb.cell (p := ⟨bs.getD k 0, 2, none⟩) (World.block_lt_of_cell? wr _ c2)]; exact c2, by rw [hb.frozen (p := ⟨bs.getD k 0, 2, none⟩) (World.block_lt_of_cell? wr _ c2)]; exact fz⟩
          generalize bs.getD k 0 = nb at e5 c0 c1 HNAME HCU
          have e6 : wr.cell? ⟨ng, k, none⟩ = some (.pointer (some ⟨nb, 0, none⟩)) := e5
          clear e5 hnc c2 hvk hnu hq1 hql hkd hvl h1 hty hin hnm fz hn
          go_wp2_with fail
          refine HRO.out.mono ?_
          rintro e w2 ⟨v4, rfl, hown, hb2⟩
          rw [← HLL.out] at hown
          obtain ⟨a4, g4, c4, rfl, hg4, hi4⟩ := ints_of_row hown
          rw [HLL.out]
          have HB2 : Hid (Below wr.heap.size wr w2) := hb2
          have HNM : Hid (Calls _ _ _ w2 _) := named_any w2 (some ⟨ng, 0, none⟩) nc bs a4 c4 n L HLL.out (by have := HLL.out; omega) (by have := HBE.out; omega) (HND.out w2 hb2) hi4.nums HIN.out
          rw [HBE.out] at HNM
          clear hown hb2 hg4 hi4 e6 c0 c1
          go_wp2_with fail
          refine HNM.out.mono ?_
          rintro e w3 ⟨g3, rfl, hg3, hgl3, hr3, hb3⟩
          have HB3 : Hid (Below wr.heap.size wr w3) := HB2.out.trans (hb3.mono HB2.out.size)
          have HF : Hid (Lk2 _ _ _ _ _ _ _ _ _) := HNAME.out w3 g3 n n HLL.out.symm HB3.out (Nat.le_trans HB2.out.size hg3) hgl3 hr3
          obtain ⟨c2, f2⟩ := HCU.out w3 HB3.out
          clear hg3 hgl3 hr3 hb3
          go_wp2
          go_roundw
          case rel => exact ⟨k + 1, by omega, by go_num, HF.out⟩
          case measure => simp [intOf]; omega
        · obtain rfl : k = ns.length := by omega
          go_wp2
          go_ret
          exact ⟨na, nc, bs, va, rfl, HL.out, HVC.out⟩
end Go.Proofs.Ythjfgibflbbgmaa.gs
