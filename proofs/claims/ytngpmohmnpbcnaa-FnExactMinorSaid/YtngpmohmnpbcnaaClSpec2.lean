/-
  Whether roots fit a nursery, and what is reached, by the specification.
-/
import Derived.Test.YtngpmohmnpbcnaaClSpec
namespace Go.Proofs.Ytngpmohmnpbcnaa.cl
open Go.RowKit
open kinds ints ref obj nu

def rootsB (xs : List ByteArray) (z : Int) (ws roots : List Int) : Bool := nurB xs z ws && (decide ((roots.length : Int) ≤ 400) && allNamedB (startsN xs z ws) roots)
def clL (xs : List ByteArray) (z : Int) (ws roots : List Int) : List Int := if rootsB xs z ws roots = true then clR xs ws (startsN xs z ws).length roots else []
theorem rootsB_in {xs : List ByteArray} {z : Int} {ws roots : List Int} (h : rootsB xs z ws roots = true) : nurB xs z ws = true ∧ roots.length ≤ 400 ∧ allNamedB (startsN xs z ws) roots = true := by
  unfold rootsB at h
  rw [Bool.and_eq_true, Bool.and_eq_true] at h
  have := of_decide_eq_true h.2.1
  exact ⟨h.1, by omega, h.2.2⟩
theorem clL_len (xs : List ByteArray) (z : Int) (ws roots : List Int) : (clL xs z ws roots).length ≤ ws.length := by
  unfold clL
  split
  · rename_i h
    obtain ⟨h1, _, h3⟩ := rootsB_in h
    obtain ⟨hnd, hg⟩ := clR_good (m := (startsN xs z ws).length) (nurB_found h1).2.2 h3
    have := goodR_len hnd hg
    have := starts_len xs z ws
    omega
  · simp
set_option maxHeartbeats 2000000 in
set_option maxRecDepth 20000 in
theorem spec_roots (w : World) (a : Option Addr) (cap : Nat) (xs : List ByteArray) (z : Int) (a2 : Option Addr) (n vcap : Nat) (ws : List Int) (ra : Option Addr) (rc : Nat) (roots : List Int) (hx : ws.length = n) (hxn : xs.length ≤ 1048576) (hl : Strs w a xs) (hz : ∀ i (hi : i < xs.length), xs[i].size ≤ 1048576) (hn : n ≤ 1048576) (hv : Nums w a2 ws) (hh : ∀ x ∈ ws, x < 9223372036854775808) (hrt : Nums w ra roots) (hrn : roots.length ≤ 1048576) :
    Calls Try.prog 37 #[.slice a xs.length cap, .agg #[.int .i64 z, .slice a2 n vcap], .slice ra roots.length rc] w fun e w' => e = .returned (.bool (rootsB xs z ws roots)) ∧ Below w.heap.size w w' := by
  obtain ⟨W, hW⟩ : ∃ W, W = w.alloc (.cells #[.int .i64 z, .slice a2 n vcap] 31) := ⟨_, rfl⟩
  have HW : Hid (W = w.alloc (.cells #[.int .i64 z, .slice a2 n vcap] 31)) := hW
  obtain ⟨hb0, hsz, c0, c1⟩ := box2 w z a2 n vcap W hW
  have HB0 : Hid (Below w.heap.size w W) := hb0
  have hlW := hl.below hb0
  have hvW := hv.below hb0
  have hrW := hrt.below hb0
  have HOK : Hid (Calls _ _ _ W _) := spec_nurok W a cap xs z a2 n vcap ws hx hxn hlW hz hn hvW hh
  have HPA : Hid (∀ w', Below W.heap.size W w' → Calls _ _ _ w' _) := fun w' h => spec_parse w' a cap xs z a2 n vcap ws hx hxn (hlW.below h) hz hn (hvW.below h) hh
  have HCS : Hid (∀ w', Below W.heap.size W w' → w'.cell? ⟨w.heap.size, 0, none⟩ = some (.int .i64 z) ∧ w'.cell? ⟨w.heap.size, 1, none⟩ = some (.slice a2 n vcap)) := fun w' h =>
    ⟨by rw [h.cell (p := ⟨w.heap.size, 0, none⟩) (by show w.heap.size < _; omega)]; exact c0, by rw [h.cell (p := ⟨w.heap.size, 1, none⟩) (by show w.heap.size < _; omega)]; exact c1⟩
  have HRN : Hid (∀ w', Below W.heap.size W w' → Nums w' ra roots) := fun w' h => hrW.below h
  have HRD : Hid (rootsB xs z ws roots = (nurB xs z ws && (decide ((roots.length : Int) ≤ 400) && allNamedB (startsN xs z ws) roots))) := rfl
  have HSL : Hid ((startsN xs z ws).length ≤ 1048576) := by have := starts_len xs z ws; show (startsN xs z ws).length ≤ _; omega
  generalize rootsB xs z ws roots = res at HRD ⊢
  clear hW hl hv hrt hb0 hlW hvW hrW hx hh hz hsz
  cases hr : nurB xs z ws with
  | false =>
    rw [hr] at HOK
    have hres : res = false := by rw [HRD.out, hr]; rfl
    subst hres
    generalize roots.length = rl
    clear HRD HPA hr
    go_enter Try.func37, Try.ntmps37
    go_wp2_with (rw [← HW.out])
    refine HOK.out.mono ?_
    rintro e w2 ⟨rfl, hb2⟩
    have HB2 : Hid (Below W.heap.size W w2) := hb2
    clear hb2 c0 c1
    go_wp2
    go_ret
    exact ⟨rfl, HB0.out.trans (HB2.out.mono HB0.out.size)⟩
  | true =>
  rw [hr] at HOK
  have HPR : Hid (parseB xs z ws = true ∧ parseL xs ws = startsN xs z ws) := parse_right hr
  by_cases h400 : roots.length ≤ 400
  case neg =>
    have hres : res = false := by rw [HRD.out, hr, decide_eq_false (by omega)]; rfl
    subst hres
    have hgt : (400 : Int) < (roots.length : Int) := by omega
    generalize roots.length = rl at hgt
    clear HRD HPA hr h400
    go_enter Try.func37, Try.ntmps37
    go_wp2_with (rw [← HW.out])
    refine HOK.out.mono ?_
    rintro e w2 ⟨rfl, hb2⟩
    have HB2 : Hid (Below W.heap.size W w2) := hb2
    clear hb2 c0 c1
    go_wp2
    go_ret
    exact ⟨rfl, HB0.out.trans (HB2.out.mono HB0.out.size)⟩
  case pos =>
  have HR : Hid (res = allNamedB (startsN xs z ws) roots) := by show res = _; rw [HRD.out, hr, decide_eq_true (by omega)]; rfl
  have hgt : ¬ (400 : Int) < (roots.length : Int) := by omega
  have HR4 : Hid (roots.length ≤ 400) := h400
  clear HRD hr h400
  go_enter Try.func37, Try.ntmps37
  go_wp2_with (rw [← HW.out])
  refine HOK.out.mono ?_
  rintro e w2 ⟨rfl, hb2⟩
  have HB2 : Hid (Below W.heap.size W w2) := hb2
  clear hb2 c0 c1
  obtain ⟨c0, c1⟩ := HCS.out w2 HB2.out
  go_wp2_with fail
  refine (HPA.out w2 HB2.out).mono ?_
  rintro e w3 ⟨hb3, sa, sg, len, sc, rfl, hyes⟩
  obtain ⟨hlen, hsg, hin, _⟩ := hyes HPR.out.1
  rw [HPR.out.2] at hlen hin
  have HI3 : Hid (Nums w3 sa (numsOf (startsN xs z ws))) := hin.nums
  have HB3 : Hid (Below W.heap.size W w3) := HB2.out.trans (hb3.mono HB2.out.size)
  generalize startsN xs z ws = L at HR HSL hlen HI3
  subst hlen
  have HRE : Hid (∀ r, Calls _ _ _ w3 _) := fun r => spec_ref w3 sa L.length sc L r rfl HSL.out HI3.out
  clear hb3 hyes hsg hin c0 c1 hgt
  go_wp2
  go_loopw [9] (fun i wr => ∃ k : Nat, k ≤ roots.length ∧ i = .int .i64 (k : Int) ∧ allNamedB L (roots.take k) = true ∧ w3 = wr) (fun i _ => roots.length - (intOf i).toNat)
  case atStart => exact ⟨0, Nat.zero_le _, rfl, rfl, rfl⟩
  case round =>
    obtain ⟨k, hk, rfl, hok, rfl⟩ := hrel
    have HOK2 : Hid (allNamedB L (roots.take k) = true) := hok
    clear hok
    by_cases hlt : k < roots.length
    · have hlti : (k : Int) < (roots.length : Int) := by omega
      have hk0 : (0 : Int) ≤ (k : Int) := by omega
      have hk4 : k ≤ 400 := by have := HR4.out; omega
      obtain ⟨b3, o3, rfl, c1⟩ := HRN.out w3 HB3.out k hlt
      have HTK : Hid (allNamedB L (roots.take (k + 1)) = (allNamedB L (roots.take k) && namedB L roots[k])) := by
        show allNamedB L (roots.take (k + 1)) = _
        rw [List.take_succ_eq_append_getElem hlt, allNamed_snoc]
      have HNA : Hid (allNamedB L (roots.take (k + 1)) = false → allNamedB L roots = false) := fun h => allNamed_no h
      have HRK : Hid (Calls _ _ _ w3 _) := HRE.out roots[k]
      generalize roots[k] = x at c1 HTK HRK
      cases hnx : namedB L x with
      | false =>
        rw [hnx] at HTK HRK
        have hres : res = false := by rw [HR.out]; exact HNA.out (by rw [HTK.out]; simp)
        subst hres
        clear hnx
        go_wp2_with fail
        refine HRK.out.mono ?_
        rintro e w4 ⟨rfl, rfl⟩
        go_wp2
        go_ret
        exact ⟨rfl, HB0.out.trans (HB3.out.mono HB0.out.size)⟩
      | true =>
        rw [hnx] at HTK HRK
        have HOK3 : Hid (allNamedB L (roots.take (k + 1)) = true) := by
          show allNamedB L (roots.take (k + 1)) = true
          rw [HTK.out, HOK2.out]; rfl
        clear hnx
        go_wp2_with fail
        refine HRK.out.mono ?_
        rintro e w4 ⟨rfl, rfl⟩
        go_wp2
        go_roundw
        case rel => exact ⟨k + 1, by omega, by go_num, HOK3.out, trivial⟩
        case measure => simp [intOf]; omega
    · obtain rfl : k = roots.length := by omega
      have hres : res = true := by
        have := HOK2.out
        rw [List.take_length] at this
        rw [HR.out, this]
      subst hres
      go_wp2
      go_ret
      exact ⟨rfl, HB0.out.trans (HB3.out.mono HB0.out.size)⟩
set_option maxHeartbeats 2000000 in
set_option maxRecDepth 20000 in
theorem spec_yclos (w : World) (a : Option Addr) (cap : Nat) (xs : List ByteArray) (z : Int) (a2 : Option Addr) (n vcap : Nat) (ws : List Int) (ra : Option Addr) (rc : Nat) (roots : List Int) (hx : ws.length = n) (hxn : xs.length ≤ 1048576) (hl : Strs w a xs) (hz : ∀ i (hi : i < xs.length), xs[i].size ≤ 1048576) (hn : n ≤ 1048576) (hcap : n ≤ vcap) (hv : Nums w a2 ws) (hh : ∀ x ∈ ws, x < 9223372036854775808) (hrt : Nums w ra roots) (hrn : roots.length ≤ 1048576) :
    Calls Try.prog 10 #[.slice a xs.length cap, .agg #[.int .i64 z, .slice a2 n vcap], .slice ra roots.length rc] w fun e w' => AOut (fun s => .tuple #[s, .bool (rootsB xs z ws roots)]) (clL xs z ws roots) w e w' := by
  obtain ⟨W, hW⟩ : ∃ W, W = w.alloc (.cells #[.int .i64 z, .slice a2 n vcap] 31) := ⟨_, rfl⟩
  have HW : Hid (W = w.alloc (.cells #[.int .i64 z, .slice a2 n vcap] 31)) := hW
  obtain ⟨hb0, hsz, c0, c1⟩ := box2 w z a2 n vcap W hW
  have HB0 : Hid (Below w.heap.size w W) := hb0
  have hlW := hl.below hb0
  have hvW := hv.below hb0
  have hrW := hrt.below hb0
  have HRB : Hid (Calls _ _ _ W _) := spec_roots W a cap xs z a2 n vcap ws ra rc roots hx hxn hlW hz hn hvW hh hrW hrn
  have HCS : Hid (∀ w', Below W.heap.size W w' → w'.cell? ⟨w.heap.size, 0, none⟩ = some (.int .i64 z) ∧ w'.cell? ⟨w.heap.size, 1, none⟩ = some (.slice a2 n vcap)) := fun w' h =>
    ⟨by rw [h.cell (p := ⟨w.heap.size, 0, none⟩) (by show w.heap.size < _; omega)]; exact c0, by rw [h.cell (p := ⟨w.heap.size, 1, none⟩) (by show w.heap.size < _; omega)]; exact c1⟩
  have HCL : Hid (rootsB xs z ws roots = true → ∀ w', Below W.heap.size W w' → Calls _ _ _ w' _) := fun hb w' h => by
    obtain ⟨h1, h2, h3⟩ := rootsB_in hb
    exact spec_l8clos w' a cap xs z a2 n vcap ws ra rc roots hx hcap hxn (hlW.below h) (hvW.below h) (hrW.below h) h2 h1 h3
  have HLD : Hid (clL xs z ws roots = if rootsB xs z ws roots = true then clR xs ws (startsN xs z ws).length roots else []) := rfl
  generalize clL xs z ws roots = R at HLD ⊢
  clear hW hl hv hrt hb0 hlW hvW hrW hx hh hz hsz
  generalize roots.length = rl at HRB HCL ⊢
  cases hb : rootsB xs z ws roots with
  | false =>
    rw [hb] at HRB HLD
    have hR : R = [] := by rw [HLD.out, if_neg (by decide)]
    subst hR
    clear HCL HLD hb
    go_enter Try.func10, Try.ntmps10
    go_wp2_with (rw [← HW.out])
    refine HRB.out.mono ?_
    rintro e w2 ⟨rfl, hb2⟩
    have HB2 : Hid (Below W.heap.size W w2) := hb2
    clear hb2 c0 c1
    go_wp2
    go_ret2
    exact aout_none rfl (HB0.out.trans (HB2.out.mono HB0.out.size))
  | true =>
    rw [hb] at HRB HLD
    have HC2 : Hid (∀ w', Below W.heap.size W w' → Calls _ _ _ w' _) := HCL.out hb
    unfold AOut at HC2
    have hR : R = clR xs ws (startsN xs z ws).length roots := by rw [HLD.out, if_pos rfl]
    rw [← hR] at HC2
    clear HCL HLD hb hR
    go_enter Try.func10, Try.ntmps10
    go_wp2_with (rw [← HW.out])
    refine HRB.out.mono ?_
    rintro e w2 ⟨rfl, hb2⟩
    have HB2 : Hid (Below W.heap.size W w2) := hb2
    clear hb2 c0 c1
    obtain ⟨c0, c1⟩ := HCS.out w2 HB2.out
    go_wp2_with fail
    refine (HC2.out w2 HB2.out).mono ?_
    rintro e w3 ⟨a3, g3, c3, rfl, hg3, hi3, hb3⟩
    have HI3 : Hid (Ints w3 a3 g3 R) := hi3
    have HG3 : Hid (w.heap.size ≤ g3) := by have := HB0.out.size; have := HB2.out.size; show w.heap.size ≤ g3; omega
    have HB3 : Hid (Below w.heap.size w w3) := HB0.out.trans ((HB2.out.trans (hb3.mono HB2.out.size)).mono HB0.out.size)
    clear hb3 hg3 hi3 c0 c1
    go_wp2
    go_ret2
    exact ⟨a3, g3, c3, rfl, HG3.out, HI3.out, HB3.out⟩
end Go.Proofs.Ytngpmohmnpbcnaa.cl
