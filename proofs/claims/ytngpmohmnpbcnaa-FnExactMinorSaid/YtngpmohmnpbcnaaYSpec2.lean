/-
  What may be named, and whether a nursery is right, by the specification.
-/
import Derived.Test.YtngpmohmnpbcnaaYSpec1
import Derived.BigQuiet
import Derived.Deep.QuietTactic
namespace Go.Proofs.Ytngpmohmnpbcnaa.nu
open Go.RowKit
open kinds ints ref obj

theorem spec_parse (w : World) (a : Option Addr) (cap : Nat) (xs : List ByteArray) (z : Int) (a2 : Option Addr) (n vcap : Nat) (ws : List Int) (hx : ws.length = n) (hxn : xs.length ≤ 1048576) (hl : Strs w a xs) (hz : ∀ i (hi : i < xs.length), xs[i].size ≤ 1048576) (hn : n ≤ 1048576) (hv : Nums w a2 ws) (hh : ∀ x ∈ ws, x < 9223372036854775808) :
    Calls Try.prog 62 #[.slice a xs.length cap, .agg #[.int .i64 z, .slice a2 n vcap]] w fun e w' => ParseAns xs z ws w e w' := by
  cases hp : preN xs z ws with
  | false => exact spec_parse_early w a cap xs z a2 n vcap ws hx hxn hl hz hn hp
  | true => exact spec_parse_late w a cap xs z a2 n vcap ws hx hxn hl hz hn hv hh hp
set_option maxHeartbeats 1000000 in
theorem spec_ref (w : World) (a : Option Addr) (n cap : Nat) (L : List Nat) (r : Int) (hx : L.length = n) (hn : n ≤ 1048576) (hl : Nums w a (numsOf L)) :
    Calls Try.prog 63 #[.slice a n cap, .int .i64 r] w fun e w' => e = .returned (.bool (namedB L r)) ∧ w = w' := by
  have HRK : Hid (Calls _ _ _ w _) := specRefKind r w
  have HPL : Hid (∀ q, Calls _ _ _ w _) := fun q => place_any w a n cap (numsOf L) q (by rw [numsOf_len]; exact hx) hn hl
  obtain ⟨res, hres⟩ : ∃ x, x = namedB L r := ⟨_, rfl⟩
  rw [← hres]
  have HR : Hid (res = ((refKind r == 0) || ((refKind r == 1) || ((refKind r == 2) && inB L (r / 2))))) := hres
  have HK2 : Hid (refKind r = 2 → 0 ≤ r ∧ r.tdiv 2 = r / 2 ∧ IntKind.i64.wrap (r / 2) = r / 2 ∧ decide (0 ≤ seekI (r / 2) (numsOf L) n) = inB L (r / 2)) := fun h => by
    have h1 : 1 ≤ r ∧ r ≤ 799 := by
      unfold refKind at h
      split at h
      · omega
      · split at h
        · omega
        · split at h
          · omega
          · omega
    refine ⟨by omega, Int.tdiv_eq_ediv_of_nonneg (by omega), by rw [IntKind.wrap_i64]; omega, ?_⟩
    have h2 := seekI_in2 L (r / 2) (by omega)
    rw [numsOf_len, hx] at h2
    exact h2
  clear hres hl
  have hk := refKind_cases r
  generalize refKind r = k at HRK HR HK2 hk
  go_enter Try.func63, Try.ntmps63
  go_wp2_with fail
  refine HRK.out.mono ?_
  rintro e w2 ⟨rfl, rfl⟩
  rcases hk with rfl | rfl | rfl | rfl
  · go_wp2
    go_ret
    exact ⟨by rw [HR.out]; rfl, rfl⟩
  · go_wp2
    go_ret
    exact ⟨by rw [HR.out]; rfl, rfl⟩
  · go_wp2
    go_ret
    exact ⟨by rw [HR.out]; rfl, rfl⟩
  · obtain ⟨h0, h1, h2, h3⟩ := HK2.out rfl
    have HB : Hid (decide (0 ≤ seekI (r / 2) (numsOf L) n) = inB L (r / 2)) := h3
    have HP2 : Hid (Calls _ _ _ w _) := HPL.out (r / 2)
    generalize seekI (r / 2) (numsOf L) n = q at HB HP2
    generalize r / 2 = r2 at h1 h2 HB HP2 HR
    clear h3
    go_wp2_with fail
    refine HP2.out.mono ?_
    rintro e w2 ⟨rfl, rfl⟩
    go_wp2
    go_ret
    exact ⟨by rw [HR.out, ← HB.out]; rfl, rfl⟩
set_option maxHeartbeats 2000000 in
set_option maxRecDepth 20000 in
theorem spec_nurok (w : World) (a : Option Addr) (cap : Nat) (xs : List ByteArray) (z : Int) (a2 : Option Addr) (n vcap : Nat) (ws : List Int) (hx : ws.length = n) (hxn : xs.length ≤ 1048576) (hl : Strs w a xs) (hz : ∀ i (hi : i < xs.length), xs[i].size ≤ 1048576) (hn : n ≤ 1048576) (hv : Nums w a2 ws) (hh : ∀ x ∈ ws, x < 9223372036854775808) :
    Calls Try.prog 61 #[.slice a xs.length cap, .agg #[.int .i64 z, .slice a2 n vcap]] w fun e w' => e = .returned (.bool (nurB xs z ws)) ∧ Below w.heap.size w w' := by
  obtain ⟨W, hW⟩ : ∃ W, W = w.alloc (.cells #[.int .i64 z, .slice a2 n vcap] 31) := ⟨_, rfl⟩
  have HW : Hid (W = w.alloc (.cells #[.int .i64 z, .slice a2 n vcap] 31)) := hW
  obtain ⟨hb0, hsz, c0, c1⟩ := box2 w z a2 n vcap W hW
  have HB0 : Hid (Below w.heap.size w W) := hb0
  have hlW := hl.below hb0
  have hvW := hv.below hb0
  have HPA : Hid (Calls _ _ _ W _) := spec_parse W a cap xs z a2 n vcap ws hx hxn hlW hz hn hvW hh
  have HCS : Hid (∀ w', Below W.heap.size W w' → w'.cell? ⟨w.heap.size, 1, none⟩ = some (.slice a2 n vcap)) := fun w' h => by
    rw [h.cell (p := ⟨w.heap.size, 1, none⟩) (by show w.heap.size < _; omega)]; exact c1
  have HLS : Hid (∀ w', Below W.heap.size W w' → Strs w' a xs) := fun w' h => hlW.below h
  have HNU : Hid (∀ w', Below W.heap.size W w' → Nums w' a2 ws) := fun w' h => hvW.below h
  have HXL : Hid (ws.length = n) := hx
  have HNF : Hid (parseB xs z ws = false → nurB xs z ws = false) := fun h => by
    unfold parseB at h
    rw [Bool.and_eq_false_iff] at h
    rcases h with h | h
    · exact nurB_pre h
    · exact nurB_none (by simpa using h)
  have HPT : Hid (parseB xs z ws = true → typesOk xs = true ∧ n ≤ 400 ∧ ∀ L, Found xs ws L → nurB xs z ws = namesB xs ws L L) := fun h => by
    unfold parseB at h
    rw [Bool.and_eq_true] at h
    obtain ⟨h1, _, h3, h4⟩ := preN_facts h.1
    exact ⟨h1, by omega, fun L hL => nurB_some h.1 hL.eq⟩
  clear hW hl hv hb0 hlW hvW hx hh hz hsz
  go_enter Try.func61, Try.ntmps61
  go_wp2_with (rw [← HW.out])
  refine HPA.out.mono ?_
  rintro e P ⟨hb2, sa, sg, len, sc, rfl, hyes⟩
  have HBP : Hid (Below W.heap.size W P) := hb2
  have HYS : Hid (parseB xs z ws = true → _) := hyes
  clear hb2 hyes c0 c1
  cases hpb : parseB xs z ws with
  | false =>
    have HR : Hid (nurB xs z ws = false) := HNF.out hpb
    clear hpb HYS HPT
    go_wp2
    go_ret
    exact ⟨by rw [HR.out]; rfl, HB0.out.trans (HBP.out.mono HB0.out.size)⟩
  | true =>
  obtain ⟨hlen, hsg, hin, hfd⟩ := HYS.out hpb
  obtain ⟨htp, hn4, hnb⟩ := HPT.out hpb
  have H23 : Hid (∀ i (hi : i < xs.length), 1 ≤ xs[i].size ∧ xs[i].size ≤ 23) := by
    have h1 := htp
    unfold typesOk at h1
    rw [Bool.and_eq_true, List.all_eq_true] at h1
    exact fun i hi => isType_size (h1.2 _ (List.getElem_mem hi))
  have HFN : Hid (Found xs ws (parseL xs ws)) := hfd
  have HNB : Hid (nurB xs z ws = namesB xs ws (parseL xs ws) (parseL xs ws)) := hnb _ hfd
  generalize parseL xs ws = L at hlen hin HFN HNB
  subst hlen
  have HSI : Hid (∀ w', Below P.heap.size P w' → Nums w' sa (numsOf L)) := fun w' h => hin.nums.below h
  have HLL : Hid (L.length ≤ 400) := by show L.length ≤ 400; have := HFN.out.len; have := HXL.out; omega
  have HN4 : Hid (n ≤ 400) := hn4
  have HEN : Hid (∀ w', Below P.heap.size P w' → Below w.heap.size w w' ∧ Below W.heap.size W w') := fun w' h => by
    have h2 := HBP.out.trans (h.mono HBP.out.size)
    exact ⟨HB0.out.trans (h2.mono HB0.out.size), h2⟩
  clear hsg hin hfd hnb htp hpb HYS HPT HNF hn4
  go_wp2
  go_loopw [7] (fun i wr => ∃ k : Nat, k ≤ L.length ∧ i = .int .i64 (k : Int) ∧ namesB xs ws L (L.take k) = true ∧ Below P.heap.size P wr) (fun i _ => L.length - (intOf i).toNat)
  case atStart => exact ⟨0, Nat.zero_le _, rfl, rfl, Below.refl _ _⟩
  case round =>
    obtain ⟨k, hk, rfl, hok, hb⟩ := hrel
    have HB : Hid (Below P.heap.size P wr) := hb
    have HOK : Hid (namesB xs ws L (L.take k) = true) := hok
    clear hb hok
    by_cases hlt : k < L.length
    · have hlti : (k : Int) < (L.length : Int) := by omega
      have hk0 : (0 : Int) ≤ (k : Int) := by omega
      obtain ⟨b5, o5, rfl, e5⟩ := (HSI.out P (Below.refl _ _)) k (by rw [numsOf_len]; exact hlt)
      have ha' : L[k] ∈ L := List.getElem_mem hlt
      rw [show (numsOf L)[k]'(by rw [numsOf_len]; exact hlt) = (L[k] : Int) by unfold numsOf; simp] at e5
      have HTK : Hid (namesB xs ws L (L.take (k + 1)) = (namesB xs ws L (L.take k) && allNamedB L (refsA xs ws L[k]))) := by
        show namesB xs ws L (L.take (k + 1)) = _
        rw [List.take_succ_eq_append_getElem hlt, names_snoc]
      generalize L[k] = aa at ha' e5 HTK
      have hgd := HFN.out.good aa ha'
      obtain ⟨hh0, hpb, hfit, _⟩ := stepN_le hgd
      obtain ⟨p, hpe, hpl⟩ := placeB_nat hpb
      have hkd := kdH_at hpl hpe
      have hvl := valsA_len hgd
      rw [hkd] at hvl hfit
      have haa : aa < n := by have := HXL.out; omega
      obtain ⟨b, off, rfl, d9⟩ := HNU.out W (Below.refl _ _) aa (by have := HXL.out; omega)
      rw [getD_of ws aa (by have := HXL.out; omega)] at d9
      have HDC : Hid (∀ w', Below P.heap.size P w' → w'.cell? ⟨b, off + aa, none⟩ = some (.int .i64 (ws.getD aa 0)) ∧ w'.cell? ⟨b5, o5 + k, none⟩ = some (.int .i64 (aa : Int)) ∧ w'.cell? ⟨w.heap.size, 1, none⟩ = some (.slice (some ⟨b, off, none⟩) n vcap)) := fun w' h =>
        ⟨by rw [(HEN.out w' h).2.cell (p := ⟨b, off + aa, none⟩) (World.block_lt_of_cell? _ _ d9)]; exact d9, by rw [h.cell (p := ⟨b5, o5 + k, none⟩) (World.block_lt_of_cell? _ _ e5)]; exact e5, HCS.out w' (HEN.out w' h).2⟩
      obtain ⟨b2, o2, rfl, s9⟩ := HLS.out W (Below.refl _ _) p hpl
      have HSC : Hid (∀ w', Below P.heap.size P w' → w'.cell? ⟨b2, o2 + p, none⟩ = some (.string xs[p])) := fun w' h => by rw [(HEN.out w' h).2.cell (p := ⟨b2, o2 + p, none⟩) (World.block_lt_of_cell? _ _ s9)]; exact s9
      have hq0 : (ws.getD aa 0).tdiv 4 = (p : Int) := by rw [Int.tdiv_eq_ediv_of_nonneg hh0, hpe]
      have HRF : Hid (refsA xs ws aa = refsL xs[p] (valsA xs ws aa) xs[p].size) := by show refsA xs ws aa = _; unfold refsA; rw [hkd, hvl]
      have HVC : Hid (∀ j, j < xs[p].size → (valsA xs ws aa).getD j 0 = ws.getD (aa + 1 + j) 0 ∧ aa + 1 + j < n) := fun j hj => ⟨valsA_at hgd j (by omega), by have := HXL.out; omega⟩
      have HWC : Hid (∀ w', Below P.heap.size P w' → ∀ j, j < n → w'.cell? ⟨b, off + j, none⟩ = some (.int .i64 (ws.getD j 0))) := fun w' h j hj => by
        obtain ⟨b', off', e, hc⟩ := HNU.out w' (HEN.out w' h).2 j (by have := HXL.out; omega)
        simp only [Option.some.injEq, Addr.mk.injEq, and_true] at e
        obtain ⟨rfl, rfl⟩ := e
        rw [hc, getD_of]
      rw [HRF.out] at HTK
      have hs23 := (H23.out p hpl).2
      obtain ⟨c1, e1, d1⟩ := HDC.out wr HB.out
      have s1 := HSC.out wr HB.out
      generalize valsA xs ws aa = vs at HTK HVC
      generalize xs[p] = s at s1 HSC HTK HVC hs23
      generalize ws.getD aa 0 = hd at c1 HDC hq0
      have hpi : (p : Int) < (xs.length : Int) := by omega
      have hp0 : (0 : Int) ≤ (p : Int) := by omega
      have haai : (aa : Int) < (n : Int) := by omega
      have haa0 : (0 : Int) ≤ (aa : Int) := by omega
      have HKN : Hid (k < L.length) := hlt
      have hk4 : k ≤ 400 := by have := HLL.out; omega
      have HAA : Hid (aa < n) := haa
      have HTN : Hid (allNamedB L (refsL s vs s.size) = true → namesB xs ws L (L.take (k + 1)) = true) := fun h => by rw [HTK.out, HOK.out, h]; rfl
      have HTF : Hid (∀ j, j ≤ s.size → allNamedB L (refsL s vs j) = false → nurB xs z ws = false) := fun j hj h => by
        rw [HNB.out]
        exact names_no (k := k + 1) (by rw [HTK.out, allNamed_le L s vs j s.size hj h]; simp)
      clear hgd hh0 hpb hfit hpe hpl hkd hvl s9 d9 e5 ha' HTK HRF haa
      have hbd : Below P.heap.size P wr.drew := HB.out.drew
      have HBD : Hid (Below P.heap.size P wr.drew) := hbd
      clear hbd
      go_wp2
      go_region
      all_goals
        go_wp2
        clear c1 e1 d1 s1
        go_loopw [9] (fun i w2 => ∃ j : Nat, j ≤ s.size ∧ i = .int .i64 (j : Int) ∧ allNamedB L (refsL s vs j) = true ∧ Below P.heap.size P w2) (fun i _ => s.size - (intOf i).toNat)
        case atStart => exact ⟨0, Nat.zero_le _, rfl, rfl, HBD.out⟩
        case round =>
          obtain ⟨j, hj, rfl, hin, hb⟩ := hrel
          have HBJ : Hid (Below P.heap.size P wr) := hb
          have HIJ : Hid (allNamedB L (refsL s vs j) = true) := hin
          obtain ⟨_, e1, d1⟩ := HDC.out wr hb
          clear hin hb
          by_cases hlt2 : j < s.size
          · have HJ : Hid (j < s.size) := hlt2
            have hjsi : (j : Int) < (s.size : Int) := by omega
            have hj0 : (0 : Int) ≤ (j : Int) := by omega
            have hj23 : j < 23 := by omega
            have hIR := isR_at s j hlt2
            obtain ⟨hvj, hajn⟩ := HVC.out j hlt2
            have f1 := HWC.out wr HBJ.out (aa + 1 + j) hajn
            rw [← hvj] at f1
            have HRS : Hid (refsL s vs (j + 1) = if isR s j = true then refsL s vs j ++ [vs.getD j 0] else refsL s vs j) := rfl
            have HRE : Hid (∀ w', Below P.heap.size P w' → Calls Try.prog 63 #[.slice (some ⟨b5, o5, none⟩) L.length sc, .int .i64 (vs.getD j 0)] w' fun e w'' => e = .returned (.bool (namedB L (vs.getD j 0))) ∧ w'' = w') := fun w' h => (spec_ref w' (some ⟨b5, o5, none⟩) L.length sc L (vs.getD j 0) rfl (by have := HLL.out; omega) (HSI.out w' h)).mono fun _ _ q => ⟨q.1, q.2.symm⟩
            generalize vs.getD j 0 = y at f1 HRS HRE
            obtain ⟨A1, hA1⟩ : ∃ A1, A1 = aa + 1 := ⟨_, rfl⟩
            obtain ⟨A, hA⟩ : ∃ A, A = aa + 1 + j := ⟨_, rfl⟩
            have hw1 : IntKind.i64.wrap ((aa : Int) + 1) = (A1 : Int) := by rw [IntKind.wrap_i64]; have := HN4.out; have := HAA.out; omega
            have hw2 : IntKind.i64.wrap ((A1 : Int) + (j : Int)) = (A : Int) := by rw [IntKind.wrap_i64]; have := HN4.out; have := HAA.out; omega
            have hAi : (A : Int) < (n : Int) := by omega
            have hA0 : (0 : Int) ≤ (A : Int) := by omega
            rw [← hA] at f1
            clear hvj hajn hA1 hA
            cases hr : isR s j with
            | false =>
              rw [hr] at hIR
              have HI2 : Hid (allNamedB L (refsL s vs (j + 1)) = true) := by
                show allNamedB L (refsL s vs (j + 1)) = true
                rw [HRS.out, hr, if_neg (by decide)]; exact HIJ.out
              have HBJ2 : Hid (∀ n, Below P.heap.size P (wr.drewN n)) := fun n => ⟨HBJ.out.os, HBJ.out.tape, HBJ.out.output, HBJ.out.size, HBJ.out.block⟩
              clear hr HRS
              go_wp2_with fail
              go_quiet (first | (go_at_call 63; refine Calls.quiet_of_same (HRE.out _ (HBJ2.out _))))
              go_wp2
              go_roundw
              case rel => exact ⟨j + 1, by have := HJ.out; omega, by go_num, HI2.out, HBJ2.out _⟩
              case measure => have := HJ.out; simp [intOf]; omega
            | true =>
              rw [hr] at hIR
              have HBJ2 : Hid (∀ n, Below P.heap.size P (wr.drewN n)) := fun n => ⟨HBJ.out.os, HBJ.out.tape, HBJ.out.output, HBJ.out.size, HBJ.out.block⟩
              have HI2 : Hid (allNamedB L (refsL s vs (j + 1)) = namedB L y) := by
                show allNamedB L (refsL s vs (j + 1)) = _
                rw [HRS.out, hr, if_pos rfl, allNamed_snoc, HIJ.out]; simp
              generalize namedB L y = ok at HI2 HRE
              clear hr HRS
              have hA0n : ((A : Int)).toNat = A := Int.toNat_natCast A
              cases ok with
              | false =>
                have HR2 : Hid (nurB xs z ws = false) := HTF.out (j + 1) (by have := HJ.out; omega) HI2.out
                go_wp2_with fail
                go_quiet (first | (go_at_call 63; refine Calls.quiet_of_same (HRE.out _ (HBJ2.out _))))
                go_wp2
                go_ret
                exact ⟨by rw [HR2.out]; rfl, (HEN.out _ (HBJ2.out _)).1⟩
              | true =>
                go_wp2_with fail
                go_quiet (first | (go_at_call 63; refine Calls.quiet_of_same (HRE.out _ (HBJ2.out _))))
                go_wp2
                go_roundw
                case rel => exact ⟨j + 1, by have := HJ.out; omega, by go_num, HI2.out, HBJ2.out _⟩
                case measure => have := HJ.out; simp [intOf]; omega
          · obtain rfl : j = s.size := by omega
            go_wp2
            go_roundw
            case rel => exact ⟨k + 1, by have := HKN.out; omega, by have := HKN.out; have := HLL.out; go_num, HTN.out HIJ.out, HBJ.out⟩
            case measure => have := HKN.out; simp [intOf]; omega
    · obtain rfl : k = L.length := by omega
      have HR2 : Hid (nurB xs z ws = true) := by
        show nurB xs z ws = true
        have := HOK.out
        rw [List.take_length] at this
        rw [HNB.out, this]
      have HBE : Hid (Below w.heap.size w wr) := (HEN.out wr HB.out).1
      go_wp2
      go_ret
      exact ⟨by rw [HR2.out]; rfl, HBE.out⟩
end Go.Proofs.Ytngpmohmnpbcnaa.nu
