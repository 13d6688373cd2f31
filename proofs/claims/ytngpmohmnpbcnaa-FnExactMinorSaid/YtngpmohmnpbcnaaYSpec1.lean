/-
  The objects with which words begin, and whether a nursery is right, by the specification.
-/
import Derived.Test.YtngpmohmnpbcnaaYImpl1
import Derived.Deep.RegionHeld3
namespace Go.Proofs.Ytngpmohmnpbcnaa.nu
open Go.RowKit
open kinds ints ref obj

def parseB (xs : List ByteArray) (z : Int) (ws : List Int) : Bool := preN xs z ws && (parsed xs ws).isSome
def parseL (xs : List ByteArray) (ws : List Int) : List Nat := (parsed xs ws).getD []
/-- What the specification's reading answers. -/
def ParseAns (xs : List ByteArray) (z : Int) (ws : List Int) (w : World) (e : Ending) (w' : World) : Prop :=
  Below w.heap.size w w' ∧ ∃ (a : Option Addr) (g len cap : Nat), e = .returned (.tuple #[.slice a len cap, .bool (parseB xs z ws)]) ∧ (parseB xs z ws = true → len = (parseL xs ws).length ∧ w.heap.size ≤ g ∧ Ints w' a g (numsOf (parseL xs ws)) ∧ Found xs ws (parseL xs ws))
theorem parse_no {xs : List ByteArray} {z : Int} {ws : List Int} {w : World} {e : Ending} {w' : World} {a : Option Addr} {len cap : Nat} (h : parseB xs z ws = false) (he : e = .returned (.tuple #[.slice a len cap, .bool false])) (hb : Below w.heap.size w w') : ParseAns xs z ws w e w' := by
  unfold ParseAns
  rw [h]
  exact ⟨hb, a, 0, len, cap, he, fun q => by cases q⟩
theorem parse_yes {xs : List ByteArray} {z : Int} {ws : List Int} {w : World} {e : Ending} {w' : World} {a : Option Addr} {g cap : Nat} {L : List Nat} (hp : preN xs z ws = true) (hf : Found xs ws L) (he : e = .returned (.tuple #[.slice a L.length cap, .bool true])) (hb : Below w.heap.size w w') (hg : w.heap.size ≤ g) (hi : Ints w' a g (numsOf L)) : ParseAns xs z ws w e w' := by
  have h1 : parseL xs ws = L := by unfold parseL; rw [hf.eq]; rfl
  have h2 : parseB xs z ws = true := by unfold parseB; rw [hf.eq, hp]; rfl
  unfold ParseAns
  rw [h1, h2]
  exact ⟨hb, a, g, L.length, cap, he, fun _ => ⟨rfl, hg, hi, hf⟩⟩
theorem parseB_pre {xs : List ByteArray} {z : Int} {ws : List Int} (h : preN xs z ws = false) : parseB xs z ws = false := by unfold parseB; rw [h]; rfl
theorem parseB_none {xs : List ByteArray} {z : Int} {ws : List Int} (h : parsed xs ws = none) : parseB xs z ws = false := by unfold parseB; rw [h]; simp
set_option maxHeartbeats 2000000 in
set_option maxRecDepth 20000 in
theorem spec_parse_early (w : World) (a : Option Addr) (cap : Nat) (xs : List ByteArray) (z : Int) (a2 : Option Addr) (n vcap : Nat) (ws : List Int) (hx : ws.length = n) (hxn : xs.length ≤ 1048576) (hl : Strs w a xs) (hz : ∀ i (hi : i < xs.length), xs[i].size ≤ 1048576) (_hn : n ≤ 1048576) (hp : preN xs z ws = false) :
    Calls Try.prog 62 #[.slice a xs.length cap, .agg #[.int .i64 z, .slice a2 n vcap]] w fun e w' => ParseAns xs z ws w e w' := by
  obtain ⟨W, hW⟩ : ∃ W, W = w.alloc (.cells #[.int .i64 z, .slice a2 n vcap] 31) := ⟨_, rfl⟩
  have HW : Hid (W = w.alloc (.cells #[.int .i64 z, .slice a2 n vcap] 31)) := hW
  obtain ⟨hb0, hsz, c0, c1⟩ := box2 w z a2 n vcap W hW
  obtain ⟨X, hX⟩ : ∃ X, X = W.alloc (.cells #[] 2) := ⟨_, rfl⟩
  have HX : Hid (X = W.alloc (.cells #[] 2)) := hX
  have hbX : Below W.heap.size W X := by rw [hX]; exact (Below.refl _ _).alloc (Nat.le_refl _) _
  have HB0 : Hid (Below w.heap.size w X) := hb0.trans (hbX.mono hb0.size)
  have x0 : X.cell? ⟨w.heap.size, 0, none⟩ = some (.int .i64 z) := by rw [hbX.cell (p := ⟨w.heap.size, 0, none⟩) (by show w.heap.size < _; omega)]; exact c0
  have x1 : X.cell? ⟨w.heap.size, 1, none⟩ = some (.slice a2 n vcap) := by rw [hbX.cell (p := ⟨w.heap.size, 1, none⟩) (by show w.heap.size < _; omega)]; exact c1
  have HTY : Hid (Calls _ _ _ X _) := spec_types X a cap xs hxn ((hl.below hb0).below hbX) hz
  have HWI : Hid (∀ w : World, Calls _ _ _ w _) := fun w => specIn_any w z 2 400
  have HNO : Hid (∀ {e : Ending} {w' : World} {a : Option Addr} {len cap : Nat}, e = .returned (.tuple #[.slice a len cap, .bool false]) → Below w.heap.size w w' → ParseAns xs z ws w e w') := fun he hb => parse_no (parseB_pre hp) he hb
  have hpq : preN xs z ws = (typesOk xs && ((decide (2 ≤ z) && decide (z ≤ 400)) && decide ((ws.length : Int) ≤ z))) := rfl
  rw [hp] at hpq
  have HPQ : Hid (false = (typesOk xs && ((decide (2 ≤ z) && decide (z ≤ 400)) && decide ((ws.length : Int) ≤ z)))) := hpq
  have HXL : Hid (ws.length = n) := hx
  clear hW hl hb0 hsz hpq hp hx hX hbX c0 c1
  generalize typesOk xs = ty at HTY HPQ
  generalize (decide (2 ≤ z) && decide (z ≤ 400)) = wi at HWI HPQ
  go_enter Try.func62, Try.ntmps62
  go_wp2_with (first | (rw [← HX.out]) | (rw [← HW.out]))
  refine HTY.out.mono ?_
  rintro e w2 ⟨rfl, rfl⟩
  cases ty with
  | false =>
    go_wp2
    refine bodyPost_ret (v := .tuple #[.slice (some ⟨W.heap.size, 0, none⟩) 0 0, .bool false]) ?_ rfl (HNO.out rfl HB0.out)
    simp [results, Try.results62, go_sem]
  | true =>
    go_wp2_with fail
    refine (HWI.out _).mono ?_
    rintro e w2 ⟨rfl, rfl⟩
    cases wi with
    | false =>
      go_wp2
      refine bodyPost_ret (v := .tuple #[.slice (some ⟨W.heap.size, 0, none⟩) 0 0, .bool false]) ?_ rfl (HNO.out rfl HB0.out)
      simp [results, Try.results62, go_sem]
    | true =>
      have hgt : z < (n : Int) := by
        have h1 := HPQ.out
        simp at h1
        have := HXL.out
        omega
      go_wp2
      refine bodyPost_ret (v := .tuple #[.slice (some ⟨W.heap.size, 0, none⟩) 0 0, .bool false]) ?_ rfl (HNO.out rfl HB0.out)
      simp [results, Try.results62, go_sem]
set_option maxHeartbeats 1500000 in
set_option maxRecDepth 20000 in
theorem spec_parse_late (w : World) (a : Option Addr) (cap : Nat) (xs : List ByteArray) (z : Int) (a2 : Option Addr) (n vcap : Nat) (ws : List Int) (hx : ws.length = n) (hxn : xs.length ≤ 1048576) (hl : Strs w a xs) (hz : ∀ i (hi : i < xs.length), xs[i].size ≤ 1048576) (_hn : n ≤ 1048576) (hv : Nums w a2 ws) (hh : ∀ x ∈ ws, x < 9223372036854775808) (hp : preN xs z ws = true) :
    Calls Try.prog 62 #[.slice a xs.length cap, .agg #[.int .i64 z, .slice a2 n vcap]] w fun e w' => ParseAns xs z ws w e w' := by
  obtain ⟨W, hW⟩ : ∃ W, W = w.alloc (.cells #[.int .i64 z, .slice a2 n vcap] 31) := ⟨_, rfl⟩
  have HW : Hid (W = w.alloc (.cells #[.int .i64 z, .slice a2 n vcap] 31)) := hW
  obtain ⟨hb0, hsz, c0, c1⟩ := box2 w z a2 n vcap W hW
  obtain ⟨X, hX⟩ : ∃ X, X = W.alloc (.cells #[] 2) := ⟨_, rfl⟩
  have HX : Hid (X = W.alloc (.cells #[] 2)) := hX
  have hbX : Below W.heap.size W X := by rw [hX]; exact (Below.refl _ _).alloc (Nat.le_refl _) _
  have HB0 : Hid (Below w.heap.size w W) := hb0
  have HBX : Hid (Below W.heap.size W X) := hbX
  have hown : X.ownsRow W.heap.size 2 1 (.slice (some ⟨W.heap.size, 0, none⟩) 0 0) 0 [] := ⟨rfl, .inr ⟨W.heap.size, 0, #[], rfl, Nat.le_refl _, by rw [hX]; exact heap_alloc_last W _, Nat.le_refl _, by unfold maxLen; omega, rfl, rfl⟩⟩
  have HOWN : Hid (X.ownsRow W.heap.size 2 1 (.slice (some ⟨W.heap.size, 0, none⟩) 0 0) 0 []) := hown
  have HCS : Hid (∀ w', Below W.heap.size W w' → w'.cell? ⟨w.heap.size, 0, none⟩ = some (.int .i64 z) ∧ w'.cell? ⟨w.heap.size, 1, none⟩ = some (.slice a2 n vcap)) := fun w' h =>
    ⟨by rw [h.cell (p := ⟨w.heap.size, 0, none⟩) (by show w.heap.size < _; omega)]; exact c0, by rw [h.cell (p := ⟨w.heap.size, 1, none⟩) (by show w.heap.size < _; omega)]; exact c1⟩
  obtain ⟨x0, x1⟩ := HCS.out X hbX
  have hlW := hl.below hb0
  have hvW := hv.below hb0
  have HTY : Hid (Calls _ _ _ X _) := spec_types X a cap xs hxn (hlW.below hbX) hz
  have HWI : Hid (∀ w : World, Calls _ _ _ w _) := fun w => specIn_any w z 2 400
  obtain ⟨htp, hz2, hz4, hzl⟩ := preN_facts hp
  have h23 : ∀ i (hi : i < xs.length), 1 ≤ xs[i].size ∧ xs[i].size ≤ 23 := by
    have h1 := htp
    unfold typesOk at h1
    rw [Bool.and_eq_true, List.all_eq_true] at h1
    exact fun i hi => isType_size (h1.2 _ (List.getElem_mem hi))
  rw [htp] at HTY
  rw [show (decide (2 ≤ z) && decide (z ≤ 400)) = true by rw [decide_eq_true hz2, decide_eq_true hz4]; rfl] at HWI
  have hle : ¬ z < (n : Int) := by omega
  have hn4 : n ≤ 400 := by omega
  have HLS : Hid (∀ w', Below W.heap.size W w' → Strs w' a xs) := fun w' h => hlW.below h
  have HNU : Hid (∀ w', Below W.heap.size W w' → Nums w' a2 ws) := fun w' h => hvW.below h
  have HXL : Hid (ws.length = n) := hx
  have H23 : Hid (∀ i (hi : i < xs.length), 1 ≤ xs[i].size ∧ xs[i].size ≤ 23) := h23
  have HHD : Hid (∀ k, k < ws.length → ws.getD k 0 < 9223372036854775808) := fun k hk => by rw [← getD_of ws k hk]; exact hh _ (List.getElem_mem hk)
  have HNN : Hid (parsed xs ws = none → parseB xs z ws = false) := fun h => parseB_none h
  have HYS : Hid (∀ {e : Ending} {w' : World} {a : Option Addr} {g cap : Nat} {L : List Nat}, Found xs ws L → e = .returned (.tuple #[.slice a L.length cap, .bool true]) → Below w.heap.size w w' → w.heap.size ≤ g → Ints w' a g (numsOf L) → ParseAns xs z ws w e w') := fun hf he hb hg hi => parse_yes hp hf he hb hg hi
  clear hh hW hl hv hb0 hlW hvW htp h23 hx hp hz hzl hz2 hz4 hX hbX hown c0 c1 hsz
  go_enter Try.func62, Try.ntmps62
  go_wp2_with (first | (rw [← HX.out]) | (rw [← HW.out]))
  refine HTY.out.mono ?_
  rintro e w2 ⟨rfl, rfl⟩
  go_wp2_with fail
  refine (HWI.out _).mono ?_
  rintro e w2 ⟨rfl, rfl⟩
  go_wp2
  clear x0 x1
  go_loopw [6, 7] (fun v i wr => ∃ (at' : Nat) (L : List Nat), i = .int .i64 (at' : Int) ∧ Walk xs ws at' L ∧ wr.ownsRow W.heap.size 2 1 v (numsOf L).length ((numsOf L).map (Value.int .i64)) ∧ Below W.heap.size W wr) (fun _ i _ => n - (intOf i).toNat)
  case atStart => exact ⟨0, [], rfl, Walk.start xs ws, HOWN.out, HBX.out⟩
  case round =>
    obtain ⟨at', L, rfl, hwk, hown, hb⟩ := hrel
    have HWK : Hid (Walk xs ws at' L) := hwk
    have HOW : Hid (wr.ownsRow W.heap.size 2 1 u6 (numsOf L).length ((numsOf L).map (Value.int .i64))) := hown
    have HB : Hid (Below W.heap.size W wr) := hb
    clear hwk hown hb
    obtain ⟨x0, x1⟩ := HCS.out wr HB.out
    by_cases hlt : at' < n
    · have hlti : (at' : Int) < (n : Int) := by omega
      have hat0 : (0 : Int) ≤ (at' : Int) := by omega
      obtain ⟨b, off, rfl, d0⟩ := HNU.out wr HB.out at' (by have := HXL.out; omega)
      rw [getD_of ws at' (by have := HXL.out; omega)] at d0
      have HNP : Hid (stepN xs ws at' = 0 → parseB xs z ws = false) := fun h => HNN.out (HWK.out.no (by have := HXL.out; omega) h)
      have HNX : Hid (stepN xs ws at' ≠ 0 → Walk xs ws (at' + stepN xs ws at') (L ++ [at'])) := fun h => HWK.out.next (by have := HXL.out; omega) h
      have HST : Hid (stepN xs ws at' = if 0 ≤ ws.getD at' 0 ∧ placeB xs.length (ws.getD at' 0 / 4) = true ∧ at' + 1 + (kdH xs (ws.getD at' 0)).size ≤ ws.length then 1 + (kdH xs (ws.getD at' 0)).size else 0) := rfl
      have HBD : Hid (Below w.heap.size w wr.drew) := HB0.out.trans (HB.out.drew.mono HB0.out.size)
      have HLL : Hid ((numsOf L).length ≤ 1048576) := by show (numsOf L).length ≤ _; rw [numsOf_len]; have := HWK.out.len; omega
      by_cases hneg : ws.getD at' 0 < 0
      · have HR : Hid (parseB xs z ws = false) := HNP.out (by rw [HST.out, if_neg (by omega)])
        generalize ws.getD at' 0 = hd at d0 hneg
        clear HNP HNX HST
        go_wp2
        go_region
        all_goals
          go_wp2
          refine bodyPost_ret (v := .tuple #[.slice none 0 0, .bool false]) ?_ rfl (parse_no HR.out rfl HBD.out)
          simp [results, Try.results62, go_sem]
      have hnn : 0 ≤ ws.getD at' 0 := by omega
      have hdn : ¬ ws.getD at' 0 < 0 := hneg
      have hq0 : (ws.getD at' 0).tdiv 4 = ws.getD at' 0 / 4 := Int.tdiv_eq_ediv_of_nonneg hnn
      have hqw : IntKind.i64.wrap (ws.getD at' 0 / 4) = ws.getD at' 0 / 4 := by
        have := HHD.out at' (by have := HXL.out; omega)
        rw [IntKind.wrap_i64]; omega
      cases hp : placeB xs.length (ws.getD at' 0 / 4) with
      | false =>
        have HR : Hid (parseB xs z ws = false) := HNP.out (by rw [HST.out, hp, if_neg (by simp)])
        have hge : (xs.length : Int) ≤ ws.getD at' 0 / 4 := by
          unfold placeB at hp
          rw [decide_eq_true (by omega), Bool.true_and] at hp
          have := of_decide_eq_false hp
          omega
        have hde : decide ((xs.length : Int) ≤ ws.getD at' 0 / 4) = true := decide_eq_true hge
        have hdm : decide (ws.getD at' 0 < 0) = false := decide_eq_false hdn
        generalize ws.getD at' 0 / 4 = q at hq0 hqw hge hde
        generalize ws.getD at' 0 = hd at d0 hdn hq0 hdm
        clear HNP HNX HST hnn hneg hp
        go_wp2
        go_region
        all_goals
          go_wp2
          refine bodyPost_ret (v := .tuple #[.slice none 0 0, .bool false]) ?_ rfl (parse_no HR.out rfl HBD.out)
          simp [results, Try.results62, go_sem]
      | true =>
        obtain ⟨p, hpe, hpl⟩ := placeB_nat hp
        have hkd := kdH_at hpl hpe
        rw [hpe] at hq0 hqw
        rw [hkd] at HST
        obtain ⟨b2, o2, rfl, s9⟩ := HLS.out W (Below.refl _ _) p hpl
        have HSC : Hid (∀ w', Below W.heap.size W w' → w'.cell? ⟨b2, o2 + p, none⟩ = some (.string xs[p])) := fun w' h => by rw [h.cell (p := ⟨b2, o2 + p, none⟩) (World.block_lt_of_cell? _ _ s9)]; exact s9
        have s0 := HSC.out wr HB.out
        have hs1 := H23.out p hpl
        clear s9
        generalize xs[p] = s at s0 HST hs1 HSC
        have hpi : (p : Int) < (xs.length : Int) := by omega
        have hpn : ¬ (xs.length : Int) ≤ (p : Int) := by omega
        have hp0 : (0 : Int) ≤ (p : Int) := by omega
        have hs2 : s.size ≤ 23 := hs1.2
        have hde : decide ((xs.length : Int) ≤ (p : Int)) = false := decide_eq_false hpn
        have hdeN : decide (xs.length ≤ p) = false := decide_eq_false (by omega)
        have hdm : decide (ws.getD at' 0 < 0) = false := decide_eq_false hdn
        have hw1 : IntKind.i64.wrap ((at' : Int) + 1) = (at' : Int) + 1 := by rw [IntKind.wrap_i64]; omega
        have hw2 : IntKind.i64.wrap ((at' : Int) + 1 + (s.size : Int)) = (at' : Int) + 1 + (s.size : Int) := by rw [IntKind.wrap_i64]; omega
        by_cases hfit : at' + 1 + s.size ≤ n
        case neg =>
          have HR : Hid (parseB xs z ws = false) := HNP.out (by rw [HST.out, if_neg (by have := HXL.out; omega)])
          have hgt : (n : Int) < (at' : Int) + 1 + (s.size : Int) := by omega
          have hdf : decide ((n : Int) < (at' : Int) + 1 + (s.size : Int)) = true := decide_eq_true hgt
          have hdfN : decide (n < at' + 1 + s.size) = true := decide_eq_true (by omega)
          generalize ws.getD at' 0 = hd at d0 hdn hq0 hdm
          clear HNP HNX HST hnn hneg hp hpe hkd hfit hs1
          go_wp2
          go_region
          all_goals
            go_wp2
            refine bodyPost_ret (v := .tuple #[.slice none 0 0, .bool false]) ?_ rfl (parse_no HR.out rfl HBD.out)
            simp [results, Try.results62, go_sem]
        case pos =>
          have hst : stepN xs ws at' = 1 + s.size := by rw [HST.out, if_pos ⟨hnn, hp, by have := HXL.out; omega⟩]
          have HNX2 : Hid (Walk xs ws (at' + (1 + s.size)) (L ++ [at'])) := by
            have h1 := HNX.out (by omega)
            rw [hst] at h1
            exact h1
          have hgt : ¬ (n : Int) < (at' : Int) + 1 + (s.size : Int) := by omega
          have HOD : Hid (wr.drew.ownsRow W.heap.size 2 1 u6 (numsOf L).length ((numsOf L).map (Value.int .i64))) := own_below HOW.out (Below.refl _ _).drew
          have HBW : Hid (Below W.heap.size W wr.drew) := HB.out.drew
          have HSN : Hid (numsOf (L ++ [at']) = numsOf L ++ [(at' : Int)]) := numsOf_snoc L at'
          have hdf : decide ((n : Int) < (at' : Int) + 1 + (s.size : Int)) = false := decide_eq_false hgt
          have hdfN : decide (n < at' + 1 + s.size) = false := decide_eq_false (by omega)
          generalize hM : numsOf L = M at HOD HLL HSN
          generalize ws.getD at' 0 = hd at d0 hdn hq0 hdm
          clear HNP HNX HST hnn hneg hp hpe hkd hfit hs1 hst HOW hM
          go_wp2
          go_region
          all_goals
            go_wp2_with (refine wpList_push wr.drew (by rfl) _ _ (by rfl) W.heap.size u6 M (at' : Int) HOD.out (by rfl) (by rfl) HLL.out HBW.out.size ?_; intro g2 c2 w6 hown6 hb6 hB6; have HO6 : Hid (_) := hown6; have HB6 : Hid (Below W.heap.size W w6) := HBW.out.trans hb6; have s6 := HSC.out w6 HB6.out; clear hown6 hb6 hB6)
            go_roundw
            case rel => exact ⟨at' + (1 + s.size), L ++ [at'], by go_num, HNX2.out, by rw [HSN.out]; exact HO6.out, HB6.out⟩
            case measure => simp [intOf]; omega
    · have HF : Hid (Found xs ws L) := HWK.out.found (by have := HXL.out; omega)
      obtain ⟨a6, g6, c6, hve, hg6, hi6⟩ := ints_of_row HOW.out
      rw [numsOf_len] at hve
      subst hve
      have HI6 : Hid (Ints wr a6 g6 (numsOf L)) := hi6
      have HG6 : Hid (w.heap.size ≤ g6) := by show w.heap.size ≤ g6; have := HB0.out.size; omega
      have HBE : Hid (Below w.heap.size w wr) := HB0.out.trans (HB.out.mono HB0.out.size)
      clear hg6 hi6 HOW HWK
      go_wp2
      refine bodyPost_ret (v := .tuple #[.slice a6 L.length c6, .bool true]) ?_ rfl (HYS.out HF.out rfl HBE.out HG6.out HI6.out)
      simp [results, Try.results62, go_sem]
end Go.Proofs.Ytngpmohmnpbcnaa.nu
