/-
  How many objects have each age, by both.
-/
import Derived.Test.YtngpmohmnpbcnaaYSpec3
namespace Go.Proofs.Ytngpmohmnpbcnaa.nu
open Go.RowKit
open kinds ints ref obj

def ageN (ws : List Int) (M : List Nat) (j : Int) : Int := ((M.filter fun a => ws.getD a 0 % 4 == j).length : Int)
def agesOf (ws : List Int) (M : List Nat) : List Int := [ageN ws M 0, ageN ws M 1, ageN ws M 2, ageN ws M 3]
def agesL (xs : List ByteArray) (z : Int) (ws : List Int) : List Int := if nurB xs z ws = true then agesOf ws (startsN xs z ws) else []
theorem ageN_snoc (ws : List Int) (M : List Nat) (a : Nat) (j : Int) : ageN ws (M ++ [a]) j = if ws.getD a 0 % 4 = j then ageN ws M j + 1 else ageN ws M j := by
  unfold ageN
  rw [List.filter_append, List.length_append]
  by_cases h : ws.getD a 0 % 4 = j
  · rw [if_pos h]
    simp only [List.getD_eq_getElem?_getD] at h ⊢
    simp [h]
  · rw [if_neg h]
    simp only [List.getD_eq_getElem?_getD] at h ⊢
    simp [h]
theorem ages_snoc (ws : List Int) (M : List Nat) (a r : Nat) (hr : ws.getD a 0 % 4 = (r : Int)) (h4 : r < 4) : agesOf ws (M ++ [a]) = (agesOf ws M).set r ((agesOf ws M).getD r 0 + 1) := by
  unfold agesOf
  simp only [ageN_snoc, hr]
  match r, h4 with
  | 0, _ => simp
  | 1, _ => simp
  | 2, _ => simp
  | 3, _ => simp
theorem ages_le (ws : List Int) (M : List Nat) (r : Nat) (h4 : r < 4) : 0 ≤ (agesOf ws M).getD r 0 ∧ (agesOf ws M).getD r 0 ≤ (M.length : Int) := by
  have h : ∀ j, 0 ≤ ageN ws M j ∧ ageN ws M j ≤ (M.length : Int) := fun j => by
    unfold ageN
    have := List.length_filter_le (fun a => ws.getD a 0 % 4 == j) M
    omega
  unfold agesOf
  match r, h4 with
  | 0, _ => simpa using h 0
  | 1, _ => simpa using h 1
  | 2, _ => simpa using h 2
  | 3, _ => simpa using h 3
theorem agesL_len (xs : List ByteArray) (z : Int) (ws : List Int) : (agesL xs z ws).length ≤ 1048576 := by
  unfold agesL
  split
  · simp [agesOf]
  · simp
theorem Ints.put {w : World} {a : Option Addr} {g : Nat} {xs : List Int} (h : Ints w a g xs) (k : Nat) (y : Int) : Ints (w.setCell ⟨g, k, none⟩ (.int .i64 y)) a g (xs.set k y) := fun i hi => by
  have hi' : i < xs.length := by simpa using hi
  obtain ⟨e, h0, h1⟩ := h i hi'
  refine ⟨e, ?_, by rw [World.frozen?_setCell]; exact h1⟩
  by_cases q : k = i
  · subst q
    rw [World.cell?_setCell_same _ _ _ h0]
    simp
  · rw [World.cell?_setCell_other _ _ _ _ (fun z => q (by simpa using congrArg Addr.off z)), h0, List.getElem_set_ne q]
theorem made4 (w : World) : Ints (madeInts w 4) (some ⟨w.heap.size, 0, none⟩) w.heap.size [0, 0, 0, 0] := fun i hi => by
  unfold madeInts
  refine ⟨rfl, ?_, World.frozen?_alloc_new _ _ _ _⟩
  rw [World.cell?_alloc_new]
  match i, hi with
  | 0, _ => simp [madeCells]
  | 1, _ => simp [madeCells]
  | 2, _ => simp [madeCells]
  | 3, _ => simp [madeCells]
theorem run_four (w : World) : (Instr.makeSlice 23 (.int .i64 4) (.int .i64 4)).run Try.prog w = .ok (.slice (some ⟨w.heap.size, 0, none⟩) 4 4) (madeInts w 4) := run_ints 4 (by omega) w
theorem ages_nil (ws : List Int) : agesOf ws [] = [0, 0, 0, 0] := rfl
theorem age_nat {ws : List Int} {a : Nat} : ∃ r : Nat, ws.getD a 0 % 4 = (r : Int) ∧ r < 4 := ⟨(ws.getD a 0 % 4).toNat, by omega, by omega⟩
set_option maxHeartbeats 2000000 in
set_option maxRecDepth 20000 in
theorem impl_ages (w : World) (a : Option Addr) (cap : Nat) (xs : List ByteArray) (z : Int) (a2 : Option Addr) (n vcap : Nat) (ws : List Int) (hx : ws.length = n) (hxn : xs.length ≤ 1048576) (hl : Strs w a xs) (hz : ∀ i (hi : i < xs.length), xs[i].size ≤ 1048576) (hn : n ≤ 1048576) (hcap : n ≤ vcap) (hv : Nums w a2 ws) (hh : ∀ x ∈ ws, x < 9223372036854775808) :
    Calls Try.prog 31 #[.slice a xs.length cap, .agg #[.int .i64 z, .slice a2 n vcap]] w fun e w' => AOut (fun s => s) (agesL xs z ws) w e w' := by
  obtain ⟨W, hW⟩ : ∃ W, W = w.alloc (.cells #[.int .i64 z, .slice a2 n vcap] 31) := ⟨_, rfl⟩
  have HW : Hid (W = w.alloc (.cells #[.int .i64 z, .slice a2 n vcap] 31)) := hW
  obtain ⟨hb0, hsz, c0, c1⟩ := box2 w z a2 n vcap W hW
  have HB0 : Hid (Below w.heap.size w W) := hb0
  have HOP : Hid (Calls _ _ _ W _) := opened_any W a cap xs z a2 n vcap ws hx hxn (hl.below hb0) hz hn hcap (hv.below hb0) hh
  have HL4 : Hid (nurB xs z ws = true → ws.length ≤ 400) := fun h => by
    have h1 := preN_facts (nurB_found h).1
    omega
  clear hW hl hv hb0 hx hh hz hsz
  go_enter Try.func31, Try.ntmps31
  go_wp2_with (rw [← HW.out])
  refine HOP.out.mono ?_
  rintro e w2 ⟨hb2, ta, tn, tc, sa, sc, mo, rfl, hnu, hlk, hgood, hle, _⟩
  obtain ⟨L, hLL⟩ : ∃ L, L = startsN xs z ws := ⟨_, rfl⟩
  rw [← hLL] at hnu hle hlk hgood ⊢
  have HLE : Hid (L = startsN xs z ws) := hLL
  obtain ⟨Y, hY⟩ : ∃ Y, Y = w2.alloc (.cells #[.slice ta tn tc, .slice sa L.length sc, .map mo] 60) := ⟨_, rfl⟩
  obtain ⟨yb, hyb⟩ : ∃ yb, yb = w2.heap.size := ⟨_, rfl⟩
  have HY : Hid (Y = w2.alloc (.cells #[.slice ta tn tc, .slice sa L.length sc, .map mo] 60)) := hY
  have HYB : Hid (yb = w2.heap.size) := hyb
  have hbY : Below w2.heap.size w2 Y := by rw [hY]; exact (Below.refl _ _).alloc (Nat.le_refl _) _
  have htY : Tri yb (.slice ta tn tc) (.slice sa L.length sc) (.map mo) Y := by rw [hY, hyb]; exact Tri.start w2 _ _ _ _
  have HBY : Hid (Below w.heap.size w Y) := (HB0.out.trans (hb2.mono HB0.out.size)).trans (hbY.mono (Nat.le_trans HB0.out.size hb2.size))
  cases hr : nurB xs z ws with
  | false =>
    have HS : Hid (agesL xs z ws = []) := by show agesL xs z ws = []; unfold agesL; rw [hr]; simp
    clear hr hb2 hY hyb hbY htY hnu hlk hgood hle hLL
    go_wp2_with (first | (rw [← HY.out, ← HYB.out]) | (rw [← HY.out]))
    go_ret
    rw [HS.out]
    exact aout_none rfl HBY.out
  | true =>
  have HS : Hid (agesL xs z ws = agesOf ws L) := by show agesL xs z ws = _; unfold agesL; rw [hr, hLL]; simp
  have HLN : Hid (L.length ≤ 400 ∧ ws.length ≤ 400) := by
    have h1 := HL4.out hr
    exact ⟨by omega, h1⟩
  have hgd : ∀ x ∈ L, x < ws.length := fun x hx => by
    obtain ⟨_, _, q, _⟩ := stepN_le (hgood x hx)
    omega
  have HGD : Hid (∀ x ∈ L, x < ws.length) := hgd
  obtain ⟨V, hV⟩ : ∃ V, V = madeInts Y 4 := ⟨_, rfl⟩
  have hmk := run_four Y
  have hbV : Below Y.heap.size Y V := by rw [hV]; exact madeInts_below Y 4
  have hiV : Ints V (some ⟨Y.heap.size, 0, none⟩) Y.heap.size (agesOf ws []) := by rw [hV, ages_nil]; exact made4 Y
  rw [← hV] at hmk
  have HIV : Hid (Ints V (some ⟨Y.heap.size, 0, none⟩) Y.heap.size (agesOf ws [])) := hiV
  have HBV : Hid (Below Y.heap.size Y V) := hbV
  have HYS : Hid (w.heap.size ≤ Y.heap.size) := HBY.out.size
  have hnY := hnu.below hbY
  have hlY := hlk.below hbY
  have HSN : Hid (∀ w', Below Y.heap.size Y w' → Nums w' sa (numsOf L)) := fun w' h => hnY.below h
  have HLK : Hid (∀ w', Below Y.heap.size Y w' → Looks w' W.heap.size (.map mo) xs ws L) := fun w' h => hlY.below h
  have HTY : Hid (∀ w', Below Y.heap.size Y w' → Tri yb (.slice ta tn tc) (.slice sa L.length sc) (.map mo) w') := fun w' h => htY.below h
  obtain ⟨t0, t1, t2, _⟩ := HTY.out V hbV
  clear hb2 hY hyb hbY hnu hnY hlk hlY hle hLL HL4 hr hgood hgd htY hV hbV hiV
  go_wp2_with (first | (rw [← HY.out, ← HYB.out]) | (rw [← HY.out]))
  clear hmk t0 t1 t2
  go_loopw [22] (fun i wr => ∃ k : Nat, k ≤ L.length ∧ i = .int .i64 (k : Int) ∧ Ints wr (some ⟨Y.heap.size, 0, none⟩) Y.heap.size (agesOf ws (L.take k)) ∧ Below Y.heap.size Y wr) (fun i _ => L.length - (intOf i).toNat)
  case atStart => exact ⟨0, Nat.zero_le _, rfl, HIV.out, HBV.out⟩
  case round =>
    obtain ⟨k, hk, rfl, hin, hb⟩ := hrel
    have HIN : Hid (Ints wr (some ⟨Y.heap.size, 0, none⟩) Y.heap.size (agesOf ws (L.take k))) := hin
    have HB : Hid (Below Y.heap.size Y wr) := hb
    clear hin hb
    by_cases hlt : k < L.length
    · have hlti : (k : Int) < (L.length : Int) := by omega
      have hk0 : (0 : Int) ≤ (k : Int) := by omega
      have hk4 : k ≤ 400 := by have := HLN.out.1; omega
      obtain ⟨b5, o5, rfl, e5⟩ := (HSN.out wr HB.out) k (by rw [numsOf_len]; exact hlt)
      rw [show (numsOf L)[k]'(by rw [numsOf_len]; exact hlt) = (L[k] : Int) by unfold numsOf; simp] at e5
      have ha' : L[k] ∈ L := List.getElem_mem hlt
      have hTK : L.take (k + 1) = L.take k ++ [L[k]] := List.take_succ_eq_append_getElem hlt
      generalize L[k] = aa at e5 hTK ha'
      obtain ⟨r, hre, hr4⟩ := age_nat (ws := ws) (a := aa)
      have HNX : Hid (agesOf ws (L.take (k + 1)) = (agesOf ws (L.take k)).set r ((agesOf ws (L.take k)).getD r 0 + 1)) := by
        show agesOf ws (L.take (k + 1)) = _
        rw [hTK]; exact ages_snoc ws _ aa r hre hr4
      obtain ⟨hy0, hy1⟩ := ages_le ws (L.take k) r hr4
      have hyk : (agesOf ws (L.take k)).getD r 0 ≤ 400 := by rw [List.length_take] at hy1; omega
      obtain ⟨g, c, hlk, _, _⟩ := (HLK.out wr HB.out).get aa ha' (by have := HGD.out aa ha'; have := HLN.out.2; omega)
      have hl1 := (hlk wr (Below.refl _ _)).1
      rw [hre] at hl1
      generalize (valsA xs ws aa).length = vl at hl1
      generalize ws.getD aa 0 / 4 = ty at hl1
      have hag := young_age (r : Int) ty (some ⟨g, 0, none⟩) vl c wr
      obtain ⟨_, d0, f0⟩ := HIN.out r (by simp [agesOf]; exact hr4)
      rw [getD_of] at d0
      generalize (agesOf ws (L.take k)).getD r 0 = y at HNX d0 hy0 hyk
      have hri : (r : Int) < 4 := by omega
      have hr0 : (0 : Int) ≤ (r : Int) := by omega
      obtain ⟨t0, t1, t2, _⟩ := HTY.out wr HB.out
      have HKN : Hid (k < L.length) := hlt
      clear hTK ha' hre hy1 hlk
      go_wp2
      go_roundw
      case rel => exact ⟨k + 1, by have := HKN.out; omega, by go_num, by rw [HNX.out]; exact Ints.put HIN.out r _, HB.out.setCell (p := ⟨Y.heap.size, r, none⟩) (Nat.le_refl _) _⟩
      case measure => have := HKN.out; simp [intOf]; omega
    · obtain rfl : k = L.length := by omega
      have hin := HIN.out
      rw [List.take_length] at hin
      have HI6 : Hid (Ints wr (some ⟨Y.heap.size, 0, none⟩) Y.heap.size (agesOf ws L)) := hin
      clear hin HIN
      go_wp2
      go_ret
      rw [HS.out]
      exact ⟨_, _, 4, rfl, HYS.out, HI6.out, HBY.out.trans (HB.out.mono HBY.out.size)⟩
end Go.Proofs.Ytngpmohmnpbcnaa.nu
