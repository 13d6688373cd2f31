/-
  The object that begins with a line of data, by the specification.
-/
import Derived.Test.YthmohmfkgoipkaaOldMath
import Derived.Test.YthmohmfkgoipkaaRoSpec
import Derived.Deep.RegionHeld3
namespace Go.Proofs.Ythmohmfkgoipkaa.img
open Go.RowKit
open kinds ints wmath num obj ref later

def objLB (xs : List ByteArray) (s : ByteArray) (L : Nat) : Bool := decide (64 * (L + runL xs s L) ≤ s.size) && roB xs (subL s L (runL xs s L))
theorem objLB_mark {xs : List ByteArray} {s : ByteArray} {L : Nat} (h : markT xs s L = false) : objLB xs s L = false := by
  cases ho : objLB xs s L with
  | false => rfl
  | true =>
    unfold objLB at ho
    rw [Bool.and_eq_true] at ho
    have hs := of_decide_eq_true ho.1
    have h3 := run_three ho.2 hs
    rw [(ro_run h3.1 hs ho.2).2] at h
    cases h
set_option maxHeartbeats 2000000 in
set_option maxRecDepth 20000 in
theorem l10Obj_any (w : World) (n1 n2 n3 : Int) (a : Option Addr) (cap : Nat) (xs : List ByteArray) (s : ByteArray) (L : Nat) (hs : s.size ≤ 8192) (hn : xs.length ≤ 1048576) (hl : Strs w a xs) (hz : ∀ i (hi : i < xs.length), xs[i].size ≤ 1048576) (hL : 64 * L + 64 ≤ s.size) :
    Calls Try.prog 45 #[.agg #[.int .i64 n1, .int .i64 n2, .int .i64 n3, .slice a xs.length cap], .string s, .int .i64 (L : Int)] w fun e w' => OoAns (if objLB xs s L = true then roT xs (subL s L (runL xs s L)) else 0) (if objLB xs s L = true then roV xs (subL s L (runL xs s L)) else []) (objLB xs s L) w e w' ∧ Below w.heap.size w w' := by
  obtain ⟨V, hV⟩ : ∃ V, V = w.alloc (.cells #[.int .i64 n1, .int .i64 n2, .int .i64 n3, .slice a xs.length cap] 29) := ⟨_, rfl⟩
  have hv0 : Below w.heap.size w V := by rw [hV]; exact (Below.refl _ _).alloc (Nat.le_refl _) _
  have hbv : Box4 w.heap.size n1 n2 n3 (.slice a xs.length cap) V := by rw [hV]; exact Box4.start _ _ _ _ _ _
  obtain ⟨W, hW⟩ : ∃ W, W = V.alloc (.cells #[.int .i64 0, .slice none 0 0] 37) := ⟨_, rfl⟩
  have hp0 : Pair V W := by rw [hW]; exact Pair.start V _
  have hvw : Below V.heap.size V W := by rw [hW]; exact (Below.refl _ _).alloc (Nat.le_refl _) _
  have hbx := hbv.below hvw
  have HV : Hid (V = w.alloc (.cells #[.int .i64 n1, .int .i64 n2, .int .i64 n3, .slice a xs.length cap] 29)) := hV
  have HW : Hid (W = V.alloc (.cells #[.int .i64 0, .slice none 0 0] 37)) := hW
  have HVS : Hid (V.heap.size = w.heap.size + 1) := by show V.heap.size = _; rw [hV]; simp
  have HPR : Hid (Pair V W) := hp0
  have HVB : Hid (Below w.heap.size w V) := hv0
  have HK : Hid (∀ w', Below W.heap.size W w' → w'.cell? ⟨w.heap.size, 3, none⟩ = some (.slice a xs.length cap)) := fun w' h => (hbx.below h).c3
  have hlW : Strs W a xs := (hl.below hv0).below hvw
  have HLW : Hid (∀ w', Below W.heap.size W w' → Strs w' a xs) := fun w' h => hlW.below h
  have HWD : Hid (∀ w, Calls _ _ _ w _) := fun w => l9Word_any w s (8 * L) (by omega) (by omega)
  have hcast : ((8 * L : Nat) : Int) = 8 * (L : Int) := by omega
  rw [hcast, show 8 * (8 * L) = 64 * L by omega] at HWD
  have HIN : Hid (∀ w, Calls _ _ _ w _) := fun w => specIn_any w (wAt s (64 * L)) 1 (xs.length : Int)
  have HMT : Hid (markT xs s L = (decide (1 ≤ wAt s (64 * L)) && decide (wAt s (64 * L) ≤ (xs.length : Int)))) := rfl
  rw [← HMT.out] at HIN
  have HNO : Hid (∀ {w' : World} {e : Ending}, objLB xs s L = false → e = .returned (.tuple #[.agg #[.int .i64 0, .slice none 0 0], .bool false]) → Below w.heap.size w w' → OoAns (if objLB xs s L = true then roT xs (subL s L (runL xs s L)) else 0) (if objLB xs s L = true then roV xs (subL s L (runL xs s L)) else []) (objLB xs s L) w e w' ∧ Below w.heap.size w w') := fun hf he hb => by
    rw [hf]
    exact ⟨oo_no he hb, hb⟩
  have HOM : Hid (markT xs s L = false → objLB xs s L = false) := objLB_mark
  have HPT : Hid (∀ x0 x1, Below w.heap.size w ((W.setCell ⟨w.heap.size + 1, 0, none⟩ x0).setCell ⟨w.heap.size + 1, 1, none⟩ x1)) := fun x0 x1 => by
    have h1 := hp0.put x0 x1
    rw [HVS.out] at h1
    exact hv0.trans (h1.mono (by omega))
  generalize hrt : (if objLB xs s L = true then roT xs (subL s L (runL xs s L)) else 0) = rt at HNO ⊢
  generalize hrv : (if objLB xs s L = true then roV xs (subL s L (runL xs s L)) else []) = rv at HNO ⊢
  generalize hob : objLB xs s L = ob at HNO ⊢
  have HRT : Hid (rt = if objLB xs s L = true then roT xs (subL s L (runL xs s L)) else 0) := hrt.symm
  have HRV : Hid (rv = if objLB xs s L = true then roV xs (subL s L (runL xs s L)) else []) := hrv.symm
  have HOBE : Hid (ob = objLB xs s L) := hob.symm
  clear hcast hV hv0 hbv hW hp0 hvw hbx hl hrt hrv hob
  cases hm : markT xs s L with
  | false =>
    rw [hm] at HIN
    have HF : Hid (ob = false) := by show ob = false; rw [HOBE.out, HOM.out hm]
    generalize wAt s (64 * L) = T at HWD HIN
    clear hm hlW hz HMT HRT HRV
    have m3 := HK.out W (Below.refl _ _)
    have v0 := HPR.out.cell 0 _ rfl
    have v1 := HPR.out.cell 1 _ rfl
    have z0 := HPR.out.free 0
    have z1 := HPR.out.free 1
    rw [HVS.out] at v0 v1 z0 z1
    have HC2 : Hid (∀ x0 x1, _) := pair_set v0 v1
    go_enter Try.func45, Try.ntmps45
    go_wp2_with fail
    rw [← HV.out, ← HW.out]
    refine (HWD.out _).mono ?_
    rintro e w1 ⟨rfl, rfl⟩
    go_wp2_with fail
    refine (HIN.out _).mono ?_
    rintro e w1 ⟨rfl, rfl⟩
    go_wp2
    refine bodyPost_ret (v := .tuple #[.agg #[.int .i64 0, .slice none 0 0], .bool false]) ?_ rfl (HNO.out HF.out rfl (HPT.out _ _))
    obtain ⟨q0, q1⟩ := HC2.out (.int .i64 0) (.slice none 0 0)
    simp [results, Try.results45, go_sem, q0, q1]
  | true =>
    rw [hm] at HIN
    have hm2 := hm
    unfold markT at hm2
    simp at hm2
    obtain ⟨p, hp⟩ := Int.eq_ofNat_of_zero_le (show 0 ≤ wAt s (64 * L) - 1 by omega)
    have hpl : p < xs.length := by omega
    have hkd : kd xs (wAt s (64 * L) - 1) = xs[p] := by rw [hp]; exact kd_at p hpl
    have hT : wAt s (64 * L) = (p : Int) + 1 := by omega
    have HRL : Hid ((runL xs s L : Int) = runOf xs[p]) := by
      show (runL xs s L : Int) = runOf xs[p]
      have := runOf_ge xs[p]
      unfold runL
      rw [hkd]
      omega
    have hr3 : runOf xs[p] ≤ 1048576 := by
      unfold runOf
      split
      · have := isType_size (by assumption : isType xs[p] = true); omega
      · omega
    have HRU : Hid (∀ w, Calls _ _ _ w _) := fun w => spec_run xs[p] w (hz p hpl)
    have HRE : Hid (∀ w', Below W.heap.size W w' → Calls _ _ _ w' _) := fun w' h => spec_readobj w' a cap xs (subL s L (runL xs s L)) hn hz (hlW.below h) (by unfold subL; rw [ByteArray.size_extract]; omega)
    have HSU : Hid (subL s L (runL xs s L) = s.extract (64 * L) (64 * (L + runL xs s L))) := rfl
    rw [HSU.out] at HRE
    have HOB : Hid (objLB xs s L = (decide (64 * (L + runL xs s L) ≤ s.size) && roB xs (subL s L (runL xs s L)))) := rfl
    rw [← HRL.out] at HRU
    have hrb : runL xs s L ≤ 1048576 := by have := HRL.out; omega
    rw [hT] at HWD HIN
    obtain ⟨b3, o3, hae, d0⟩ := hlW p hpl
    subst hae
    generalize runL xs s L = rn at HRU HRE HSU HOB hrb HRT HRV
    generalize xs[p] = sp at HRU d0
    have m3 := HK.out W (Below.refl _ _)
    have hpi : (p : Int) < (xs.length : Int) := by omega
    have hpe : (p : Int) + 1 - 1 = (p : Int) := by omega
    clear hm hm2 hp hkd hT HRL hr3 hlW hz HMT HOM
    have v0 := HPR.out.cell 0 _ rfl
    have v1 := HPR.out.cell 1 _ rfl
    have z0 := HPR.out.free 0
    have z1 := HPR.out.free 1
    rw [HVS.out] at v0 v1 z0 z1
    have HC2 : Hid (∀ x0 x1, _) := pair_set v0 v1
    by_cases hfit : 64 * (L + rn) ≤ s.size
    · rw [decide_eq_true hfit] at HOB
      have hnf : ¬ ((s.size : Int) < 64 * ((L : Int) + (rn : Int))) := by omega
      have hacc : Below W.heap.size W W.drew := (Below.refl _ _).drew
      obtain ⟨A, hA⟩ : ∃ A, A = 64 * L := ⟨_, rfl⟩
      obtain ⟨D, hD⟩ : ∃ D, D = 64 * (L + rn) := ⟨_, rfl⟩
      rw [← hA, ← hD] at HRE HSU
      have hwl : IntKind.i64.wrap (64 * (L : Int)) = (A : Int) := by rw [IntKind.wrap_i64]; omega
      have HDI : Hid (64 * ((L : Int) + (rn : Int)) = (D : Int)) := by show 64 * ((L : Int) + (rn : Int)) = (D : Int); omega
      have ho1 : (0 : Int) ≤ (A : Int) := by omega
      have ho2 : (A : Int) ≤ (D : Int) := by omega
      have ho3 : (D : Int) ≤ (s.size : Int) := by omega
      have HK2 : Hid (∀ w' x0 x1, Below W.heap.size W w' → ((w'.setCell ⟨w.heap.size + 1, 0, none⟩ x0).setCell ⟨w.heap.size + 1, 1, none⟩ x1).cell? ⟨w.heap.size, 3, none⟩ = some (.slice (some ⟨b3, o3, none⟩) xs.length cap)) := fun w' x0 x1 h => by
        rw [World.cell?_setCell_other _ _ _ _ (fun e => by have := congrArg Addr.block e; simp at this), World.cell?_setCell_other _ _ _ _ (fun e => by have := congrArg Addr.block e; simp at this)]
        exact HK.out w' h
      have HOB2 : Hid (ob = roB xs (s.extract A D)) := by show ob = _; rw [HOBE.out, HOB.out, Bool.true_and, HSU.out]
      have HRT2 : Hid (rt = roT xs (s.extract A D)) := by
        show rt = _
        rw [HRT.out, HOB.out, Bool.true_and, HSU.out]
        by_cases hb : roB xs (s.extract A D) = true
        · rw [if_pos hb]
        · rw [if_neg hb]
          unfold roT
          rw [if_neg hb]
      have HRV2 : Hid (rv = roV xs (s.extract A D)) := by
        show rv = _
        rw [HRV.out, HOB.out, Bool.true_and, HSU.out]
        by_cases hb : roB xs (s.extract A D) = true
        · rw [if_pos hb]
        · rw [if_neg hb]
          unfold roV
          rw [if_neg hb]
      have HROA : Hid (∀ w' e w'', RoAns xs (s.extract A D) w' e w'' → ∃ v, e = .returned (.tuple #[.agg #[.int .i64 rt, v], .bool ob]) ∧ w''.ownsRow w'.heap.size 2 1 v rv.length (rv.map (Value.int .i64)) ∧ Below w'.heap.size w' w'') := fun w' e w'' h => by
        rw [HRT2.out, HRV2.out, HOB2.out]
        exact h
      have HRE2 : Hid (∀ w', Below W.heap.size W w' → Calls Try.prog 57 #[.slice (some ⟨b3, o3, none⟩) xs.length cap, .string (s.extract A D)] w' fun e w'' => ∃ v, e = .returned (.tuple #[.agg #[.int .i64 rt, v], .bool ob]) ∧ w''.ownsRow w'.heap.size 2 1 v rv.length (rv.map (Value.int .i64)) ∧ Below w'.heap.size w' w'') := fun w' h => (HRE.out w' h).mono fun e w'' q => HROA.out w' e w'' q
      clear v0 v1 z0 z1 HC2 hA hD HRE HSU HOB2 HRT2 HRV2 HROA HOB HOBE HRT HRV
      go_enter Try.func45, Try.ntmps45
      go_wp2_with fail
      rw [← HV.out, ← HW.out]
      refine (HWD.out _).mono ?_
      rintro e w1 ⟨rfl, rfl⟩
      go_wp2_with fail
      refine (HIN.out _).mono ?_
      rintro e w1 ⟨rfl, rfl⟩
      go_wp2_with fail
      refine (HRU.out _).mono ?_
      rintro e w1 ⟨rfl, rfl⟩
      go_wp2_with fail
      rw [HDI.out]
      go_region_held3 (fun w' => w'.cell? ⟨w.heap.size, 3, none⟩ = some (.slice (some ⟨b3, o3, none⟩) xs.length cap)) (first | with_reducible exact HK.out _ hacc | with_reducible exact HK2.out _ _ _ hacc)
        (first | (go_at_call 57; refine (HRE2.out _ hacc).mono ?_; rintro e wR ⟨v, rfl, hown, hbX⟩; have hown2 := own_mono hown hacc.size; obtain ⟨aR, gR, cR, rfl, hlo, hin⟩ := ints_of_row hown; have hac2 : Below W.heap.size W wR := hacc.trans (hbX.mono hacc.size); clear hacc hbX hown hlo hin; have hacc := hac2; clear hac2; have v0 := (HPR.out.later hacc).cell 0 _ rfl; have v1 := (HPR.out.later hacc).cell 1 _ rfl; have z0 := (HPR.out.later hacc).free 0; have z1 := (HPR.out.later hacc).free 1; rw [HVS.out] at v0 v1 z0 z1))
      all_goals
        have HPR2 : Hid (Pair V wR) := HPR.out.later hacc
        have HO2 : Hid (wR.ownsRow W.heap.size 2 1 (.slice aR rv.length cR) rv.length (rv.map (Value.int .i64))) := hown2
        have HC2 : Hid (∀ x0 x1, _) := pair_set v0 v1
        clear hacc hown2 v0 v1 z0 z1
        have HWL : Hid (w.heap.size + 1 < W.heap.size) := by have h1 := HPR.out.lt; rw [HVS.out] at h1; exact h1
        have HBE : Hid (Below w.heap.size w ((wR.setCell ⟨w.heap.size + 1, 0, none⟩ (.int .i64 rt)).setCell ⟨w.heap.size + 1, 1, none⟩ (.slice aR rv.length cR))) := by
          have h1 := HPR2.out.put (.int .i64 rt) (.slice aR rv.length cR)
          rw [HVS.out] at h1
          exact HVB.out.trans (h1.mono (by omega))
        go_wp2
        refine bodyPost_ret (v := .tuple #[.agg #[.int .i64 rt, .slice aR rv.length cR], .bool ob]) ?_ rfl ⟨⟨.slice aR rv.length cR, rfl, own_mono (row_aside (row_aside HO2.out HWL.out) HWL.out) (by have := HWL.out; omega), HBE.out⟩, HBE.out⟩
        obtain ⟨q0, q1⟩ := HC2.out (.int .i64 rt) (.slice aR rv.length cR)
        simp [results, Try.results45, go_sem, q0, q1]
    · have hnf : (s.size : Int) < 64 * ((L : Int) + (rn : Int)) := by omega
      have HF : Hid (ob = false) := by show ob = false; rw [HOBE.out, HOB.out, decide_eq_false hfit, Bool.false_and]
      go_enter Try.func45, Try.ntmps45
      go_wp2_with fail
      rw [← HV.out, ← HW.out]
      refine (HWD.out _).mono ?_
      rintro e w1 ⟨rfl, rfl⟩
      go_wp2_with fail
      refine (HIN.out _).mono ?_
      rintro e w1 ⟨rfl, rfl⟩
      go_wp2_with fail
      refine (HRU.out _).mono ?_
      rintro e w1 ⟨rfl, rfl⟩
      go_wp2
      refine bodyPost_ret (v := .tuple #[.agg #[.int .i64 0, .slice none 0 0], .bool false]) ?_ rfl (HNO.out HF.out rfl (HPT.out _ _))
      obtain ⟨q0, q1⟩ := HC2.out (.int .i64 0) (.slice none 0 0)
      simp [results, Try.results45, go_sem, q0, q1]
end Go.Proofs.Ythmohmfkgoipkaa.img
