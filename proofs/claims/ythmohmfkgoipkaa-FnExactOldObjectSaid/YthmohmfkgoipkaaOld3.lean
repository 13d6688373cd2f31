/-
  The object that begins with a line, by the program: whatever it names (anyAt), and naming lines of data alone (objectAt).
-/
import Derived.Test.YthmohmfkgoipkaaOld2
import Derived.Test.YthmohmfkgoipkaaOlds4
import Derived.Test.YthmohmfkgoipkaaRoImpl
import Derived.Deep.Cut
import Derived.Deep.CutRange
import Derived.Deep.DeepCutAuto
namespace Go.Proofs.Ythmohmfkgoipkaa.img
open Go.RowKit
open kinds ints wmath num obj ref later

/-- Is there an object at the line, whatever it names? -/
def anyB (xs : List ByteArray) (s : ByteArray) (L : Nat) : Bool := decide (64 * (L + runL xs s L) ≤ s.size) && roB xs (subL s L (runL xs s L))
theorem any_line (n1 n2 : Int) (xs : List ByteArray) (s : ByteArray) (L : Nat) : lineB n1 n2 xs s L = (anyB xs s L && allOldL n1 n2 (refsE xs s L (runL xs s L))) := by
  unfold lineB anyB oldAt
  rw [Bool.and_assoc]
theorem any_yes {xs : List ByteArray} {s : ByteArray} {L e : Nat} (h1 : 1 ≤ e) (h : 64 * (L + e) ≤ s.size) (ho : roB xs (subL s L e) = true) : anyB xs s L = true ∧ runL xs s L = e := by
  obtain ⟨he, _⟩ := ro_run h1 h ho
  refine ⟨?_, he.symm⟩
  unfold anyB
  rw [← he, decide_eq_true h, ho]
  rfl
theorem any_no {n1 : Int} {xs : List ByteArray} {s : ByteArray} {L E : Nat} (hsz : (s.size : Int) = 64 * n1) (hE : (E : Int) > (L : Int) + 3 ∨ (E : Int) > n1) (hf : ∀ e, 1 ≤ e → L + e < E → roB xs (subL s L e) = false) : anyB xs s L = false := by
  cases hb : anyB xs s L with
  | false => rfl
  | true =>
    have hb2 := hb
    unfold anyB at hb2
    rw [Bool.and_eq_true] at hb2
    have hfit := of_decide_eq_true hb2.1
    have ho := hb2.2
    have h3 := run_three ho hfit
    rw [hf (runL xs s L) h3.1 (by omega)] at ho
    cases ho
theorem any_known {xs : List ByteArray} {s : ByteArray} {L : Nat} (h : anyB xs s L = true) : roB xs (subL s L (runL xs s L)) = true := by
  unfold anyB at h
  rw [Bool.and_eq_true] at h
  exact h.2
set_option maxHeartbeats 4000000 in
set_option maxRecDepth 20000 in
theorem anyAt_any (w : World) (n1 n2 n3 : Int) (a : Option Addr) (cap : Nat) (xs : List ByteArray) (s : ByteArray) (L : Nat) (h1 : 8 ≤ n1) (h2 : n1 ≤ 128) (hn : xs.length ≤ 1048576) (hl : Strs w a xs) (hz : ∀ i (hi : i < xs.length), xs[i].size ≤ 1048576) (hsz : (s.size : Int) = 64 * n1) (hd : dataB n1 n2 (L : Int) = true) :
    Calls Try.prog 46 #[.agg #[.int .i64 n1, .int .i64 n2, .int .i64 n3, .slice a xs.length cap, .string s, .int .i64 (4 + n2)], .int .i64 (L : Int)] w fun e w' => OoAns (if anyB xs s L = true then roT xs (subL s L (runL xs s L)) else 0) (if anyB xs s L = true then roV xs (subL s L (runL xs s L)) else []) (anyB xs s L) w e w' ∧ Below w.heap.size w w' := by
  obtain ⟨V, hV⟩ : ∃ V, V = w.alloc (.cells #[.int .i64 n1, .int .i64 n2, .int .i64 n3, .slice a xs.length cap, .string s, .int .i64 (4 + n2)] 49) := ⟨_, rfl⟩
  have hv0 : Below w.heap.size w V := by rw [hV]; exact (Below.refl _ _).alloc (Nat.le_refl _) _
  have hbv : Box6 w.heap.size n1 n2 n3 (.slice a xs.length cap) (.string s) (.int .i64 (4 + n2)) V := by rw [hV]; exact Box6.start _ _ _ _ _ _ _ _
  obtain ⟨W, hW⟩ : ∃ W, W = V.alloc (.cells #[.int .i64 0, .slice none 0 0] 37) := ⟨_, rfl⟩
  have hp0 : Pair V W := by rw [hW]; exact Pair.start V _
  have hvw : Below V.heap.size V W := by rw [hW]; exact (Below.refl _ _).alloc (Nat.le_refl _) _
  have hbx := hbv.below hvw
  have HV : Hid (V = w.alloc (.cells #[.int .i64 n1, .int .i64 n2, .int .i64 n3, .slice a xs.length cap, .string s, .int .i64 (4 + n2)] 49)) := hV
  have HW : Hid (W = V.alloc (.cells #[.int .i64 0, .slice none 0 0] 37)) := hW
  have HVS : Hid (V.heap.size = w.heap.size + 1) := by show V.heap.size = _; rw [hV]; simp
  have HWL : Hid (w.heap.size + 1 < W.heap.size) := by have h1 := hp0.lt; rw [HVS.out] at h1; exact h1
  have HK : Hid (∀ w', Below W.heap.size W w' → Box6 w.heap.size n1 n2 n3 (.slice a xs.length cap) (.string s) (.int .i64 (4 + n2)) w') := fun w' h => hbx.below h
  have hlW : Strs W a xs := (hl.below hv0).below hvw
  have HPT : Hid (∀ wX x0 x1, Below W.heap.size W wX → Below w.heap.size w ((wX.setCell ⟨w.heap.size + 1, 0, none⟩ x0).setCell ⟨w.heap.size + 1, 1, none⟩ x1) ∧ ((wX.setCell ⟨w.heap.size + 1, 0, none⟩ x0).setCell ⟨w.heap.size + 1, 1, none⟩ x1).cell? ⟨w.heap.size + 1, 0, none⟩ = some x0 ∧ ((wX.setCell ⟨w.heap.size + 1, 0, none⟩ x0).setCell ⟨w.heap.size + 1, 1, none⟩ x1).cell? ⟨w.heap.size + 1, 1, none⟩ = some x1) := fun wX x0 x1 h => by
    have h1 := (hp0.later h).put x0 x1
    have e0 := (hp0.later h).cell 0 _ rfl
    have e1 := (hp0.later h).cell 1 _ rfl
    have h2 := pair_set e0 e1 x0 x1
    rw [HVS.out] at h1 h2
    exact ⟨hv0.trans (h1.mono (by omega)), h2.1, h2.2⟩
  have HFR : Hid (∀ wX, Below W.heap.size W wX → (∃ v, wX.cell? ⟨w.heap.size + 1, 0, none⟩ = some v) ∧ (∃ v, wX.cell? ⟨w.heap.size + 1, 1, none⟩ = some v) ∧ wX.frozen? ⟨w.heap.size + 1, 0, none⟩ = false ∧ wX.frozen? ⟨w.heap.size + 1, 1, none⟩ = false) := fun wX h => by
    have e0 := (hp0.later h).cell 0 _ rfl
    have e1 := (hp0.later h).cell 1 _ rfl
    have f0 := (hp0.later h).free 0
    have f1 := (hp0.later h).free 1
    rw [HVS.out] at e0 e1 f0 f1
    exact ⟨⟨_, e0⟩, ⟨_, e1⟩, f0, f1⟩
  have hLn : (L : Int) + 1 ≤ n1 := by
    unfold dataB at hd
    simp at hd
    omega
  have HDA : Hid (∀ w, Calls Try.prog 41 #[.agg #[.int .i64 n1, .int .i64 n2, .int .i64 n3, .slice a xs.length cap, .string s, .int .i64 (4 + n2)], .int .i64 (L : Int)] w fun e w' => e = .returned (.bool true) ∧ Below w.heap.size w w') := fun w => (isData_any w n1 n2 n3 (4 + n2) (L : Int) a xs.length cap s h1 h2).mono fun e w' h => by
    unfold dataB at hd
    rw [hd] at h
    exact h
  have HRD : Hid (∀ (E : Nat) w', Below W.heap.size W w' → Calls Try.prog 58 #[.slice a xs.length cap, .string (s.extract (L * 64) (E * 64))] w' fun e w'' => OoAns (roT xs (s.extract (L * 64) (E * 64))) (roV xs (s.extract (L * 64) (E * 64))) (roB xs (s.extract (L * 64) (E * 64))) w' e w'') := fun E w' h => impl_readobj w' a cap xs (s.extract (L * 64) (E * 64)) hn hz (hlW.below h) (by rw [ByteArray.size_extract]; omega)
  have HSE : Hid (∀ e : Nat, s.extract (L * 64) ((L + e) * 64) = subL s L e) := fun e => by show s.extract (L * 64) ((L + e) * 64) = subL s L e; unfold subL; rw [Nat.mul_comm L 64, Nat.mul_comm (L + e) 64]
  have HLN : Hid (∀ E : Nat, (E : Int) > (L : Int) + 3 ∨ (E : Int) > n1 → (∀ e, 1 ≤ e → L + e < E → roB xs (subL s L e) = false) → anyB xs s L = false) := fun E q1 q2 => any_no hsz q1 q2
  have HLY : Hid (∀ e : Nat, 1 ≤ e → 64 * (L + e) ≤ s.size → roB xs (subL s L e) = true → anyB xs s L = true ∧ runL xs s L = e) := fun e q1 q2 q3 => any_yes q1 q2 q3
  generalize hrt : (if anyB xs s L = true then roT xs (subL s L (runL xs s L)) else 0) = rt
  generalize hrv : (if anyB xs s L = true then roV xs (subL s L (runL xs s L)) else []) = rv
  generalize hob : anyB xs s L = ob at HLN HLY ⊢
  rw [hob] at hrt hrv
  have HRT : Hid (rt = if ob = true then roT xs (subL s L (runL xs s L)) else 0) := hrt.symm
  have HRV : Hid (rv = if ob = true then roV xs (subL s L (runL xs s L)) else []) := hrv.symm
  have HSI : Hid ((s.size : Int) = 64 * n1) := hsz
  obtain ⟨f, hf⟩ : ∃ f, f = 4 + n2 := ⟨_, rfl⟩
  rw [← hf] at HV HK HDA ⊢
  clear hV hv0 hbv hW hp0 hvw hbx hl hrt hrv hob hlW hd hf hsz hz
  go_enter Try.func46, Try.ntmps46
  obtain ⟨m0, m1, m2, m3, m4, m5⟩ := HK.out W (Below.refl _ _)
  go_wp2_with fail
  rw [← HV.out, ← HW.out]
  refine (HDA.out _).mono ?_
  rintro e w1 ⟨rfl, hb1⟩
  have HB1 : Hid (Below W.heap.size W w1) := hb1
  clear m0 m1 m2 m3 m4 m5 hb1
  go_wp2
  go_loopw [6] (fun i wr => ∃ E : Nat, L < E ∧ (E : Int) ≤ n1 + 1 ∧ E ≤ L + 4 ∧ i = .int .i64 (E : Int) ∧ (∀ e, 1 ≤ e → L + e < E → roB xs (subL s L e) = false) ∧ Below W.heap.size W wr) (fun i _ => L + 5 - (intOf i).toNat)
  case atStart => exact ⟨L + 1, by omega, by omega, by omega, by go_num, fun e q1 q2 => by omega, HB1.out⟩
  case round =>
    obtain ⟨E, hLE, hEn, hE4, rfl, hfl, hb⟩ := hrel
    have HB : Hid (Below W.heap.size W wr) := hb
    have HFL : Hid (∀ e, 1 ≤ e → L + e < E → roB xs (subL s L e) = false) := hfl
    clear hb hfl
    have hbx := HK.out wr HB.out
    have m0 := hbx.c0
    have m3 := hbx.c3
    have m4 := hbx.c4
    by_cases hm : (L : Int) + 3 ≤ n1
    · have HWAY : Hid True := trivial
      by_cases hin : (E : Int) ≤ (L : Int) + 3
      · have HIN : Hid True := trivial
        have hsb : (E : Int) * 64 ≤ (s.size : Int) := by have := HSI.out; omega
        have hlo : (L : Int) * 64 ≤ (E : Int) * 64 := by omega
        obtain ⟨e, he⟩ : ∃ e, E = L + e := ⟨E - L, by omega⟩
        have he1 : 1 ≤ e := by omega
        have hfit : 64 * (L + e) ≤ s.size := by omega
        obtain ⟨A, hA⟩ : ∃ A, A = L * 64 := ⟨_, rfl⟩
        obtain ⟨D, hD⟩ : ∃ D, D = E * 64 := ⟨_, rfl⟩
        have hwA : IntKind.i64.wrap ((L : Int) * 64) = (A : Int) := by rw [IntKind.wrap_i64]; omega
        have hwD : IntKind.i64.wrap ((E : Int) * 64) = (D : Int) := by rw [IntKind.wrap_i64]; omega
        have hDs : (D : Int) ≤ (s.size : Int) := by omega
        have hAD : (A : Int) ≤ (D : Int) := by omega
        have hA0 : (0 : Int) ≤ (A : Int) := by omega
        have hD0 : (0 : Int) ≤ (D : Int) := by omega
        have hsu : s.extract A D = subL s L e := by rw [hA, hD, he]; exact HSE.out e
        have HEE : Hid (E = L + e) := he
        have HRO : Hid (∀ w', Below W.heap.size W w' → Calls Try.prog 58 #[.slice a xs.length cap, .string (s.extract A D)] w' fun e' w'' => OoAns (roT xs (subL s L e)) (roV xs (subL s L e)) (roB xs (subL s L e)) w' e' w'') := fun w' h => by
          have h1 := HRD.out E w' h
          rw [← hA, ← hD, hsu] at h1
          rw [hsu]
          exact h1
        have HYE : Hid (roB xs (subL s L e) = true → ob = true ∧ runL xs s L = e) := fun q => HLY.out e he1 hfit q
        have HRTE : Hid (runL xs s L = e → ob = true → rt = roT xs (subL s L e) ∧ rv = roV xs (subL s L e)) := fun q1 q2 => by
          have h1 := HRT.out
          have h2 := HRV.out
          rw [q1, q2] at h1 h2
          rw [h1, h2]
          exact ⟨if_pos rfl, if_pos rfl⟩
        have HNX : Hid (roB xs (subL s L e) = false → ∀ e', 1 ≤ e' → L + e' < E + 1 → roB xs (subL s L e') = false) := fun q e' q1 q2 => by
          by_cases q3 : e' = e
          · rw [q3]; exact q
          · exact HFL.out e' q1 (by have := HEE.out; omega)
        clear he he1 hfit hsu hA hD hsb hlo
        generalize hrbe : roB xs (subL s L e) = rb at HRO HYE HNX
        generalize roT xs (subL s L e) = t at HRO HRTE
        generalize roV xs (subL s L e) = us at HRO HRTE
        clear hrbe
        obtain ⟨n, hnn⟩ : ∃ n, n = us.length := ⟨_, rfl⟩
        have HNL : Hid (us.length = n) := hnn.symm
        clear hnn
        have HCUA : Hid (∀ w', Below wr.heap.size wr w' → Below W.heap.size W w') := fun w' h => HB.out.trans (h.mono HB.out.size)
        have HCK : Hid (∀ w', Below wr.heap.size wr w' → w'.cell? ⟨w.heap.size, 3, none⟩ = some (.slice a xs.length cap) ∧ w'.cell? ⟨w.heap.size, 4, none⟩ = some (.string s)) := fun w' h => ⟨(HK.out _ (HCUA.out _ h)).c3, (HK.out _ (HCUA.out _ h)).c4⟩
        have hacc : Below wr.heap.size wr wr.drew := (Below.refl _ _).drew
        have HZ1 : Hid (Below wr.heap.size wr (wr.alloc (.cells #[.int .i64 0, .slice none 0 0] 37)).drew) := ((Below.refl _ _).alloc (Nat.le_refl _) _).drew
        have HZ2 : Hid (Pair wr (wr.alloc (.cells #[.int .i64 0, .slice none 0 0] 37)).drew) := (Pair.start wr _).later (Below.refl _ _).drew
        go_upto_region 6 with fail
        go_cut [7, 8] (fun p b wx => ∃ (B : Nat) (aR : Option Addr) (gR cR : Nat), p = .pointer (some ⟨B, 0, none⟩) ∧ b = .bool rb ∧ OVar B t aR gR n cR us wx ∧ wx.ownsRow wr.heap.size 2 1 (.slice aR n cR) us.length (us.map (Value.int .i64)) ∧ Below wr.heap.size wr wx)
        case first =>
          go_region_held3 (fun w' => w'.cell? ⟨w.heap.size, 3, none⟩ = some (.slice a xs.length cap) ∧ w'.cell? ⟨w.heap.size, 4, none⟩ = some (.string s)) (first | with_reducible exact HCK.out _ hacc | with_reducible exact HCK.out _ HZ1.out | with_reducible exact HCK.out _ (hacc.alloc hacc.size _) | with_reducible exact HCK.out _ ((hacc.setCell (p := ⟨wr.heap.size, 0, none⟩) (Nat.le_refl _) _).setCell (p := ⟨wr.heap.size, 1, none⟩) (Nat.le_refl _) _))
            (first | (go_at_call 58; refine (HRO.out _ (HCUA.out _ HZ1.out)).mono ?_; intro eR wR hoo; obtain ⟨aR, gR, cR, rfl, hgX, hinR, hownR, hbX⟩ := oo_open hoo; clear hoo hacc; have hacc : Below wr.heap.size wr wR := HZ1.out.trans (hbX.mono HZ1.out.size); have hgT := Nat.lt_of_lt_of_le HZ2.out.lt hgX; have hPR := HZ2.out.later hbX; clear hbX hgX; have v0 := hPR.cell 0 _ rfl; have v1 := hPR.cell 1 _ rfl; have z0 := hPR.free 0; have z1 := hPR.free 1; rw [HNL.out]) | (go_at_call 58; refine (HRO.out _ (HCUA.out _ hacc)).mono ?_; intro eR wR hoo; obtain ⟨aR, gR, cR, rfl, hgX, hinR, hownR, hbX⟩ := oo_open hoo; have hac2 : Below wr.heap.size wr wR := hacc.trans (hbX.mono hacc.size); clear hoo; clear hacc; have hacc := hac2; clear hac2 hbX hgX; rw [HNL.out]))
          all_goals
            go_wp2_with fail
            go_meet
            rw [HNL.out] at hownR
            first
              | exact ⟨_, aR, gR, cR, rfl, rfl, ovar_put hPR hinR hgT HNL.out, by rw [HNL.out]; exact own_mono (row_aside (row_aside hownR HZ2.out.lt) HZ2.out.lt) (Nat.le_of_lt HZ2.out.lt), (hacc.setCell (p := ⟨wr.heap.size, 0, none⟩) (Nat.le_refl _) _).setCell (p := ⟨wr.heap.size, 1, none⟩) (Nat.le_refl _) _⟩
              | exact ⟨_, aR, gR, cR, rfl, rfl, OVar.start wR t aR gR n cR us _ HNL.out hinR, by rw [HNL.out]; exact own_mono (own_below hownR ((Below.refl _ _).alloc (Nat.le_refl _) _)) (by simp), hacc.alloc hacc.size _⟩
        case rest =>
          obtain ⟨B1, aR, gR, cR, rfl, rfl, hV1, hown1, hU⟩ := hcut
          have HV1 : Hid (OVar B1 t aR gR n cR us wc) := hV1
          have HOW : Hid (wc.ownsRow wr.heap.size 2 1 (.slice aR n cR) us.length (us.map (Value.int .i64))) := hown1
          have HB4 : Hid (Below W.heap.size W wc) := HCUA.out _ hU
          clear hV1 hown1 hU hacc m0 m3 m4 hbx
          cases rb with
          | false =>
            go_wp2
            go_roundw
            case rel => exact ⟨E + 1, by omega, by omega, by omega, by go_num, HNX.out rfl, HB4.out⟩
            case measure => simp [intOf]; omega
          | true =>
            obtain ⟨hob1, hrl1⟩ := HYE.out rfl
            have HOF1 : Hid (ob = true) := hob1
            obtain ⟨hrt1, hrv1⟩ := HRTE.out hrl1 hob1
            have HRT1 : Hid (rt = t) := hrt1
            have HRV1 : Hid (rv = us) := hrv1
            have y0 := HV1.out.c0
            have y1 := HV1.out.c1
            obtain ⟨⟨v0, e0⟩, ⟨v1, e1⟩, f0, f1⟩ := HFR.out wc HB4.out
            obtain ⟨hbE, q0, q1⟩ := HPT.out wc (.int .i64 t) (.slice aR n cR) HB4.out
            have HBE : Hid (Below w.heap.size w ((wc.setCell ⟨w.heap.size + 1, 0, none⟩ (.int .i64 t)).setCell ⟨w.heap.size + 1, 1, none⟩ (.slice aR n cR))) := hbE
            have HQ : Hid (_ ∧ _) := And.intro q0 q1
            have HSB : Hid (w.heap.size + 1 < wr.heap.size) := by have h1 := HWL.out; have h2 := HB.out.size; show w.heap.size + 1 < wr.heap.size; omega
            clear hbE q0 q1 hob1 hrl1 hrt1 hrv1
            go_wp2
            refine bodyPost_ret (v := .tuple #[.agg #[.int .i64 t, .slice aR n cR], .bool true]) ?_ rfl ⟨?_, HBE.out⟩
            · obtain ⟨q0, q1⟩ := HQ.out
              simp [results, Try.results46, go_sem, q0, q1]
            · rw [HRT1.out, HRV1.out, HOF1.out]
              exact ⟨.slice aR n cR, rfl, own_mono (row_aside (x := .slice aR n cR) (i := 1) (row_aside (x := .int .i64 t) (i := 0) HOW.out HSB.out) HSB.out) (show w.heap.size ≤ wr.heap.size by have := HSB.out; omega), HBE.out⟩
      · have HIN : Hid True := trivial
        have HBX : Hid (Below W.heap.size W wr) := HB.out
        have HLF : Hid (ob = false) := HLN.out E (by omega) HFL.out
        have HOF : Hid (ob = false) := by show ob = false; exact HLF.out
        have HRT0 : Hid (rt = 0) := by show rt = 0; rw [HRT.out, HOF.out]; exact if_neg (by decide)
        have HRV0 : Hid (rv = []) := by show rv = []; rw [HRV.out, HOF.out]; exact if_neg (by decide)
        clear hbx
        obtain ⟨⟨v0, e0⟩, ⟨v1, e1⟩, f0, f1⟩ := HFR.out wr HBX.out
        obtain ⟨hbE, q0, q1⟩ := HPT.out wr (.int .i64 0) (.slice none 0 0) HBX.out
        have HBE : Hid (Below w.heap.size w ((wr.setCell ⟨w.heap.size + 1, 0, none⟩ (.int .i64 0)).setCell ⟨w.heap.size + 1, 1, none⟩ (.slice none 0 0))) := hbE
        have HQ : Hid (_ ∧ _) := And.intro q0 q1
        clear hbE q0 q1
        go_wp2
        refine bodyPost_ret (v := .tuple #[.agg #[.int .i64 0, .slice none 0 0], .bool false]) ?_ rfl ⟨by rw [HRT0.out, HRV0.out, HOF.out]; exact oo_no rfl HBE.out, HBE.out⟩
        obtain ⟨q0, q1⟩ := HQ.out
        simp [results, Try.results46, go_sem, q0, q1]
    · have HWAY : Hid True := trivial
      by_cases hin : (E : Int) ≤ n1
      · have HIN : Hid True := trivial
        have hsb : (E : Int) * 64 ≤ (s.size : Int) := by have := HSI.out; omega
        have hlo : (L : Int) * 64 ≤ (E : Int) * 64 := by omega
        obtain ⟨e, he⟩ : ∃ e, E = L + e := ⟨E - L, by omega⟩
        have he1 : 1 ≤ e := by omega
        have hfit : 64 * (L + e) ≤ s.size := by omega
        obtain ⟨A, hA⟩ : ∃ A, A = L * 64 := ⟨_, rfl⟩
        obtain ⟨D, hD⟩ : ∃ D, D = E * 64 := ⟨_, rfl⟩
        have hwA : IntKind.i64.wrap ((L : Int) * 64) = (A : Int) := by rw [IntKind.wrap_i64]; omega
        have hwD : IntKind.i64.wrap ((E : Int) * 64) = (D : Int) := by rw [IntKind.wrap_i64]; omega
        have hDs : (D : Int) ≤ (s.size : Int) := by omega
        have hAD : (A : Int) ≤ (D : Int) := by omega
        have hA0 : (0 : Int) ≤ (A : Int) := by omega
        have hD0 : (0 : Int) ≤ (D : Int) := by omega
        have hsu : s.extract A D = subL s L e := by rw [hA, hD, he]; exact HSE.out e
        have HEE : Hid (E = L + e) := he
        have HRO : Hid (∀ w', Below W.heap.size W w' → Calls Try.prog 58 #[.slice a xs.length cap, .string (s.extract A D)] w' fun e' w'' => OoAns (roT xs (subL s L e)) (roV xs (subL s L e)) (roB xs (subL s L e)) w' e' w'') := fun w' h => by
          have h1 := HRD.out E w' h
          rw [← hA, ← hD, hsu] at h1
          rw [hsu]
          exact h1
        have HYE : Hid (roB xs (subL s L e) = true → ob = true ∧ runL xs s L = e) := fun q => HLY.out e he1 hfit q
        have HRTE : Hid (runL xs s L = e → ob = true → rt = roT xs (subL s L e) ∧ rv = roV xs (subL s L e)) := fun q1 q2 => by
          have h1 := HRT.out
          have h2 := HRV.out
          rw [q1, q2] at h1 h2
          rw [h1, h2]
          exact ⟨if_pos rfl, if_pos rfl⟩
        have HNX : Hid (roB xs (subL s L e) = false → ∀ e', 1 ≤ e' → L + e' < E + 1 → roB xs (subL s L e') = false) := fun q e' q1 q2 => by
          by_cases q3 : e' = e
          · rw [q3]; exact q
          · exact HFL.out e' q1 (by have := HEE.out; omega)
        clear he he1 hfit hsu hA hD hsb hlo
        generalize hrbe : roB xs (subL s L e) = rb at HRO HYE HNX
        generalize roT xs (subL s L e) = t at HRO HRTE
        generalize roV xs (subL s L e) = us at HRO HRTE
        clear hrbe
        obtain ⟨n, hnn⟩ : ∃ n, n = us.length := ⟨_, rfl⟩
        have HNL : Hid (us.length = n) := hnn.symm
        clear hnn
        have HCUA : Hid (∀ w', Below wr.heap.size wr w' → Below W.heap.size W w') := fun w' h => HB.out.trans (h.mono HB.out.size)
        have HCK : Hid (∀ w', Below wr.heap.size wr w' → w'.cell? ⟨w.heap.size, 3, none⟩ = some (.slice a xs.length cap) ∧ w'.cell? ⟨w.heap.size, 4, none⟩ = some (.string s)) := fun w' h => ⟨(HK.out _ (HCUA.out _ h)).c3, (HK.out _ (HCUA.out _ h)).c4⟩
        have hacc : Below wr.heap.size wr wr.drew := (Below.refl _ _).drew
        have HZ1 : Hid (Below wr.heap.size wr (wr.alloc (.cells #[.int .i64 0, .slice none 0 0] 37)).drew) := ((Below.refl _ _).alloc (Nat.le_refl _) _).drew
        have HZ2 : Hid (Pair wr (wr.alloc (.cells #[.int .i64 0, .slice none 0 0] 37)).drew) := (Pair.start wr _).later (Below.refl _ _).drew
        go_upto_region 6 with fail
        go_cut [7, 8] (fun p b wx => ∃ (B : Nat) (aR : Option Addr) (gR cR : Nat), p = .pointer (some ⟨B, 0, none⟩) ∧ b = .bool rb ∧ OVar B t aR gR n cR us wx ∧ wx.ownsRow wr.heap.size 2 1 (.slice aR n cR) us.length (us.map (Value.int .i64)) ∧ Below wr.heap.size wr wx)
        case first =>
          go_region_held3 (fun w' => w'.cell? ⟨w.heap.size, 3, none⟩ = some (.slice a xs.length cap) ∧ w'.cell? ⟨w.heap.size, 4, none⟩ = some (.string s)) (first | with_reducible exact HCK.out _ hacc | with_reducible exact HCK.out _ HZ1.out | with_reducible exact HCK.out _ (hacc.alloc hacc.size _) | with_reducible exact HCK.out _ ((hacc.setCell (p := ⟨wr.heap.size, 0, none⟩) (Nat.le_refl _) _).setCell (p := ⟨wr.heap.size, 1, none⟩) (Nat.le_refl _) _))
            (first | (go_at_call 58; refine (HRO.out _ (HCUA.out _ HZ1.out)).mono ?_; intro eR wR hoo; obtain ⟨aR, gR, cR, rfl, hgX, hinR, hownR, hbX⟩ := oo_open hoo; clear hoo hacc; have hacc : Below wr.heap.size wr wR := HZ1.out.trans (hbX.mono HZ1.out.size); have hgT := Nat.lt_of_lt_of_le HZ2.out.lt hgX; have hPR := HZ2.out.later hbX; clear hbX hgX; have v0 := hPR.cell 0 _ rfl; have v1 := hPR.cell 1 _ rfl; have z0 := hPR.free 0; have z1 := hPR.free 1; rw [HNL.out]) | (go_at_call 58; refine (HRO.out _ (HCUA.out _ hacc)).mono ?_; intro eR wR hoo; obtain ⟨aR, gR, cR, rfl, hgX, hinR, hownR, hbX⟩ := oo_open hoo; have hac2 : Below wr.heap.size wr wR := hacc.trans (hbX.mono hacc.size); clear hoo; clear hacc; have hacc := hac2; clear hac2 hbX hgX; rw [HNL.out]))
          all_goals
            go_wp2_with fail
            go_meet
            rw [HNL.out] at hownR
            first
              | exact ⟨_, aR, gR, cR, rfl, rfl, ovar_put hPR hinR hgT HNL.out, by rw [HNL.out]; exact own_mono (row_aside (row_aside hownR HZ2.out.lt) HZ2.out.lt) (Nat.le_of_lt HZ2.out.lt), (hacc.setCell (p := ⟨wr.heap.size, 0, none⟩) (Nat.le_refl _) _).setCell (p := ⟨wr.heap.size, 1, none⟩) (Nat.le_refl _) _⟩
              | exact ⟨_, aR, gR, cR, rfl, rfl, OVar.start wR t aR gR n cR us _ HNL.out hinR, by rw [HNL.out]; exact own_mono (own_below hownR ((Below.refl _ _).alloc (Nat.le_refl _) _)) (by simp), hacc.alloc hacc.size _⟩
        case rest =>
          obtain ⟨B1, aR, gR, cR, rfl, rfl, hV1, hown1, hU⟩ := hcut
          have HV1 : Hid (OVar B1 t aR gR n cR us wc) := hV1
          have HOW : Hid (wc.ownsRow wr.heap.size 2 1 (.slice aR n cR) us.length (us.map (Value.int .i64))) := hown1
          have HB4 : Hid (Below W.heap.size W wc) := HCUA.out _ hU
          clear hV1 hown1 hU hacc m0 m3 m4 hbx
          cases rb with
          | false =>
            go_wp2
            go_roundw
            case rel => exact ⟨E + 1, by omega, by omega, by omega, by go_num, HNX.out rfl, HB4.out⟩
            case measure => simp [intOf]; omega
          | true =>
            obtain ⟨hob1, hrl1⟩ := HYE.out rfl
            have HOF1 : Hid (ob = true) := hob1
            obtain ⟨hrt1, hrv1⟩ := HRTE.out hrl1 hob1
            have HRT1 : Hid (rt = t) := hrt1
            have HRV1 : Hid (rv = us) := hrv1
            have y0 := HV1.out.c0
            have y1 := HV1.out.c1
            obtain ⟨⟨v0, e0⟩, ⟨v1, e1⟩, f0, f1⟩ := HFR.out wc HB4.out
            obtain ⟨hbE, q0, q1⟩ := HPT.out wc (.int .i64 t) (.slice aR n cR) HB4.out
            have HBE : Hid (Below w.heap.size w ((wc.setCell ⟨w.heap.size + 1, 0, none⟩ (.int .i64 t)).setCell ⟨w.heap.size + 1, 1, none⟩ (.slice aR n cR))) := hbE
            have HQ : Hid (_ ∧ _) := And.intro q0 q1
            have HSB : Hid (w.heap.size + 1 < wr.heap.size) := by have h1 := HWL.out; have h2 := HB.out.size; show w.heap.size + 1 < wr.heap.size; omega
            clear hbE q0 q1 hob1 hrl1 hrt1 hrv1
            go_wp2
            refine bodyPost_ret (v := .tuple #[.agg #[.int .i64 t, .slice aR n cR], .bool true]) ?_ rfl ⟨?_, HBE.out⟩
            · obtain ⟨q0, q1⟩ := HQ.out
              simp [results, Try.results46, go_sem, q0, q1]
            · rw [HRT1.out, HRV1.out, HOF1.out]
              exact ⟨.slice aR n cR, rfl, own_mono (row_aside (x := .slice aR n cR) (i := 1) (row_aside (x := .int .i64 t) (i := 0) HOW.out HSB.out) HSB.out) (show w.heap.size ≤ wr.heap.size by have := HSB.out; omega), HBE.out⟩
      · have HIN : Hid True := trivial
        have HBX : Hid (Below W.heap.size W wr) := HB.out
        have HLF : Hid (ob = false) := HLN.out E (by omega) HFL.out
        have HOF : Hid (ob = false) := by show ob = false; exact HLF.out
        have HRT0 : Hid (rt = 0) := by show rt = 0; rw [HRT.out, HOF.out]; exact if_neg (by decide)
        have HRV0 : Hid (rv = []) := by show rv = []; rw [HRV.out, HOF.out]; exact if_neg (by decide)
        clear hbx
        obtain ⟨⟨v0, e0⟩, ⟨v1, e1⟩, f0, f1⟩ := HFR.out wr HBX.out
        obtain ⟨hbE, q0, q1⟩ := HPT.out wr (.int .i64 0) (.slice none 0 0) HBX.out
        have HBE : Hid (Below w.heap.size w ((wr.setCell ⟨w.heap.size + 1, 0, none⟩ (.int .i64 0)).setCell ⟨w.heap.size + 1, 1, none⟩ (.slice none 0 0))) := hbE
        have HQ : Hid (_ ∧ _) := And.intro q0 q1
        clear hbE q0 q1
        go_wp2
        refine bodyPost_ret (v := .tuple #[.agg #[.int .i64 0, .slice none 0 0], .bool false]) ?_ rfl ⟨by rw [HRT0.out, HRV0.out, HOF.out]; exact oo_no rfl HBE.out, HBE.out⟩
        obtain ⟨q0, q1⟩ := HQ.out
        simp [results, Try.results46, go_sem, q0, q1]
set_option maxHeartbeats 4000000 in
set_option maxRecDepth 20000 in
theorem objectAt_any (w : World) (n1 n2 n3 : Int) (a : Option Addr) (cap : Nat) (xs : List ByteArray) (s : ByteArray) (L : Nat) (h1 : 8 ≤ n1) (h2 : n1 ≤ 128) (hn : xs.length ≤ 1048576) (hl : Strs w a xs) (hz : ∀ i (hi : i < xs.length), xs[i].size ≤ 1048576) (hsz : (s.size : Int) = 64 * n1) (hd : dataB n1 n2 (L : Int) = true) :
    Calls Try.prog 31 #[.agg #[.int .i64 n1, .int .i64 n2, .int .i64 n3, .slice a xs.length cap, .string s, .int .i64 (4 + n2)], .int .i64 (L : Int)] w fun e w' => OoAns (if lineB n1 n2 xs s L = true then roT xs (subL s L (runL xs s L)) else 0) (if lineB n1 n2 xs s L = true then roV xs (subL s L (runL xs s L)) else []) (lineB n1 n2 xs s L) w e w' ∧ Below w.heap.size w w' := by
  obtain ⟨V, hV⟩ : ∃ V, V = w.alloc (.cells #[.int .i64 n1, .int .i64 n2, .int .i64 n3, .slice a xs.length cap, .string s, .int .i64 (4 + n2)] 49) := ⟨_, rfl⟩
  have hv0 : Below w.heap.size w V := by rw [hV]; exact (Below.refl _ _).alloc (Nat.le_refl _) _
  have hbv : Box6 w.heap.size n1 n2 n3 (.slice a xs.length cap) (.string s) (.int .i64 (4 + n2)) V := by rw [hV]; exact Box6.start _ _ _ _ _ _ _ _
  obtain ⟨W, hW⟩ : ∃ W, W = V.alloc (.cells #[.int .i64 0, .slice none 0 0] 37) := ⟨_, rfl⟩
  have hp0 : Pair V W := by rw [hW]; exact Pair.start V _
  have hvw : Below V.heap.size V W := by rw [hW]; exact (Below.refl _ _).alloc (Nat.le_refl _) _
  have hbx := hbv.below hvw
  have HV : Hid (V = w.alloc (.cells #[.int .i64 n1, .int .i64 n2, .int .i64 n3, .slice a xs.length cap, .string s, .int .i64 (4 + n2)] 49)) := hV
  have HW : Hid (W = V.alloc (.cells #[.int .i64 0, .slice none 0 0] 37)) := hW
  have HVS : Hid (V.heap.size = w.heap.size + 1) := by show V.heap.size = _; rw [hV]; simp
  have HWL : Hid (w.heap.size + 1 < W.heap.size) := by have h1 := hp0.lt; rw [HVS.out] at h1; exact h1
  have HK : Hid (∀ w', Below W.heap.size W w' → Box6 w.heap.size n1 n2 n3 (.slice a xs.length cap) (.string s) (.int .i64 (4 + n2)) w') := fun w' h => hbx.below h
  have hlW : Strs W a xs := (hl.below hv0).below hvw
  have HPT : Hid (∀ wX x0 x1, Below W.heap.size W wX → Below w.heap.size w ((wX.setCell ⟨w.heap.size + 1, 0, none⟩ x0).setCell ⟨w.heap.size + 1, 1, none⟩ x1) ∧ ((wX.setCell ⟨w.heap.size + 1, 0, none⟩ x0).setCell ⟨w.heap.size + 1, 1, none⟩ x1).cell? ⟨w.heap.size + 1, 0, none⟩ = some x0 ∧ ((wX.setCell ⟨w.heap.size + 1, 0, none⟩ x0).setCell ⟨w.heap.size + 1, 1, none⟩ x1).cell? ⟨w.heap.size + 1, 1, none⟩ = some x1) := fun wX x0 x1 h => by
    have h1 := (hp0.later h).put x0 x1
    have e0 := (hp0.later h).cell 0 _ rfl
    have e1 := (hp0.later h).cell 1 _ rfl
    have h2 := pair_set e0 e1 x0 x1
    rw [HVS.out] at h1 h2
    exact ⟨hv0.trans (h1.mono (by omega)), h2.1, h2.2⟩
  have HFR : Hid (∀ wX, Below W.heap.size W wX → (∃ v, wX.cell? ⟨w.heap.size + 1, 0, none⟩ = some v) ∧ (∃ v, wX.cell? ⟨w.heap.size + 1, 1, none⟩ = some v) ∧ wX.frozen? ⟨w.heap.size + 1, 0, none⟩ = false ∧ wX.frozen? ⟨w.heap.size + 1, 1, none⟩ = false) := fun wX h => by
    have e0 := (hp0.later h).cell 0 _ rfl
    have e1 := (hp0.later h).cell 1 _ rfl
    have f0 := (hp0.later h).free 0
    have f1 := (hp0.later h).free 1
    rw [HVS.out] at e0 e1 f0 f1
    exact ⟨⟨_, e0⟩, ⟨_, e1⟩, f0, f1⟩
  have HRF : Hid (∀ (p : Nat) (hp : p < xs.length) (w' : World) (b : Option Addr) (vc : Nat) (us : List Int), Below W.heap.size W w' → us.length = xs[p].size → us.length ≤ 23 → Nums w' b us → Calls _ _ _ w' _) := fun p hp w' b vc us h q1 q2 q3 => refsOf_any w' a cap xs p b vc us hn (hlW.below h) hp q1 q2 q3
  have HAN : Hid (∀ (w' : World) (b : Option Addr) (vc : Nat) (rs : List Int), rs.length ≤ 1048576 → Nums w' b rs → (∀ x ∈ rs, x < 9223372036854775808) → Calls _ _ _ w' _) := fun w' b vc rs q1 q2 q3 => allNamed_any w' n1 n2 n3 a xs.length cap s b vc rs h1 h2 q1 q2 q3
  have HAA : Hid (∀ w', Below W.heap.size W w' → Calls _ _ _ w' _) := fun w' h => anyAt_any w' n1 n2 n3 a cap xs s L h1 h2 hn (hlW.below h) hz hsz hd
  have HLB : Hid (lineB n1 n2 xs s L = (anyB xs s L && allOldL n1 n2 (refsE xs s L (runL xs s L)))) := any_line n1 n2 xs s L
  have HKN : Hid (anyB xs s L = true → ∃ p : Nat, ∃ hp : p < xs.length, roT xs (subL s L (runL xs s L)) = (p : Int) ∧ (roV xs (subL s L (runL xs s L))).length = (xs[p]).size ∧ (roV xs (subL s L (runL xs s L))).length ≤ 23 ∧ kd xs (roT xs (subL s L (runL xs s L))) = xs[p] ∧ ∀ x ∈ roV xs (subL s L (runL xs s L)), x < 9223372036854775808) := fun h => ro_known (any_known h)
  unfold refsE at HLB
  generalize roT xs (subL s L (runL xs s L)) = t at HAA HLB HKN ⊢
  generalize roV xs (subL s L (runL xs s L)) = us at HAA HLB HKN ⊢
  generalize lineB n1 n2 xs s L = ob at HLB ⊢
  obtain ⟨f, hf⟩ : ∃ f, f = 4 + n2 := ⟨_, rfl⟩
  rw [← hf] at HV HK HAN HAA ⊢
  clear hV hv0 hbv hW hp0 hvw hbx hl hlW hd hf hsz hz h1 h2
  cases hab : anyB xs s L with
  | false =>
    rw [hab, Bool.false_and] at HLB
    rw [hab] at HAA
    have HOF : Hid (ob = false) := HLB.out
    have HRT0 : Hid ((if ob = true then t else 0) = 0) := if_neg (by rw [HOF.out]; decide)
    have HRV0 : Hid ((if ob = true then us else []) = []) := if_neg (by rw [HOF.out]; decide)
    obtain ⟨l0, hl0⟩ : ∃ l : List Int, l = [] := ⟨_, rfl⟩
    have HL0 : Hid (l0 = []) := hl0
    have HA1 : Hid (∀ w', Below W.heap.size W w' → Calls Try.prog 46 #[.agg #[.int .i64 n1, .int .i64 n2, .int .i64 n3, .slice a xs.length cap, .string s, .int .i64 f], .int .i64 (L : Int)] w' fun e w'' => OoAns 0 l0 false w' e w'' ∧ Below w'.heap.size w' w'') := fun w' h => by
      have h1 := HAA.out w' h
      rw [if_neg (by decide), if_neg (by decide)] at h1
      rw [hl0]
      exact h1
    generalize (if ob = true then t else 0) = rt at HRT0 ⊢
    generalize (if ob = true then us else []) = rv at HRV0 ⊢
    clear hab HLB HKN HAA HRF HAN hl0
    go_enter Try.func31, Try.ntmps31
    obtain ⟨m0, m1, m2, m3, m4, m5⟩ := HK.out W (Below.refl _ _)
    go_wp2_with fail
    rw [← HV.out, ← HW.out]
    refine (HA1.out _ (Below.refl _ _)).mono ?_
    intro e0 w2 hq
    obtain ⟨aR, gR, cR, rfl, hgR, hin2, hown, hb2⟩ := oo_open hq.1
    obtain ⟨n, hnn⟩ : ∃ n, n = l0.length := ⟨_, rfl⟩
    rw [← hnn]
    obtain ⟨Y, hY⟩ : ∃ Y, Y = w2.alloc (.cells #[.int .i64 0, .slice aR n cR] 37) := ⟨_, rfl⟩
    have HY : Hid (Y = w2.alloc (.cells #[.int .i64 0, .slice aR n cR] 37)) := hY
    have hby : Below w2.heap.size w2 Y := by rw [hY]; exact (Below.refl _ _).alloc (Nat.le_refl _) _
    have HBY : Hid (Below W.heap.size W Y) := hb2.trans (hby.mono hb2.size)
    obtain ⟨yb, hyb⟩ : ∃ y, y = w2.heap.size := ⟨_, rfl⟩
    have HYB : Hid (yb = w2.heap.size) := hyb
    have hne := some_later Y
    clear hY hby hb2 hq hgR hin2 hown hyb m0 m1 m2 m3 m4 m5 hnn
    go_wp2
    rw [← HY.out]
    try rw [← HYB.out]
    refine region_later (by kernel_rfl) (by kernel_rfl) ?_
    repeat (go_big_quiet_step (fail))
    refine wpQuiet_nil ?_
    intro w' hw'
    obtain ⟨nn, rfl⟩ := hw'
    have HB4 : Hid (Below W.heap.size W nn.world) := HBY.out.trans (nn.below.mono HBY.out.size)
    generalize nn.world = w4 at HB4 ⊢
    obtain ⟨⟨v0, e0⟩, ⟨v1, e1⟩, f0, f1⟩ := HFR.out w4 HB4.out
    obtain ⟨hbE, q0, q1⟩ := HPT.out w4 (.int .i64 0) (.slice none 0 0) HB4.out
    have HBE : Hid (Below w.heap.size w ((w4.setCell ⟨w.heap.size + 1, 0, none⟩ (.int .i64 0)).setCell ⟨w.heap.size + 1, 1, none⟩ (.slice none 0 0))) := hbE
    have HQ : Hid (_ ∧ _) := And.intro q0 q1
    clear hbE q0 q1
    go_wp2
    refine bodyPost_ret (v := .tuple #[.agg #[.int .i64 0, .slice none 0 0], .bool false]) ?_ rfl ⟨by rw [HRT0.out, HRV0.out, HOF.out]; exact oo_no rfl HBE.out, HBE.out⟩
    obtain ⟨q0, q1⟩ := HQ.out
    simp [results, Try.results31, go_sem, q0, q1]
  | true =>
    obtain ⟨p, hp, rfl, el, e23, ek, e63⟩ := HKN.out hab
    rw [hab, Bool.true_and] at HLB
    rw [hab] at HAA
    have HRL : Hid (allOldL n1 n2 (refsL (kd xs (p : Int)) us us.length) = allOld n1 n2 (refsL xs[p] us us.length) (refsL xs[p] us us.length).length) := by show allOldL n1 n2 (refsL (kd xs (p : Int)) us us.length) = _; rw [ek]; rfl
    rw [HRL.out] at HLB
    have HA1 : Hid (∀ w', Below W.heap.size W w' → Calls Try.prog 46 #[.agg #[.int .i64 n1, .int .i64 n2, .int .i64 n3, .slice a xs.length cap, .string s, .int .i64 f], .int .i64 (L : Int)] w' fun e w'' => OoAns (p : Int) us true w' e w'' ∧ Below w'.heap.size w' w'') := fun w' h => by
      have h1 := HAA.out w' h
      rw [if_pos rfl, if_pos rfl] at h1
      exact h1
    have HR63 : Hid (∀ x ∈ refsL xs[p] us us.length, x < 9223372036854775808) := refsL_mem _ _ _ (Nat.le_refl _) _ e63
    have HRLN : Hid ((refsL xs[p] us us.length).length ≤ 1048576) := by have := refsL_len xs[p] us us.length; show (refsL xs[p] us us.length).length ≤ 1048576; omega
    obtain ⟨n, hnn⟩ : ∃ n, n = us.length := ⟨_, rfl⟩
    have HNL : Hid (us.length = n) := hnn.symm
    obtain ⟨rt, hrt⟩ : ∃ r, r = (if ob = true then (p : Int) else 0) := ⟨_, rfl⟩
    obtain ⟨rv, hrv⟩ : ∃ r, r = (if ob = true then us else []) := ⟨_, rfl⟩
    have HRT : Hid (rt = if ob = true then (p : Int) else 0) := hrt
    have HRV : Hid (rv = if ob = true then us else []) := hrv
    rw [← hrt, ← hrv]
    clear hab HAA HKN hrt hrv
    go_enter Try.func31, Try.ntmps31
    obtain ⟨m0, m1, m2, m3, m4, m5⟩ := HK.out W (Below.refl _ _)
    go_wp2_with fail
    rw [← HV.out, ← HW.out]
    refine (HA1.out _ (Below.refl _ _)).mono ?_
    intro e0 w2 hq
    obtain ⟨aR, gR, cR, rfl, hgR, hin2, hown, hb2⟩ := oo_open hq.1
    rw [← hnn]
    have HB2 : Hid (Below W.heap.size W w2) := hb2
    obtain ⟨Y, hY⟩ : ∃ Y, Y = w2.alloc (.cells #[.int .i64 (p : Int), .slice aR n cR] 37) := ⟨_, rfl⟩
    have HY : Hid (Y = w2.alloc (.cells #[.int .i64 (p : Int), .slice aR n cR] 37)) := hY
    have hby : Below w2.heap.size w2 Y := by rw [hY]; exact (Below.refl _ _).alloc (Nat.le_refl _) _
    have HBY : Hid (Below W.heap.size W Y) := HB2.out.trans (hby.mono HB2.out.size)
    have hoy : OVar w2.heap.size (p : Int) aR gR n cR us Y := by rw [hY]; exact OVar.start w2 (p : Int) aR gR n cR us _ HNL.out hin2
    have HOWN : Hid (Y.ownsRow W.heap.size 2 1 (.slice aR us.length cR) us.length (us.map (Value.int .i64))) := own_below hown hby
    obtain ⟨yb, hyb⟩ : ∃ y, y = w2.heap.size := ⟨_, rfl⟩
    have HYB : Hid (yb = w2.heap.size) := hyb
    rw [← hyb] at hoy
    have HOY : Hid (OVar yb (p : Int) aR gR n cR us Y) := hoy
    clear hY hby hb2 hq hgR hin2 hown hyb hnn hoy m0 m1 m2 m3 m4 m5
    have HCR : Hid (∀ w', Below Y.heap.size Y w' → Calls Try.prog 47 #[.slice a xs.length cap, .agg #[.int .i64 (p : Int), .slice aR n cR]] w' fun e w'' => ∃ v, e = .returned v ∧ w''.ownsRow w'.heap.size 2 1 v (refsL xs[p] us us.length).length ((refsL xs[p] us us.length).map (Value.int .i64)) ∧ Below w'.heap.size w' w'') := fun w' h => by
      have h1 := HRF.out p hp w' aR cR us (HBY.out.trans (h.mono HBY.out.size)) el e23 (HOY.out.below h).tx.nums
      rw [HNL.out] at h1 ⊢
      exact h1
    have HCA : Hid (∀ (w' : World) (b : Option Addr) (vc : Nat), Nums w' b (refsL xs[p] us us.length) → _) := fun w' b vc q => HAN.out w' b vc (refsL xs[p] us us.length) HRLN.out q HR63.out
    generalize refsL xs[p] us us.length = RF at HLB HCR HCA HRLN
    have HCK : Hid (∀ w', Below Y.heap.size Y w' → (w'.cell? ⟨w.heap.size, 0, none⟩ = some (.int .i64 n1) ∧ w'.cell? ⟨w.heap.size, 1, none⟩ = some (.int .i64 n2) ∧ w'.cell? ⟨w.heap.size, 2, none⟩ = some (.int .i64 n3) ∧ w'.cell? ⟨w.heap.size, 3, none⟩ = some (.slice a xs.length cap) ∧ w'.cell? ⟨w.heap.size, 4, none⟩ = some (.string s) ∧ w'.cell? ⟨w.heap.size, 5, none⟩ = some (.int .i64 f)) ∧ w'.cell? ⟨yb, 0, none⟩ = some (.int .i64 (p : Int)) ∧ w'.cell? ⟨yb, 1, none⟩ = some (.slice aR n cR)) := fun w' h => by
      obtain ⟨k0, k1, k2, k3, k4, k5⟩ := HK.out w' (HBY.out.trans (h.mono HBY.out.size))
      exact ⟨⟨k0, k1, k2, k3, k4, k5⟩, (HOY.out.below h).c0, (HOY.out.below h).c1⟩
    have hacc : Below Y.heap.size Y Y.drew := (Below.refl _ _).drew
    clear HRL HR63 HRLN el e23 ek e63
    cases hod : allOld n1 n2 RF RF.length with
    | false =>
      rw [hod] at HLB HCA
      have HOF : Hid (ob = false) := HLB.out
      have HRT0 : Hid (rt = 0) := by show rt = 0; rw [HRT.out]; exact if_neg (by rw [HOF.out]; decide)
      have HRV0 : Hid (rv = []) := by show rv = []; rw [HRV.out]; exact if_neg (by rw [HOF.out]; decide)
      clear hod
      go_wp2_with fail
      rw [← HY.out]
      try rw [← HYB.out]
      go_region_held3 (fun w' => (w'.cell? ⟨w.heap.size, 0, none⟩ = some (.int .i64 n1) ∧ w'.cell? ⟨w.heap.size, 1, none⟩ = some (.int .i64 n2) ∧ w'.cell? ⟨w.heap.size, 2, none⟩ = some (.int .i64 n3) ∧ w'.cell? ⟨w.heap.size, 3, none⟩ = some (.slice a xs.length cap) ∧ w'.cell? ⟨w.heap.size, 4, none⟩ = some (.string s) ∧ w'.cell? ⟨w.heap.size, 5, none⟩ = some (.int .i64 f)) ∧ w'.cell? ⟨yb, 0, none⟩ = some (.int .i64 (p : Int)) ∧ w'.cell? ⟨yb, 1, none⟩ = some (.slice aR n cR)) (first | with_reducible exact HCK.out _ hacc)
        (first | (go_at_call 47; refine (HCR.out _ hacc).mono ?_; rintro e wA ⟨v, rfl, hownA, hbX⟩; obtain ⟨aF, gF, cF, rfl, hloF, hinF⟩ := ints_of_row hownA; have hac2 : Below Y.heap.size Y wA := hacc.trans (hbX.mono hacc.size); clear hacc hbX hownA hloF; have hacc := hac2; clear hac2) | (go_at_call 26; refine (HCA.out _ _ _ hinF.nums).mono ?_; rintro e wC ⟨rfl, hbX⟩; have hac2 : Below Y.heap.size Y wC := hacc.trans (hbX.mono hacc.size); clear hacc hbX hinF; have hacc := hac2; clear hac2))
      all_goals
        have HB4 : Hid (Below W.heap.size W wC) := HBY.out.trans (hacc.mono HBY.out.size)
        clear hacc
        obtain ⟨⟨v0, e0⟩, ⟨v1, e1⟩, f0, f1⟩ := HFR.out wC HB4.out
        obtain ⟨hbE, q0, q1⟩ := HPT.out wC (.int .i64 0) (.slice none 0 0) HB4.out
        have HBE : Hid (Below w.heap.size w ((wC.setCell ⟨w.heap.size + 1, 0, none⟩ (.int .i64 0)).setCell ⟨w.heap.size + 1, 1, none⟩ (.slice none 0 0))) := hbE
        have HQ : Hid (_ ∧ _) := And.intro q0 q1
        clear hbE q0 q1
        go_wp2
        refine bodyPost_ret (v := .tuple #[.agg #[.int .i64 0, .slice none 0 0], .bool false]) ?_ rfl ⟨by rw [HRT0.out, HRV0.out, HOF.out]; exact oo_no rfl HBE.out, HBE.out⟩
        obtain ⟨q0, q1⟩ := HQ.out
        simp [results, Try.results31, go_sem, q0, q1]
    | true =>
      rw [hod] at HLB HCA
      have HOF : Hid (ob = true) := HLB.out
      have HRT0 : Hid (rt = (p : Int)) := by show rt = (p : Int); rw [HRT.out]; exact if_pos HOF.out
      have HRV0 : Hid (rv = us) := by show rv = us; rw [HRV.out]; exact if_pos HOF.out
      clear hod
      go_wp2_with fail
      rw [← HY.out]
      try rw [← HYB.out]
      go_region_held3 (fun w' => (w'.cell? ⟨w.heap.size, 0, none⟩ = some (.int .i64 n1) ∧ w'.cell? ⟨w.heap.size, 1, none⟩ = some (.int .i64 n2) ∧ w'.cell? ⟨w.heap.size, 2, none⟩ = some (.int .i64 n3) ∧ w'.cell? ⟨w.heap.size, 3, none⟩ = some (.slice a xs.length cap) ∧ w'.cell? ⟨w.heap.size, 4, none⟩ = some (.string s) ∧ w'.cell? ⟨w.heap.size, 5, none⟩ = some (.int .i64 f)) ∧ w'.cell? ⟨yb, 0, none⟩ = some (.int .i64 (p : Int)) ∧ w'.cell? ⟨yb, 1, none⟩ = some (.slice aR n cR)) (first | with_reducible exact HCK.out _ hacc)
        (first | (go_at_call 47; refine (HCR.out _ hacc).mono ?_; rintro e wA ⟨v, rfl, hownA, hbX⟩; obtain ⟨aF, gF, cF, rfl, hloF, hinF⟩ := ints_of_row hownA; have hac2 : Below Y.heap.size Y wA := hacc.trans (hbX.mono hacc.size); clear hacc hbX hownA hloF; have hacc := hac2; clear hac2) | (go_at_call 26; refine (HCA.out _ _ _ hinF.nums).mono ?_; rintro e wC ⟨rfl, hbX⟩; have hac2 : Below Y.heap.size Y wC := hacc.trans (hbX.mono hacc.size); clear hacc hbX hinF; have hacc := hac2; clear hac2))
      all_goals
        have HB4 : Hid (Below W.heap.size W wC) := HBY.out.trans (hacc.mono HBY.out.size)
        have HOW : Hid (wC.ownsRow W.heap.size 2 1 (.slice aR us.length cR) us.length (us.map (Value.int .i64))) := own_below HOWN.out hacc
        have hov := HOY.out.below hacc
        have y0 := hov.c0
        have y1 := hov.c1
        clear hacc hov
        obtain ⟨⟨v0, e0⟩, ⟨v1, e1⟩, f0, f1⟩ := HFR.out wC HB4.out
        obtain ⟨hbE, q0, q1⟩ := HPT.out wC (.int .i64 (p : Int)) (.slice aR n cR) HB4.out
        have HBE : Hid (Below w.heap.size w ((wC.setCell ⟨w.heap.size + 1, 0, none⟩ (.int .i64 (p : Int))).setCell ⟨w.heap.size + 1, 1, none⟩ (.slice aR n cR))) := hbE
        have HQ : Hid (_ ∧ _) := And.intro q0 q1
        clear hbE q0 q1
        go_wp2
        refine bodyPost_ret (v := .tuple #[.agg #[.int .i64 (p : Int), .slice aR n cR], .bool true]) ?_ rfl ⟨?_, HBE.out⟩
        · obtain ⟨q0, q1⟩ := HQ.out
          simp [results, Try.results31, go_sem, q0, q1]
        · rw [HRT0.out, HRV0.out, HOF.out]
          refine ⟨.slice aR n cR, rfl, ?_, HBE.out⟩
          have h6 := own_mono (row_aside (x := .slice aR n cR) (i := 1) (row_aside (x := .int .i64 (p : Int)) (i := 0) HOW.out HWL.out) HWL.out) (show w.heap.size ≤ W.heap.size by have := HWL.out; omega)
          rw [HNL.out] at h6 ⊢
          exact h6
end Go.Proofs.Ythmohmfkgoipkaa.img
