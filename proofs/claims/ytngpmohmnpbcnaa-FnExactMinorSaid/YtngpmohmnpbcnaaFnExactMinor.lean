/-
  FnExactMinor: for every slice of texts, every nursery and every slice of whole numbers the law that holds the program's Minor against the specification's Minor returns true, and the arguments read as before; no condition.
-/
import Derived.Test.YtngpmohmnpbcnaaMiSpec
import Derived.Test.YtngpmohmnpbcnaaMiImpl
import Derived.Test.YtngpmohmnpbcnaaNurOpen
import Derived.Deep.RegionHeld3
import Derived.Deep.Cut
import Derived.Deep.CutRange
import Derived.Deep.DeepCutAuto
import Derived.ProofKit
import Derived.OpenShut
import Derived.ShutString
import Derived.ChangeOld
import Derived.Below
import Derived.Lib.SmallJoins
namespace Go.Proofs.Ytngpmohmnpbcnaa.fnExactMinor
open Go.ChangeShapes Go.WideShapes Go.ChangeAt Go.RowKit
open kinds ints obj txt nu cl mi

theorem own : ownKnob Try.prog.godebug = none := by kernel_rfl
theorem laidOut : laidOutB Try.prog = true := by kernel_rfl

theorem ints_block {w : World} {a : Option Addr} {g : Nat} {xs : List Int} (h : Ints w a g xs) (B : Nat) (hB : B ≤ g) (hw : B ≤ w.heap.size) : ∃ r, Ints w a r xs ∧ B ≤ r ∧ (0 < xs.length → r = g) ∧ ∀ k, k < w.heap.size → (0 < xs.length → k ≠ g) → k ≠ r := by
  by_cases h0 : 0 < xs.length
  · exact ⟨g, h, hB, fun _ => rfl, fun k _ q => q h0⟩
  · exact ⟨w.heap.size, fun i hi => by omega, hw, fun q => absurd q h0, fun k q _ => by omega⟩
set_option maxHeartbeats 2000000 in
set_option maxRecDepth 20000 in
theorem spec_minor (w : World) (a : Option Addr) (cap : Nat) (xs : List ByteArray) (z : Int) (a2 : Option Addr) (n vcap : Nat) (ws : List Int) (ra : Option Addr) (rc : Nat) (roots : List Int) (hx : ws.length = n) (hxn : xs.length ≤ 1048576) (hl : Strs w a xs) (hz : ∀ i (hi : i < xs.length), xs[i].size ≤ 1048576) (hn : n ≤ 1048576) (hcap : n ≤ vcap) (hv : Nums w a2 ws) (hh : ∀ x ∈ ws, x < 9223372036854775808) (hrt : Nums w ra roots) (hrn : roots.length ≤ 1048576) :
    Calls Try.prog 22 #[.slice a xs.length cap, .agg #[.int .i64 z, .slice a2 n vcap], .slice ra roots.length rc] w fun e w' => MinAns xs z ws roots w e w' := by
  obtain ⟨W, hW⟩ : ∃ W, W = (w.alloc (.cells #[.int .i64 z, .slice a2 n vcap] 31)).alloc (.cells #[.int .i64 0, .slice none 0 0] 31) := ⟨_, rfl⟩
  have HW : Hid (W = (w.alloc (.cells #[.int .i64 z, .slice a2 n vcap] 31)).alloc (.cells #[.int .i64 0, .slice none 0 0] 31)) := hW
  obtain ⟨hb0, hsz, c0, c1, r0, r1, rf⟩ := box_two _ w z a2 n vcap W hW
  have HK : Hid (∀ w', Below W.heap.size W w' → w'.cell? ⟨w.heap.size, 0, none⟩ = some (.int .i64 z) ∧ w'.cell? ⟨w.heap.size, 1, none⟩ = some (.slice a2 n vcap)) := fun w' h => ⟨by rw [h.cell (p := ⟨w.heap.size, 0, none⟩) (by show w.heap.size < _; omega)]; exact c0, by rw [h.cell (p := ⟨w.heap.size, 1, none⟩) (by show w.heap.size < _; omega)]; exact c1⟩
  have HRC : Hid (∀ w', Below W.heap.size W w' → w'.cell? ⟨w.heap.size + 1, 0, none⟩ = some (.int .i64 0) ∧ w'.cell? ⟨w.heap.size + 1, 1, none⟩ = some (.slice none 0 0) ∧ ∀ k, w'.frozen? ⟨w.heap.size + 1, k, none⟩ = false) := fun w' h =>
    ⟨by rw [h.cell (p := ⟨w.heap.size + 1, 0, none⟩) (by show w.heap.size + 1 < _; omega)]; exact r0, by rw [h.cell (p := ⟨w.heap.size + 1, 1, none⟩) (by show w.heap.size + 1 < _; omega)]; exact r1, fun k => by rw [h.frozen (p := ⟨w.heap.size + 1, k, none⟩) (by show w.heap.size + 1 < _; omega)]; exact rf k⟩
  have HB0 : Hid (Below w.heap.size w W) := hb0
  have HSZ : Hid (W.heap.size = w.heap.size + 2) := hsz
  have HBE : Hid (∀ w', Below W.heap.size W w' → ∀ x0 x1, Below w.heap.size w ((w'.setCell ⟨w.heap.size + 1, 0, none⟩ x0).setCell ⟨w.heap.size + 1, 1, none⟩ x1)) := fun w' h x0 x1 => ((hb0.trans (h.mono hb0.size)).setCell (p := ⟨w.heap.size + 1, 0, none⟩) (by show w.heap.size ≤ w.heap.size + 1; omega) _).setCell (p := ⟨w.heap.size + 1, 1, none⟩) (by show w.heap.size ≤ w.heap.size + 1; omega) _
  have HRO : Hid (Calls _ _ _ W _) := spec_roots W a cap xs z a2 n vcap ws ra rc roots hx hxn (hl.below hb0) hz hn (hv.below hb0) hh (hrt.below hb0) hrn
  have HMI : Hid (rootsB xs z ws roots = true → ∀ w', Below W.heap.size W w' → Calls Try.prog 44 #[.slice a xs.length cap, .agg #[.int .i64 z, .slice a2 n vcap], .slice ra roots.length rc] w' fun e w'' => ∃ a g c b h d, e = .returned (.tuple #[.agg #[.int .i64 z, .slice a (minW xs z ws roots).length c], .slice b (minM xs z ws roots).length d]) ∧ w'.heap.size ≤ g ∧ w'.heap.size ≤ h ∧ Ints w'' a g (minW xs z ws roots) ∧ Ints w'' b h (minM xs z ws roots) ∧ (0 < (minW xs z ws roots).length → g < h) ∧ Below w'.heap.size w' w'') := fun hok w' h => spec_l8minor w' a cap xs z a2 n vcap ws ra rc roots hx hcap hxn ((hl.below hb0).below h) ((hv.below hb0).below h) ((hrt.below hb0).below h) hok
  clear hW hl hv hrt hb0 hx hxn hh hz hsz r0 r1 rf
  generalize roots.length = rl at HRO HMI
  cases hrb : rootsB xs z ws roots with
  | false =>
    rw [hrb] at HRO
    have HRE : Hid (rootsB xs z ws roots = false) := hrb
    clear hrb HMI
    go_enter Try.func22, Try.ntmps22
    go_wp2_with (rw [← HW.out])
    refine HRO.out.mono ?_
    rintro e w3 ⟨rfl, hb3⟩
    have HB3 : Hid (Below W.heap.size W w3) := hb3
    clear hb3 c0 c1
    obtain ⟨r0, r1, rf⟩ := HRC.out w3 HB3.out
    have z0 := rf 0
    have z1 := rf 1
    have HP2 : Hid (∀ x0 x1, _) := two_put r0 r1
    clear rf
    go_wp2
    refine bodyPost_ret (v := .tuple #[.agg #[.int .i64 0, .slice none 0 0], .slice none 0 0, .bool false]) ?_ rfl (min_no HRE.out rfl (HBE.out _ HB3.out _ _))
    obtain ⟨q0, q1⟩ := HP2.out (.int .i64 0) (.slice none 0 0)
    simp [results, Try.results22, go_sem, q0, q1]
  | true =>
    rw [hrb] at HRO
    have HYES : Hid (∀ e w', MiOut z (minW xs z ws roots) (minM xs z ws roots) true w e w' → MinAns xs z ws roots w e w') := fun e w' q => by
      unfold MinAns minZ
      rw [hrb, if_pos rfl]
      exact q
    have HM2 := HMI.out hrb
    have HM3 : Hid (_) := HM2
    clear hrb HMI HM2
    generalize minW xs z ws roots = MW at HYES HM3
    generalize minM xs z ws roots = MM at HYES HM3
    go_enter Try.func22, Try.ntmps22
    go_wp2_with (rw [← HW.out])
    refine HRO.out.mono ?_
    rintro e w3 ⟨rfl, hb3⟩
    have HB3 : Hid (Below W.heap.size W w3) := hb3
    clear hb3 c0 c1
    obtain ⟨c0, c1⟩ := HK.out w3 HB3.out
    go_wp2_with fail
    refine (HM3.out w3 HB3.out).mono ?_
    rintro e w4 ⟨aK, gK, cK, aF, gF, cF, rfl, hgK, hgF, hiK, hiF, hlt, hb4⟩
    have HB4 : Hid (Below W.heap.size W w4) := HB3.out.trans (hb4.mono HB3.out.size)
    have HIK : Hid (Ints w4 aK gK MW) := hiK
    have HIF : Hid (Ints w4 aF gF MM) := hiF
    have HLT : Hid (0 < MW.length → gK < gF) := hlt
    have HGG : Hid (w.heap.size + 2 ≤ gK ∧ w.heap.size + 2 ≤ gF) := by have := HB3.out.size; have := HSZ.out; exact ⟨by omega, by omega⟩
    clear hiK hiF hlt hgK hgF hb4 c0 c1
    obtain ⟨X, hX⟩ : ∃ X, X = w4.alloc (.cells #[.int .i64 z, .slice aK MW.length cK] 31) := ⟨_, rfl⟩
    obtain ⟨xb, hxb⟩ : ∃ xb, xb = w4.heap.size := ⟨_, rfl⟩
    have HX : Hid (X = w4.alloc (.cells #[.int .i64 z, .slice aK MW.length cK] 31)) := hX
    have HXB : Hid (xb = w4.heap.size) := hxb
    have hbX : Below w4.heap.size w4 X := by rw [hX]; exact (Below.refl _ _).alloc (Nat.le_refl _) _
    have HBX : Hid (Below w4.heap.size w4 X) := hbX
    have x0 : X.cell? ⟨xb, 0, none⟩ = some (.int .i64 z) := by rw [hX, hxb, World.cell?_alloc_new]; rfl
    have x1 : X.cell? ⟨xb, 1, none⟩ = some (.slice aK MW.length cK) := by rw [hX, hxb, World.cell?_alloc_new]; rfl
    have HWX : Hid (Below W.heap.size W X) := HB4.out.trans (hbX.mono HB4.out.size)
    obtain ⟨r0, r1, rf⟩ := HRC.out X HWX.out
    have z0 := rf 0
    have z1 := rf 1
    have HP2 : Hid (∀ x0 x1, _) := two_put r0 r1
    clear rf hX hxb hbX
    go_wp2_with (first | (rw [← HX.out, ← HXB.out]) | (rw [← HX.out]))
    refine bodyPost_ret (v := .tuple #[.agg #[.int .i64 z, .slice aK MW.length cK], .slice aF MM.length cF, .bool true]) ?_ rfl (HYES.out _ _ ?_)
    · obtain ⟨q0, q1⟩ := HP2.out (.int .i64 z) (.slice aK MW.length cK)
      simp [results, Try.results22, go_sem, q0, q1]
    · obtain ⟨h1, h2⟩ := HGG.out
      exact ⟨aK, gK, cK, aF, gF, cF, rfl, by omega, by omega, ((HIK.out.below HBX.out).grown (grown_set _ _ _ _) (by omega)).grown (grown_set _ _ _ _) (by omega), ((HIF.out.below HBX.out).grown (grown_set _ _ _ _) (by omega)).grown (grown_set _ _ _ _) (by omega), HLT.out, HBE.out _ HWX.out _ _⟩
set_option linter.unusedVariables false in
set_option maxHeartbeats 4000000 in
set_option maxRecDepth 20000 in
theorem walk (a0 : Option Addr) (c0 : Nat) (xs0 : List ByteArray) (t1 : Int) (b1 : Option Addr) (vc1 : Nat) (vs1 : List Int) (b2 : Option Addr) (vc2 : Nat) (vs2 : List Int) (w : World) (hl0 : Strs w a0 xs0) (hm0 : xs0.length ≤ maxLen) (hz0 : ∀ i (hi : i < xs0.length), xs0[i].size ≤ maxLen) (ht1 : (Lit.int .i64 t1).wf = true) (hk1 : Nums w b1 vs1) (hn1 : vs1.length ≤ maxLen) (hw1 : ∀ x ∈ vs1, (Lit.int .i64 x).wf = true) (hk2 : Nums w b2 vs2) (hn2 : vs2.length ≤ maxLen) (hw2 : ∀ x ∈ vs2, (Lit.int .i64 x).wf = true) :
    Calls Try.prog 4 #[.slice a0 xs0.length c0, .agg #[.int .i64 t1, .slice b1 vs1.length vc1], .slice b2 vs2.length vc2] w fun e w' => e = .returned (.bool true) ∧ Below w.heap.size w w' := by
  obtain ⟨W, hW⟩ : ∃ W, W = w.alloc (.cells #[.int .i64 t1, .slice b1 vs1.length vc1] 25) := ⟨_, rfl⟩
  have HB0 : Hid (Below w.heap.size w W) := by
    have h1 : Below w.heap.size w W := by rw [hW]; exact (Below.refl _ _).alloc (Nat.le_refl _) _
    exact h1
  have hsz : w.heap.size < W.heap.size := by rw [hW]; simp
  have HK : Hid (∀ w', Below W.heap.size W w' → w'.cell? ⟨w.heap.size, 0, none⟩ = some (.int .i64 t1) ∧ w'.cell? ⟨w.heap.size, 1, none⟩ = some (.slice b1 vs1.length vc1)) := fun w' h =>
    ⟨by rw [h.cell (p := ⟨w.heap.size, 0, none⟩) hsz, hW, World.cell?_alloc_new]; rfl, by rw [h.cell (p := ⟨w.heap.size, 1, none⟩) hsz, hW, World.cell?_alloc_new]; rfl⟩
  have HW : Hid (W = w.alloc (.cells #[.int .i64 t1, .slice b1 vs1.length vc1] 25)) := hW
  have HLW : Hid (∀ w', Below W.heap.size W w' → Strs w' a0 xs0) := fun w' h => (hl0.below HB0.out).below h
  have HNW : Hid (∀ w', Below W.heap.size W w' → Nums w' b1 vs1) := fun w' h => (hk1.below HB0.out).below h
  have HEnd : Hid (∀ w', Below W.heap.size W w' → Below w.heap.size w w') := fun w' h => HB0.out.trans (h.mono HB0.out.size)
  have HSZ : Hid (∀ w, Strs w a0 xs0 → Calls _ _ _ w _) := fun w h => szStringS_any w a0 c0 xs0 1048576 (by omega) (by omega) hm0 h hz0
  have HSO : Hid (∀ (left : Int) w, 0 ≤ left → left ≤ 1048576 → Calls _ _ _ w _) := fun left w q1 q2 => szNur_any w t1 b1 vc1 vs1 left q1 q2 hn1
  have HWF : Hid (∀ x ∈ vs1, x < 9223372036854775808) := fun x hx => i64_top (hw1 x hx)
  have HNR : Hid (∀ w', Below W.heap.size W w' → Nums w' b2 vs2) := fun w' h => (hk2.below HB0.out).below h
  have HWR : Hid (∀ x ∈ vs2, x < 9223372036854775808) := fun x hx => i64_top (hw2 x hx)
  have hn2b := hn2
  unfold maxLen at hn2b
  clear hW hl0 hk1 hk2 hz0 hw1 hw2 ht1 hm0 hn1 hn2
  by_cases hbig : (1048576 : Int) < (vs2.length : Int)
  · go_enter Try.func4, Try.ntmps4
    go_wp2_with (rw [← HW.out])
    go_ret
    exact ⟨rfl, HB0.out⟩
  have HNV2 : Hid (vs2.length ≤ 1048576) := by show vs2.length ≤ _; omega
  have hv2b : vs2.length ≤ 1048576 := HNV2.out
  clear hn2b
  go_enter Try.func4, Try.ntmps4
  go_wp2_with fail
  rw [← HW.out]
  refine (HSZ.out W (HLW.out W (Below.refl _ _))).mono ?_
  rintro e w1 ⟨r, rfl, hr0, hr1, hr2, hw⟩
  have HB_w1 : Hid (Below W.heap.size W w1) := by first | exact hw | (subst hw; exact Below.refl _ _)
  have HR1 : Hid (0 ≤ r → xs0.length ≤ 1048576 ∧ ∀ i (hi : i < xs0.length), xs0[i].size ≤ 1048576) := hr2
  clear hr2 hw
  by_cases hneg : r < 0
  · go_wp2
    go_ret
    exact ⟨rfl, HEnd.out _ HB_w1.out⟩
  obtain ⟨hn, hz⟩ := HR1.out (by omega)
  have HZ : Hid (∀ i (hi : i < xs0.length), xs0[i].size ≤ 1048576) := hz
  have HNX : Hid (xs0.length ≤ 1048576) := hn
  clear hz HR1
  obtain ⟨m0, m1⟩ := HK.out w1 HB_w1.out
  go_wp2_with fail
  refine (HSO.out r w1 (by omega) hr1).mono ?_
  rintro e w2 ⟨r2, rfl, hs0, hs1, hs2, hb2⟩
  have HB_w2 : Hid (Below W.heap.size W w2) := HB_w1.out.trans (hb2.mono HB_w1.out.size)
  have HR2 : Hid (0 ≤ r2 → vs1.length ≤ 1048576) := hs2
  clear hs2 hb2 m0 m1
  by_cases hneg2 : r2 < 0
  · go_wp2
    go_ret
    exact ⟨rfl, HEnd.out _ HB_w2.out⟩
  have hnv := HR2.out (by omega)
  have HNV : Hid (vs1.length ≤ 1048576) := hnv
  have HS : Hid (∀ (w : World) (a0' : Option Addr) (k0' : Nat) (a1' : Option Addr) (a2' : Option Addr) (k2' : Nat), Strs w a0' xs0 → Nums w a1' vs1 → Nums w a2' vs2 → _) := fun w a0' k0' a1' a2' k2' q0 q1 q2 => spec_minor w a0' k0' xs0 t1 a1' vs1.length vs1.length vs1 a2' k2' vs2 rfl HNX.out q0 HZ.out HNV.out (Nat.le_refl _) q1 HWF.out q2 HNV2.out
  have HI : Hid (∀ (w : World) (a0' : Option Addr) (k0' : Nat) (a1' : Option Addr) (a2' : Option Addr) (k2' : Nat), Strs w a0' xs0 → Nums w a1' vs1 → Nums w a2' vs2 → _) := fun w a0' k0' a1' a2' k2' q0 q1 q2 => impl_minor w a0' k0' xs0 t1 a1' vs1.length vs1.length vs1 a2' k2' vs2 rfl HNX.out q0 HZ.out HNV.out (Nat.le_refl _) q1 HWF.out q2 HNV2.out HWR.out
  have hbnd : (minW xs0 t1 vs1 vs2).length ≤ 1048576 := by have := minW_len xs0 t1 vs1 vs2; omega
  have hbnd2 : (minM xs0 t1 vs1 vs2).length ≤ 1048576 := by have := minM_len xs0 t1 vs1 vs2; omega
  unfold MinAns MiOut at HS HI
  try dsimp only at HS HI
  have hul : (minW xs0 t1 vs1 vs2).length ≤ 1048576 := hbnd
  have hml : (minM xs0 t1 vs1 vs2).length ≤ 1048576 := hbnd2
  generalize minW xs0 t1 vs1 vs2 = us at HS HI hul
  generalize minM xs0 t1 vs1 vs2 = ms at HS HI hml
  generalize minZ xs0 t1 vs1 vs2 = t at HS HI
  generalize rootsB xs0 t1 vs1 vs2 = r0 at HS HI
  have hqn0 : (r0 != r0) = false := by simp
  have HUL : Hid (us.length ≤ 1048576) := hul
  have HML : Hid (ms.length ≤ 1048576) := hml
  obtain ⟨kA, hkA⟩ : ∃ kA : Nat, kA = 1 + us.length := ⟨_, rfl⟩
  have HKA : Hid (kA = 1 + us.length) := hkA
  obtain ⟨kB, hkB⟩ : ∃ kB : Nat, kB = kA + ms.length := ⟨_, rfl⟩
  have HKB : Hid (kB = kA + ms.length) := hkB
  have hq0 : ((kB : Int) != (kB : Int)) = false := by simp
  have hq1 : ¬ (kA : Int) < 0 := by omega
  have hq2 : ¬ (kB : Int) < 0 := by omega
  have HKL : Hid (kA ≤ 2097153 ∧ kB ≤ 4194304) := ⟨by omega, by omega⟩
  clear hul hml hbnd hbnd2 hkA hkB
  clear hr0 hr1 hs0 hs1 hneg HR2 hn hnv hbig hv2b
  have hacc : Below w2.heap.size w2 w2.drew := (Below.refl _ _).drew
  have HCU_w6 : Hid (∀ w', Below w2.heap.size w2 w' → Below W.heap.size W w') := fun w' h => HB_w2.out.trans (h.mono HB_w2.out.size)
  obtain ⟨m0, m1⟩ := HK.out w2 HB_w2.out
  go_upto_region 10 with fail
  go_cut [8, 9, 10] (fun v vm e0 wx => ∃ (B : Nat) (aR : Option Addr) (gR kR : Nat) (aM : Option Addr) (gM kM : Nat), v = .pointer (some ⟨B, 0, none⟩) ∧ vm = .slice aM ms.length kM ∧ e0 = .bool r0 ∧ OVar B t aR gR us.length kR us wx ∧ Ints wx aM gM ms ∧ w2.heap.size ≤ B ∧ w2.heap.size ≤ gR ∧ w2.heap.size ≤ gM ∧ Below w2.heap.size w2 wx)
  case first =>
    go_region_held3 (fun w' => w'.cell? ⟨w.heap.size, 0, none⟩ = some (.int .i64 t1) ∧ w'.cell? ⟨w.heap.size, 1, none⟩ = some (.slice b1 vs1.length vc1)) (first | with_reducible exact HK.out _ (HCU_w6.out _ hacc) | with_reducible exact HK.out _ (HCU_w6.out _ (hacc.alloc hacc.size _)) | exact HK.out _ (HCU_w6.out _ (hacc.alloc hacc.size _)) | exact HK.out _ (HCU_w6.out _ ((hacc.setCell (p := ⟨_, 0, none⟩) hUA _).setCell (p := ⟨_, 1, none⟩) hUA _)))
      (first | (go_at_call 11; have _p := hPR; refine (toStringS_any _ a0 c0 xs0 HNX.out (HLW.out _ (HCU_w6.out _ hacc))).mono ?_; rintro e w3 ⟨gS, rfl, hgX, hgY, hlS, hrX, hbX⟩; have hac2 : Below w2.heap.size w2 w3 := hacc.trans (hbX.mono hacc.size); have hPR2 := hPR.later hbX; clear _p hPR; have hPR := hPR2; clear hPR2; clear hacc; have hacc := hac2; clear hac2 hbX hgX hgY hrX) | (go_at_call 11; refine (toStringS_any _ a0 c0 xs0 HNX.out (HLW.out _ (HCU_w6.out _ (hacc.alloc hacc.size _)))).mono ?_; rintro e w3 ⟨gS, rfl, hgX, hgY, hlS, hrX, hbX⟩; have hac2 : Below w2.heap.size w2 w3 := (hacc.alloc hacc.size _).trans (hbX.mono (hacc.alloc hacc.size _).size); have hUA : w2.heap.size ≤ w2.heap.size := Nat.le_refl _; have hPR0 := (nu.Pair.start w2.drew 31).later hbX; have hPR : nu.Pair w2 w3 := ⟨⟨hPR0.below.os, hPR0.below.tape, hPR0.below.output, hPR0.below.size, hPR0.below.block⟩, hPR0.lt, hPR0.cell, hPR0.free⟩; clear hPR0; clear hacc; have hacc := hac2; clear hac2 hbX hgX hgY hrX) | (go_at_call 11; refine (toStringS_any _ a0 c0 xs0 HNX.out (HLW.out _ (HCU_w6.out _ hacc))).mono ?_; rintro e w3 ⟨gS, rfl, hgX, hgY, hlS, hrX, hbX⟩; have hac2 : Below w2.heap.size w2 w3 := hacc.trans (hbX.mono hacc.size); clear hacc; have hacc := hac2; clear hac2 hbX hgX hgY hrX) | (go_at_call 12; have _p := hPR; refine (toNur_any _ t1 b1 vc1 vs1 HNV.out (HNW.out _ (HCU_w6.out _ hacc))).mono ?_; rintro e w4 ⟨gO, rfl, hgX, hgY, hlO, hbX⟩; have hac2 : Below w2.heap.size w2 w4 := hacc.trans (hbX.mono hacc.size); have hPR2 := hPR.later hbX; clear _p hPR; have hPR := hPR2; clear hPR2; have hlS2 := hlS.below hbX; clear hlS; have hlS := hlS2; clear hlS2; clear hacc; have hacc := hac2; clear hac2 hbX hgX hgY) | (go_at_call 12; refine (toNur_any _ t1 b1 vc1 vs1 HNV.out (HNW.out _ (HCU_w6.out _ (hacc.alloc hacc.size _)))).mono ?_; rintro e w4 ⟨gO, rfl, hgX, hgY, hlO, hbX⟩; have hac2 : Below w2.heap.size w2 w4 := (hacc.alloc hacc.size _).trans (hbX.mono (hacc.alloc hacc.size _).size); have hUA := hacc.size; have hPR := (nu.Pair.start _ 31).later hbX; have hlS2 := (hlS.below ((Below.refl _ _).alloc (Nat.le_refl _) _)).below hbX; clear hlS; have hlS := hlS2; clear hlS2; clear hacc; have hacc := hac2; clear hac2 hbX hgX hgY) | (go_at_call 12; refine (toNur_any _ t1 b1 vc1 vs1 HNV.out (HNW.out _ (HCU_w6.out _ hacc))).mono ?_; rintro e w4 ⟨gO, rfl, hgX, hgY, hlO, hbX⟩; have hac2 : Below w2.heap.size w2 w4 := hacc.trans (hbX.mono hacc.size); have hlS2 := hlS.below hbX; clear hlS; have hlS := hlS2; clear hlS2; clear hacc; have hacc := hac2; clear hac2 hbX hgX hgY) | (go_at_call 13; have _p := hPR; refine (toInt64S_any _ b2 vc2 vs2 HNV2.out (HNR.out _ (HCU_w6.out _ hacc))).mono ?_; rintro e w5 ⟨gN, rfl, hgX, hgY, hlN, hbX⟩; have hac2 : Below w2.heap.size w2 w5 := hacc.trans (hbX.mono hacc.size); have hPR2 := hPR.later hbX; clear _p hPR; have hPR := hPR2; clear hPR2; have hlS2 := hlS.below hbX; clear hlS; have hlS := hlS2; clear hlS2; have hlO2 := hlO.below hbX; clear hlO; have hlO := hlO2; clear hlO2; clear hacc; have hacc := hac2; clear hac2 hbX hgX hgY) | (go_at_call 13; refine (toInt64S_any _ b2 vc2 vs2 HNV2.out (HNR.out _ (HCU_w6.out _ (hacc.alloc hacc.size _)))).mono ?_; rintro e w5 ⟨gN, rfl, hgX, hgY, hlN, hbX⟩; have hac2 : Below w2.heap.size w2 w5 := (hacc.alloc hacc.size _).trans (hbX.mono (hacc.alloc hacc.size _).size); have hUA := hacc.size; have hPR := (nu.Pair.start _ 31).later hbX; have hlS2 := (hlS.below ((Below.refl _ _).alloc (Nat.le_refl _) _)).below hbX; clear hlS; have hlS := hlS2; clear hlS2; have hlO2 := (hlO.below ((Below.refl _ _).alloc (Nat.le_refl _) _)).below hbX; clear hlO; have hlO := hlO2; clear hlO2; clear hacc; have hacc := hac2; clear hac2 hbX hgX hgY) | (go_at_call 13; refine (toInt64S_any _ b2 vc2 vs2 HNV2.out (HNR.out _ (HCU_w6.out _ hacc))).mono ?_; rintro e w5 ⟨gN, rfl, hgX, hgY, hlN, hbX⟩; have hac2 : Below w2.heap.size w2 w5 := hacc.trans (hbX.mono hacc.size); have hlS2 := hlS.below hbX; clear hlS; have hlS := hlS2; clear hlS2; have hlO2 := hlO.below hbX; clear hlO; have hlO := hlO2; clear hlO2; clear hacc; have hacc := hac2; clear hac2 hbX hgX hgY) | (go_at_call 22; have _p := hPR; refine (HS.out _ _ _ _ _ _ hlS hlO.nums hlN.nums).mono ?_; rintro e w6 ⟨a_w6, g_w6, k_w6, b_w6, h_w6, d_w6, rfl, hgX, hhX, hinR, hinM, hltR, hbX⟩; have hac2 : Below w2.heap.size w2 w6 := hacc.trans (hbX.mono hacc.size); have hgU : w2.heap.size ≤ g_w6 := Nat.le_trans hacc.size hgX; have hhU : w2.heap.size ≤ h_w6 := Nat.le_trans hacc.size hhX; have hgT := Nat.lt_of_lt_of_le hPR.lt hgX; have hhT := Nat.lt_of_lt_of_le hPR.lt hhX; have hPR2 := hPR.later hbX; clear _p hPR; have hPR := hPR2; clear hPR2; clear hacc; have hacc := hac2; clear hac2 hbX hltR hgX hhX hlS hlO hlN; have v0 := hPR.cell 0 _ rfl; have v1 := hPR.cell 1 _ rfl; have z0 := hPR.free 0; have z1 := hPR.free 1) | (go_at_call 22; refine (HS.out _ _ _ _ _ _ (hlS.below ((Below.refl _ _).alloc (Nat.le_refl _) _)) (hlO.below ((Below.refl _ _).alloc (Nat.le_refl _) _)).nums (hlN.below ((Below.refl _ _).alloc (Nat.le_refl _) _)).nums).mono ?_; rintro e w6 ⟨a_w6, g_w6, k_w6, b_w6, h_w6, d_w6, rfl, hgX, hhX, hinR, hinM, hltR, hbX⟩; have hac2 : Below w2.heap.size w2 w6 := (hacc.alloc hacc.size _).trans (hbX.mono (hacc.alloc hacc.size _).size); have hgU : w2.heap.size ≤ g_w6 := Nat.le_trans (hacc.alloc hacc.size _).size hgX; have hhU : w2.heap.size ≤ h_w6 := Nat.le_trans (hacc.alloc hacc.size _).size hhX; have hgT := Nat.lt_of_lt_of_le (nu.Pair.start _ 31).lt hgX; have hhT := Nat.lt_of_lt_of_le (nu.Pair.start _ 31).lt hhX; have hUA := hacc.size; have hPR := (nu.Pair.start _ 31).later hbX; clear hacc; have hacc := hac2; clear hac2 hbX hltR hgX hhX hlS hlO hlN; have v0 := hPR.cell 0 _ rfl; have v1 := hPR.cell 1 _ rfl; have z0 := hPR.free 0; have z1 := hPR.free 1) | (go_at_call 22; refine (HS.out _ _ _ _ _ _ hlS hlO.nums hlN.nums).mono ?_; rintro e w6 ⟨a_w6, g_w6, k_w6, b_w6, h_w6, d_w6, rfl, hgX, hhX, hinR, hinM, hltR, hbX⟩; have hac2 : Below w2.heap.size w2 w6 := hacc.trans (hbX.mono hacc.size); have hgU : w2.heap.size ≤ g_w6 := Nat.le_trans hacc.size hgX; have hhU : w2.heap.size ≤ h_w6 := Nat.le_trans hacc.size hhX; clear hacc; have hacc := hac2; clear hac2 hbX hltR hgX hhX hlS hlO hlN))
    all_goals
      go_wp2_with fail
      go_meet
      first
        | exact ⟨_, a_w6, g_w6, k_w6, b_w6, h_w6, d_w6, rfl, rfl, rfl, ovar_put hPR hinR hgT rfl, (hinM.grown (grown_set _ _ _ _) (Nat.ne_of_gt hhT)).grown (grown_set _ _ _ _) (Nat.ne_of_gt hhT), hUA, hgU, hhU, (hacc.setCell (p := ⟨_, 0, none⟩) hUA _).setCell (p := ⟨_, 1, none⟩) hUA _⟩
        | exact ⟨_, a_w6, g_w6, k_w6, b_w6, h_w6, d_w6, rfl, rfl, rfl, OVar.start w6 t a_w6 g_w6 us.length k_w6 us _ rfl hinR, hinM.below ((Below.refl _ _).alloc (Nat.le_refl _) _), hacc.size, hgU, hhU, hacc.alloc hacc.size _⟩
  case rest =>
    obtain ⟨BSW, a_SW, g_SW, k_SW, a_SM, g_SM, k_SM, rfl, rfl, rfl, hV, hM, hBU, hgU, hhU, hU⟩ := hcut
    obtain ⟨X7, hXe⟩ : ∃ X, X = wc := ⟨_, rfl⟩
    rw [← hXe] at hV hM hU ⊢
    have SWbx : Hid (OVar BSW t a_SW g_SW us.length k_SW us X7) := hV
    have SMbx : Hid (Ints X7 a_SM g_SM ms) := hM
    have LO_SW : Hid (w2.heap.size ≤ g_SW) := hgU
    have LO_SM : Hid (w2.heap.size ≤ g_SM) := hhU
    have LB_SW : Hid (w2.heap.size ≤ BSW) := hBU
    have HI_SW : Hid (0 < us.length → g_SW < X7.heap.size) := fun h => hV.tx.lt h
    have HI_SM : Hid (0 < ms.length → g_SM < X7.heap.size) := fun h => hM.lt h
    have BL_SW : Hid (BSW < X7.heap.size) := hV.lt
    have SZ_X7 : Hid (w2.heap.size ≤ X7.heap.size) := hU.size
    have HB_X7 : Hid (Below W.heap.size W X7) := HB_w2.out.trans (hU.mono HB_w2.out.size)
    have SWv0 : Hid (OVar BSW t a_SW g_SW us.length k_SW us X7) := SWbx.out
    have SMv0 : Hid (Ints X7 a_SM g_SM ms) := SMbx.out
    clear hV hM hBU hgU hhU hU hXe m0 m1 hacc SWbx SMbx HCU_w6 HB_w2
    go_wp2_with fail
    refine (toStringS_any X7 a0 c0 xs0 HNX.out (HLW.out _ HB_X7.out)).mono ?_
    rintro e w8 ⟨g_w8, rfl, hlo, hhi, hst, hrw, hb⟩
    have LO_X0 : Hid (X7.heap.size ≤ g_w8) := hlo
    have HI_X0 : Hid (g_w8 < w8.heap.size) := hhi
    have LW_X0 : Hid (W.heap.size ≤ g_w8) := by have h1 := HB_X7.out.size; show W.heap.size ≤ g_w8; omega
    have SZ_w8 : Hid (X7.heap.size ≤ w8.heap.size) := hb.size
    have SWv1 : Hid (OVar BSW t a_SW g_SW us.length k_SW us w8) := SWv0.out.below hb
    have SMv1 : Hid (Ints w8 a_SM g_SM ms) := SMv0.out.below hb
    have HB_w8 : Hid (Below W.heap.size W w8) := HB_X7.out.trans (hb.mono HB_X7.out.size)
    have X0v0 : Hid (Txts w8 (some ⟨g_w8, 0, none⟩) g_w8 xs0) := txts_of hst hrw
    clear hb hlo hhi hst hrw SWv0 SMv0 HB_X7
    obtain ⟨m0, m1⟩ := HK.out w8 HB_w8.out
    go_wp2_with fail
    refine (toNur_any w8 t1 b1 vc1 vs1 HNV.out (HNW.out _ HB_w8.out)).mono ?_
    rintro e w9 ⟨g_w9, rfl, hlo, hhi, hin, hb⟩
    have LO_X1 : Hid (w8.heap.size ≤ g_w9) := hlo
    have HI_X1 : Hid (g_w9 < w9.heap.size) := hhi
    have LW_X1 : Hid (W.heap.size ≤ g_w9) := by have h1 := HB_w8.out.size; show W.heap.size ≤ g_w9; omega
    have SZ_w9 : Hid (w8.heap.size ≤ w9.heap.size) := hb.size
    have SWv2 : Hid (OVar BSW t a_SW g_SW us.length k_SW us w9) := SWv1.out.below hb
    have SMv2 : Hid (Ints w9 a_SM g_SM ms) := SMv1.out.below hb
    have X0v1 : Hid (Txts w9 (some ⟨g_w8, 0, none⟩) g_w8 xs0) := X0v0.out.below hb
    have HB_w9 : Hid (Below W.heap.size W w9) := HB_w8.out.trans (hb.mono HB_w8.out.size)
    obtain ⟨Y10, hY10⟩ : ∃ Y, Y = w9.alloc (.cells #[.int .i64 t1, .slice (some ⟨g_w9, 0, none⟩) vs1.length vs1.length] 31) := ⟨_, rfl⟩
    have HY10 : Hid (Y10 = w9.alloc (.cells #[.int .i64 t1, .slice (some ⟨g_w9, 0, none⟩) vs1.length vs1.length] 31)) := hY10
    have hbY10 : Below w9.heap.size w9 Y10 := by rw [hY10]; exact (Below.refl _ _).alloc (Nat.le_refl _) _
    obtain ⟨BX1, hBX1⟩ : ∃ B, B = w9.heap.size := ⟨_, rfl⟩
    have HEX1 : Hid (BX1 = w9.heap.size) := hBX1
    have X1bx : Hid (OVar BX1 t1 (some ⟨g_w9, 0, none⟩) g_w9 vs1.length vs1.length vs1 Y10) := by rw [hY10, hBX1]; exact OVar.start w9 t1 _ g_w9 _ _ vs1 _ rfl hin
    have BL_X1 : Hid (BX1 < Y10.heap.size) := X1bx.out.lt
    have BW_X1 : Hid (W.heap.size ≤ BX1) := by have h1 := HB_w9.out.size; show W.heap.size ≤ BX1; omega
    have SZ_Y10 : Hid (w9.heap.size ≤ Y10.heap.size) := hbY10.size
    have SWv3 : Hid (OVar BSW t a_SW g_SW us.length k_SW us Y10) := SWv2.out.below hbY10
    have SMv3 : Hid (Ints Y10 a_SM g_SM ms) := SMv2.out.below hbY10
    have X0v2 : Hid (Txts Y10 (some ⟨g_w8, 0, none⟩) g_w8 xs0) := X0v1.out.below hbY10
    have HB_Y10 : Hid (Below W.heap.size W Y10) := HB_w9.out.trans (hbY10.mono HB_w9.out.size)
    have X1v0 : Hid (OVar BX1 t1 (some ⟨g_w9, 0, none⟩) g_w9 vs1.length vs1.length vs1 Y10) := X1bx.out
    clear hY10 hbY10 hBX1 X1bx hb hlo hhi hin m0 m1 SWv1 SMv1 X0v0 HB_w8 SWv2 SMv2 X0v1 HB_w9
    go_wp2_with (first | (rw [← HY10.out, ← HEX1.out]) | (rw [← HY10.out]))
    try rw [← HY10.out]
    try rw [← HEX1.out]
    refine (toInt64S_any Y10 b2 vc2 vs2 HNV2.out (HNR.out _ HB_Y10.out)).mono ?_
    rintro e w11 ⟨g_w11, rfl, hlo, hhi, hi, hb⟩
    have LO_X2 : Hid (Y10.heap.size ≤ g_w11) := hlo
    have HI_X2 : Hid (g_w11 < w11.heap.size) := hhi
    have LW_X2 : Hid (W.heap.size ≤ g_w11) := by have h1 := HB_Y10.out.size; show W.heap.size ≤ g_w11; omega
    have SZ_w11 : Hid (Y10.heap.size ≤ w11.heap.size) := hb.size
    have SWv4 : Hid (OVar BSW t a_SW g_SW us.length k_SW us w11) := SWv3.out.below hb
    have SMv4 : Hid (Ints w11 a_SM g_SM ms) := SMv3.out.below hb
    have X0v3 : Hid (Txts w11 (some ⟨g_w8, 0, none⟩) g_w8 xs0) := X0v2.out.below hb
    have X1v1 : Hid (OVar BX1 t1 (some ⟨g_w9, 0, none⟩) g_w9 vs1.length vs1.length vs1 w11) := X1v0.out.below hb
    have HB_w11 : Hid (Below W.heap.size W w11) := HB_Y10.out.trans (hb.mono HB_Y10.out.size)
    have X2v0 : Hid (Ints w11 (some ⟨g_w11, 0, none⟩) g_w11 vs2) := hi
    clear hb hi hlo hhi SWv3 SMv3 X0v2 X1v0 HB_Y10
    have q0 := X1v1.out.c0
    have q1 := X1v1.out.c1
    go_wp2_with fail
    refine (HI.out w11 _ _ _ _ _ X0v3.out.strs X1v1.out.tx.nums X2v0.out.nums).mono ?_
    rintro e w12 ⟨a_GW, g_GW, k_GW, a_GM, g_GM, k_GM, rfl, hlo, hlm, hi, hm, hlt, hb⟩
    have LT_G : Hid (0 < us.length → g_GW < g_GM) := hlt
    have LO_GW : Hid (w11.heap.size ≤ g_GW) := hlo
    have LO_GM : Hid (w11.heap.size ≤ g_GM) := hlm
    have HI_GW : Hid (0 < us.length → g_GW < w12.heap.size) := fun h => hi.lt h
    have HI_GM : Hid (0 < ms.length → g_GM < w12.heap.size) := fun h => hm.lt h
    have LW_GW : Hid (W.heap.size ≤ g_GW) := by have h1 := HB_w11.out.size; show W.heap.size ≤ g_GW; omega
    have LW_GM : Hid (W.heap.size ≤ g_GM) := by have h1 := HB_w11.out.size; show W.heap.size ≤ g_GM; omega
    have SZ_w12 : Hid (w11.heap.size ≤ w12.heap.size) := hb.size
    have SWv5 : Hid (OVar BSW t a_SW g_SW us.length k_SW us w12) := SWv4.out.below hb
    have SMv5 : Hid (Ints w12 a_SM g_SM ms) := SMv4.out.below hb
    have X0v4 : Hid (Txts w12 (some ⟨g_w8, 0, none⟩) g_w8 xs0) := X0v3.out.below hb
    have X1v2 : Hid (OVar BX1 t1 (some ⟨g_w9, 0, none⟩) g_w9 vs1.length vs1.length vs1 w12) := X1v1.out.below hb
    have X2v1 : Hid (Ints w12 (some ⟨g_w11, 0, none⟩) g_w11 vs2) := X2v0.out.below hb
    have HB_w12 : Hid (Below W.heap.size W w12) := HB_w11.out.trans (hb.mono HB_w11.out.size)
    have GMb0 : Hid (Ints w12 a_GM g_GM ms) := hm
    obtain ⟨Y13, hY13⟩ : ∃ Y, Y = w12.alloc (.cells #[.int .i64 t, .slice a_GW us.length k_GW] 31) := ⟨_, rfl⟩
    have HY13 : Hid (Y13 = w12.alloc (.cells #[.int .i64 t, .slice a_GW us.length k_GW] 31)) := hY13
    have hbY13 : Below w12.heap.size w12 Y13 := by rw [hY13]; exact (Below.refl _ _).alloc (Nat.le_refl _) _
    obtain ⟨BGW, hBGW⟩ : ∃ B, B = w12.heap.size := ⟨_, rfl⟩
    have HEGW : Hid (BGW = w12.heap.size) := hBGW
    have GWbx : Hid (OVar BGW t a_GW g_GW us.length k_GW us Y13) := by rw [hY13, hBGW]; exact OVar.start w12 t a_GW g_GW us.length k_GW us _ rfl hi
    have GMbx : Hid (Ints Y13 a_GM g_GM ms) := GMb0.out.below hbY13
    have BL_GW : Hid (BGW < Y13.heap.size) := GWbx.out.lt
    have SZ_Y13 : Hid (w12.heap.size ≤ Y13.heap.size) := hbY13.size
    have SWv6 : Hid (OVar BSW t a_SW g_SW us.length k_SW us Y13) := SWv5.out.below hbY13
    have SMv6 : Hid (Ints Y13 a_SM g_SM ms) := SMv5.out.below hbY13
    have X0v5 : Hid (Txts Y13 (some ⟨g_w8, 0, none⟩) g_w8 xs0) := X0v4.out.below hbY13
    have X1v3 : Hid (OVar BX1 t1 (some ⟨g_w9, 0, none⟩) g_w9 vs1.length vs1.length vs1 Y13) := X1v2.out.below hbY13
    have X2v2 : Hid (Ints Y13 (some ⟨g_w11, 0, none⟩) g_w11 vs2) := X2v1.out.below hbY13
    have HB_Y13 : Hid (Below W.heap.size W Y13) := HB_w12.out.trans (hbY13.mono HB_w12.out.size)
    have GWv0 : Hid (OVar BGW t a_GW g_GW us.length k_GW us Y13) := GWbx.out
    have GMv0 : Hid (Ints Y13 a_GM g_GM ms) := GMbx.out
    clear hY13 hbY13 hBGW GWbx GMbx GMb0 hb hi hm hlo hlm hlt q0 q1 SWv4 SMv4 X0v3 X1v1 X2v0 HB_w11 SWv5 SMv5 X0v4 X1v2 X2v1 HB_w12
    have p0 := GWv0.out.c0
    have p1 := GWv0.out.c1
    have q0 := SWv6.out.c0
    have q1 := SWv6.out.c1
    go_wp2_with (first | (rw [← HY13.out, ← HEGW.out]) | (rw [← HY13.out]))
    try rw [← HY13.out]
    try rw [← HEGW.out]
    refine (eqNur_same Y13 t a_GW a_SW g_GW g_SW us.length k_GW k_SW us rfl HUL.out GWv0.out.tx SWv6.out.tx).mono ?_
    rintro e w14 ⟨rfl, hb⟩
    have SZ_w14 : Hid (Y13.heap.size ≤ w14.heap.size) := hb.size
    have SWv7 : Hid (OVar BSW t a_SW g_SW us.length k_SW us w14) := SWv6.out.below hb
    have SMv7 : Hid (Ints w14 a_SM g_SM ms) := SMv6.out.below hb
    have X0v6 : Hid (Txts w14 (some ⟨g_w8, 0, none⟩) g_w8 xs0) := X0v5.out.below hb
    have X1v4 : Hid (OVar BX1 t1 (some ⟨g_w9, 0, none⟩) g_w9 vs1.length vs1.length vs1 w14) := X1v3.out.below hb
    have X2v3 : Hid (Ints w14 (some ⟨g_w11, 0, none⟩) g_w11 vs2) := X2v2.out.below hb
    have GWv1 : Hid (OVar BGW t a_GW g_GW us.length k_GW us w14) := GWv0.out.below hb
    have GMv1 : Hid (Ints w14 a_GM g_GM ms) := GMv0.out.below hb
    have HB_w14 : Hid (Below W.heap.size W w14) := HB_Y13.out.trans (hb.mono HB_Y13.out.size)
    clear hb p0 p1 q0 q1 SWv6 SMv6 X0v5 X1v3 X2v2 GWv0 GMv0 HB_Y13
    go_wp2_with fail
    refine (eqInt64S_same w14 a_GM a_SM g_GM g_SM k_GM k_SM ms HML.out GMv1.out SMv7.out).mono ?_
    rintro e w15 ⟨rfl, hb⟩
    have SZ_w15 : Hid (w14.heap.size ≤ w15.heap.size) := hb.size
    have SWv8 : Hid (OVar BSW t a_SW g_SW us.length k_SW us w15) := SWv7.out.below hb
    have SMv8 : Hid (Ints w15 a_SM g_SM ms) := SMv7.out.below hb
    have X0v7 : Hid (Txts w15 (some ⟨g_w8, 0, none⟩) g_w8 xs0) := X0v6.out.below hb
    have X1v5 : Hid (OVar BX1 t1 (some ⟨g_w9, 0, none⟩) g_w9 vs1.length vs1.length vs1 w15) := X1v4.out.below hb
    have X2v4 : Hid (Ints w15 (some ⟨g_w11, 0, none⟩) g_w11 vs2) := X2v3.out.below hb
    have GWv2 : Hid (OVar BGW t a_GW g_GW us.length k_GW us w15) := GWv1.out.below hb
    have GMv2 : Hid (Ints w15 a_GM g_GM ms) := GMv1.out.below hb
    have HB_w15 : Hid (Below W.heap.size W w15) := HB_w14.out.trans (hb.mono HB_w14.out.size)
    clear hb SWv7 SMv7 X0v6 X1v4 X2v3 GWv1 GMv1 HB_w14
    go_wp2_with fail
    refine (toStringS_any w15 a0 c0 xs0 HNX.out (HLW.out _ HB_w15.out)).mono ?_
    rintro e w16 ⟨g_w16, rfl, hlo, hhi, hst, hrw, hb⟩
    have LO_T0 : Hid (w15.heap.size ≤ g_w16) := hlo
    have HI_T0 : Hid (g_w16 < w16.heap.size) := hhi
    have LW_T0 : Hid (W.heap.size ≤ g_w16) := by have h1 := HB_w15.out.size; show W.heap.size ≤ g_w16; omega
    have SZ_w16 : Hid (w15.heap.size ≤ w16.heap.size) := hb.size
    have SWv9 : Hid (OVar BSW t a_SW g_SW us.length k_SW us w16) := SWv8.out.below hb
    have SMv9 : Hid (Ints w16 a_SM g_SM ms) := SMv8.out.below hb
    have X0v8 : Hid (Txts w16 (some ⟨g_w8, 0, none⟩) g_w8 xs0) := X0v7.out.below hb
    have X1v6 : Hid (OVar BX1 t1 (some ⟨g_w9, 0, none⟩) g_w9 vs1.length vs1.length vs1 w16) := X1v5.out.below hb
    have X2v5 : Hid (Ints w16 (some ⟨g_w11, 0, none⟩) g_w11 vs2) := X2v4.out.below hb
    have GWv3 : Hid (OVar BGW t a_GW g_GW us.length k_GW us w16) := GWv2.out.below hb
    have GMv3 : Hid (Ints w16 a_GM g_GM ms) := GMv2.out.below hb
    have HB_w16 : Hid (Below W.heap.size W w16) := HB_w15.out.trans (hb.mono HB_w15.out.size)
    have T0v0 : Hid (Txts w16 (some ⟨g_w16, 0, none⟩) g_w16 xs0) := txts_of hst hrw
    clear hb hlo hhi hst hrw SWv8 SMv8 X0v7 X1v5 X2v4 GWv2 GMv2 HB_w15
    go_wp2_with fail
    refine (eqStringS_same w16 _ _ _ _ xs0 HNX.out X0v8.out.strs T0v0.out.strs).mono ?_
    rintro e w17 ⟨rfl, hb⟩
    have SZ_w17 : Hid (w16.heap.size ≤ w17.heap.size) := hb.size
    have SWv10 : Hid (OVar BSW t a_SW g_SW us.length k_SW us w17) := SWv9.out.below hb
    have SMv10 : Hid (Ints w17 a_SM g_SM ms) := SMv9.out.below hb
    have X0v9 : Hid (Txts w17 (some ⟨g_w8, 0, none⟩) g_w8 xs0) := X0v8.out.below hb
    have X1v7 : Hid (OVar BX1 t1 (some ⟨g_w9, 0, none⟩) g_w9 vs1.length vs1.length vs1 w17) := X1v6.out.below hb
    have X2v6 : Hid (Ints w17 (some ⟨g_w11, 0, none⟩) g_w11 vs2) := X2v5.out.below hb
    have GWv4 : Hid (OVar BGW t a_GW g_GW us.length k_GW us w17) := GWv3.out.below hb
    have GMv4 : Hid (Ints w17 a_GM g_GM ms) := GMv3.out.below hb
    have T0v1 : Hid (Txts w17 (some ⟨g_w16, 0, none⟩) g_w16 xs0) := T0v0.out.below hb
    have HB_w17 : Hid (Below W.heap.size W w17) := HB_w16.out.trans (hb.mono HB_w16.out.size)
    clear hb SWv9 SMv9 X0v8 X1v6 X2v5 GWv3 GMv3 T0v0 HB_w16
    clear T0v1
    have hacc : Below w17.heap.size w17 w17.drew := (Below.refl _ _).drew
    have HXK : Hid (OVar BX1 t1 (some ⟨g_w9, 0, none⟩) g_w9 vs1.length vs1.length vs1 w17) := X1v7.out
    have HCK : Hid (∀ w', Below w17.heap.size w17 w' → (w'.cell? ⟨w.heap.size, 0, none⟩ = some (.int .i64 t1) ∧ w'.cell? ⟨w.heap.size, 1, none⟩ = some (.slice b1 vs1.length vc1)) ∧ w'.cell? ⟨BX1, 0, none⟩ = some (.int .i64 t1) ∧ w'.cell? ⟨BX1, 1, none⟩ = some (.slice (some ⟨g_w9, 0, none⟩) vs1.length vs1.length)) := fun w' h => ⟨HK.out w' (HB_w17.out.trans (h.mono HB_w17.out.size)), (HXK.out.below h).c0, (HXK.out.below h).c1⟩
    have HNU2 : Hid (∀ w', Below w17.heap.size w17 w' → Nums w' b1 vs1) := fun w' h => HNW.out _ (HB_w17.out.trans (h.mono HB_w17.out.size))
    obtain ⟨⟨m0, m1⟩, q0, q1⟩ := HCK.out w17 (Below.refl _ _)
    go_wp2_with fail
    go_region_held3 (fun w' => (w'.cell? ⟨w.heap.size, 0, none⟩ = some (.int .i64 t1) ∧ w'.cell? ⟨w.heap.size, 1, none⟩ = some (.slice b1 vs1.length vc1)) ∧ w'.cell? ⟨BX1, 0, none⟩ = some (.int .i64 t1) ∧ w'.cell? ⟨BX1, 1, none⟩ = some (.slice (some ⟨g_w9, 0, none⟩) vs1.length vs1.length)) (first | with_reducible exact HCK.out _ hacc) (first | (go_at_call 12; refine (toNur_any _ t1 b1 vc1 vs1 HNV.out (HNU2.out _ hacc)).mono ?_; rintro e w18 ⟨gO, rfl, hgX, hgY, hlO, hbX⟩; have hac2 : Below w17.heap.size w17 w18 := hacc.trans (hbX.mono hacc.size); clear hacc hbX; have hacc := hac2; clear hac2; clear hgX hgY) | (go_at_call 17; refine (eqNur_same w18 t1 _ _ g_w9 gO vs1.length vs1.length vs1.length vs1 rfl HNV.out (HXK.out.below hacc).tx hlO).mono ?_; rintro e w19 ⟨rfl, hbX⟩; have hac2 : Below w17.heap.size w17 w19 := hacc.trans (hbX.mono hacc.size); clear hacc hbX; have hacc := hac2; clear hac2; clear hlO))
    all_goals
      have SZ_w19 : Hid (w17.heap.size ≤ w19.heap.size) := hacc.size
      have SWv11 : Hid (OVar BSW t a_SW g_SW us.length k_SW us w19) := SWv10.out.below hacc
      have SMv11 : Hid (Ints w19 a_SM g_SM ms) := SMv10.out.below hacc
      have X0v10 : Hid (Txts w19 (some ⟨g_w8, 0, none⟩) g_w8 xs0) := X0v9.out.below hacc
      have X1v8 : Hid (OVar BX1 t1 (some ⟨g_w9, 0, none⟩) g_w9 vs1.length vs1.length vs1 w19) := X1v7.out.below hacc
      have X2v7 : Hid (Ints w19 (some ⟨g_w11, 0, none⟩) g_w11 vs2) := X2v6.out.below hacc
      have GWv5 : Hid (OVar BGW t a_GW g_GW us.length k_GW us w19) := GWv4.out.below hacc
      have GMv5 : Hid (Ints w19 a_GM g_GM ms) := GMv4.out.below hacc
      have HB_w19 : Hid (Below W.heap.size W w19) := HB_w17.out.trans (hacc.mono HB_w17.out.size)
      clear hacc m0 m1 q0 q1 HXK HCK HNU2 SWv10 SMv10 X0v9 X1v7 X2v6 GWv4 GMv4 HB_w17
      go_wp2_with fail
      refine (toInt64S_any w19 b2 vc2 vs2 HNV2.out (HNR.out _ HB_w19.out)).mono ?_
      rintro e w20 ⟨g_w20, rfl, hlo, hhi, hi, hb⟩
      have LO_T2 : Hid (w19.heap.size ≤ g_w20) := hlo
      have HI_T2 : Hid (g_w20 < w20.heap.size) := hhi
      have LW_T2 : Hid (W.heap.size ≤ g_w20) := by have h1 := HB_w19.out.size; show W.heap.size ≤ g_w20; omega
      have SZ_w20 : Hid (w19.heap.size ≤ w20.heap.size) := hb.size
      have SWv12 : Hid (OVar BSW t a_SW g_SW us.length k_SW us w20) := SWv11.out.below hb
      have SMv12 : Hid (Ints w20 a_SM g_SM ms) := SMv11.out.below hb
      have X0v11 : Hid (Txts w20 (some ⟨g_w8, 0, none⟩) g_w8 xs0) := X0v10.out.below hb
      have X1v9 : Hid (OVar BX1 t1 (some ⟨g_w9, 0, none⟩) g_w9 vs1.length vs1.length vs1 w20) := X1v8.out.below hb
      have X2v8 : Hid (Ints w20 (some ⟨g_w11, 0, none⟩) g_w11 vs2) := X2v7.out.below hb
      have GWv6 : Hid (OVar BGW t a_GW g_GW us.length k_GW us w20) := GWv5.out.below hb
      have GMv6 : Hid (Ints w20 a_GM g_GM ms) := GMv5.out.below hb
      have HB_w20 : Hid (Below W.heap.size W w20) := HB_w19.out.trans (hb.mono HB_w19.out.size)
      have T2v0 : Hid (Ints w20 (some ⟨g_w20, 0, none⟩) g_w20 vs2) := hi
      clear hb hi hlo hhi SWv11 SMv11 X0v10 X1v8 X2v7 GWv5 GMv5 HB_w19
      go_wp2_with fail
      refine (eqInt64S_same w20 (some ⟨g_w11, 0, none⟩) (some ⟨g_w20, 0, none⟩) g_w11 g_w20 vs2.length vs2.length vs2 HNV2.out X2v8.out T2v0.out).mono ?_
      rintro e w21 ⟨rfl, hb⟩
      have SZ_w21 : Hid (w20.heap.size ≤ w21.heap.size) := hb.size
      have SWv13 : Hid (OVar BSW t a_SW g_SW us.length k_SW us w21) := SWv12.out.below hb
      have SMv13 : Hid (Ints w21 a_SM g_SM ms) := SMv12.out.below hb
      have X0v12 : Hid (Txts w21 (some ⟨g_w8, 0, none⟩) g_w8 xs0) := X0v11.out.below hb
      have X1v10 : Hid (OVar BX1 t1 (some ⟨g_w9, 0, none⟩) g_w9 vs1.length vs1.length vs1 w21) := X1v9.out.below hb
      have X2v9 : Hid (Ints w21 (some ⟨g_w11, 0, none⟩) g_w11 vs2) := X2v8.out.below hb
      have GWv7 : Hid (OVar BGW t a_GW g_GW us.length k_GW us w21) := GWv6.out.below hb
      have GMv7 : Hid (Ints w21 a_GM g_GM ms) := GMv6.out.below hb
      have T2v1 : Hid (Ints w21 (some ⟨g_w20, 0, none⟩) g_w20 vs2) := T2v0.out.below hb
      have HB_w21 : Hid (Below W.heap.size W w21) := HB_w20.out.trans (hb.mono HB_w20.out.size)
      clear hb SWv12 SMv12 X0v11 X1v9 X2v8 GWv6 GMv6 T2v0 HB_w20
      clear T2v1
      go_wp2_with fail
      refine (markStringS_any w21 _ g_w8 xs0.length _ xs0 1 rfl X0v12.out HNX.out (by omega) (by omega)).mono ?_
      rintro e w22 ⟨rfl, hg, hm⟩
      have SWv14 : Hid (OVar BSW t a_SW g_SW us.length k_SW us w22) := SWv13.out.grown hg (by have o0 := SZ_X7.out; have o1 := LO_SW.out; have o2 := LO_SM.out; have o3 := LB_SW.out; have o4 := BL_SW.out; have o5 := SZ_w8.out; have o6 := LO_X0.out; have o7 := HI_X0.out; have o8 := SZ_w9.out; have o9 := LO_X1.out; have o10 := HI_X1.out; have o11 := SZ_Y10.out; have o12 := HEX1.out; have o13 := BL_X1.out; have o14 := SZ_w11.out; have o15 := LO_X2.out; have o16 := HI_X2.out; have o17 := SZ_w12.out; have o18 := LO_GW.out; have o19 := LO_GM.out; have o20 := SZ_Y13.out; have o21 := HEGW.out; have o22 := BL_GW.out; have o23 := SZ_w14.out; have o24 := SZ_w15.out; have o25 := SZ_w16.out; have o26 := LO_T0.out; have o27 := HI_T0.out; have o28 := SZ_w17.out; have o29 := SZ_w19.out; have o30 := SZ_w20.out; have o31 := LO_T2.out; have o32 := HI_T2.out; have o33 := SZ_w21.out; omega) (fun h => by have o0 := SZ_X7.out; have o1 := LO_SW.out; have o2 := LO_SM.out; have o3 := LB_SW.out; have o4 := BL_SW.out; have o5 := SZ_w8.out; have o6 := LO_X0.out; have o7 := HI_X0.out; have o8 := SZ_w9.out; have o9 := LO_X1.out; have o10 := HI_X1.out; have o11 := SZ_Y10.out; have o12 := HEX1.out; have o13 := BL_X1.out; have o14 := SZ_w11.out; have o15 := LO_X2.out; have o16 := HI_X2.out; have o17 := SZ_w12.out; have o18 := LO_GW.out; have o19 := LO_GM.out; have o20 := SZ_Y13.out; have o21 := HEGW.out; have o22 := BL_GW.out; have o23 := SZ_w14.out; have o24 := SZ_w15.out; have o25 := SZ_w16.out; have o26 := LO_T0.out; have o27 := HI_T0.out; have o28 := SZ_w17.out; have o29 := SZ_w19.out; have o30 := SZ_w20.out; have o31 := LO_T2.out; have o32 := HI_T2.out; have o33 := SZ_w21.out; have oc := HI_SW.out h; omega)
      have SMv14 : Hid (Ints w22 a_SM g_SM ms) := SMv13.out.grown2 hg (fun h => by have o0 := SZ_X7.out; have o1 := LO_SW.out; have o2 := LO_SM.out; have o3 := LB_SW.out; have o4 := BL_SW.out; have o5 := SZ_w8.out; have o6 := LO_X0.out; have o7 := HI_X0.out; have o8 := SZ_w9.out; have o9 := LO_X1.out; have o10 := HI_X1.out; have o11 := SZ_Y10.out; have o12 := HEX1.out; have o13 := BL_X1.out; have o14 := SZ_w11.out; have o15 := LO_X2.out; have o16 := HI_X2.out; have o17 := SZ_w12.out; have o18 := LO_GW.out; have o19 := LO_GM.out; have o20 := SZ_Y13.out; have o21 := HEGW.out; have o22 := BL_GW.out; have o23 := SZ_w14.out; have o24 := SZ_w15.out; have o25 := SZ_w16.out; have o26 := LO_T0.out; have o27 := HI_T0.out; have o28 := SZ_w17.out; have o29 := SZ_w19.out; have o30 := SZ_w20.out; have o31 := LO_T2.out; have o32 := HI_T2.out; have o33 := SZ_w21.out; have oc := HI_SM.out h; omega)
      have X1v11 : Hid (OVar BX1 t1 (some ⟨g_w9, 0, none⟩) g_w9 vs1.length vs1.length vs1 w22) := X1v10.out.grown hg (by have o0 := SZ_X7.out; have o1 := LO_SW.out; have o2 := LO_SM.out; have o3 := LB_SW.out; have o4 := BL_SW.out; have o5 := SZ_w8.out; have o6 := LO_X0.out; have o7 := HI_X0.out; have o8 := SZ_w9.out; have o9 := LO_X1.out; have o10 := HI_X1.out; have o11 := SZ_Y10.out; have o12 := HEX1.out; have o13 := BL_X1.out; have o14 := SZ_w11.out; have o15 := LO_X2.out; have o16 := HI_X2.out; have o17 := SZ_w12.out; have o18 := LO_GW.out; have o19 := LO_GM.out; have o20 := SZ_Y13.out; have o21 := HEGW.out; have o22 := BL_GW.out; have o23 := SZ_w14.out; have o24 := SZ_w15.out; have o25 := SZ_w16.out; have o26 := LO_T0.out; have o27 := HI_T0.out; have o28 := SZ_w17.out; have o29 := SZ_w19.out; have o30 := SZ_w20.out; have o31 := LO_T2.out; have o32 := HI_T2.out; have o33 := SZ_w21.out; omega) (fun h => by have o0 := SZ_X7.out; have o1 := LO_SW.out; have o2 := LO_SM.out; have o3 := LB_SW.out; have o4 := BL_SW.out; have o5 := SZ_w8.out; have o6 := LO_X0.out; have o7 := HI_X0.out; have o8 := SZ_w9.out; have o9 := LO_X1.out; have o10 := HI_X1.out; have o11 := SZ_Y10.out; have o12 := HEX1.out; have o13 := BL_X1.out; have o14 := SZ_w11.out; have o15 := LO_X2.out; have o16 := HI_X2.out; have o17 := SZ_w12.out; have o18 := LO_GW.out; have o19 := LO_GM.out; have o20 := SZ_Y13.out; have o21 := HEGW.out; have o22 := BL_GW.out; have o23 := SZ_w14.out; have o24 := SZ_w15.out; have o25 := SZ_w16.out; have o26 := LO_T0.out; have o27 := HI_T0.out; have o28 := SZ_w17.out; have o29 := SZ_w19.out; have o30 := SZ_w20.out; have o31 := LO_T2.out; have o32 := HI_T2.out; have o33 := SZ_w21.out; omega)
      have X2v10 : Hid (Ints w22 (some ⟨g_w11, 0, none⟩) g_w11 vs2) := X2v9.out.grown2 hg (fun h => by have o0 := SZ_X7.out; have o1 := LO_SW.out; have o2 := LO_SM.out; have o3 := LB_SW.out; have o4 := BL_SW.out; have o5 := SZ_w8.out; have o6 := LO_X0.out; have o7 := HI_X0.out; have o8 := SZ_w9.out; have o9 := LO_X1.out; have o10 := HI_X1.out; have o11 := SZ_Y10.out; have o12 := HEX1.out; have o13 := BL_X1.out; have o14 := SZ_w11.out; have o15 := LO_X2.out; have o16 := HI_X2.out; have o17 := SZ_w12.out; have o18 := LO_GW.out; have o19 := LO_GM.out; have o20 := SZ_Y13.out; have o21 := HEGW.out; have o22 := BL_GW.out; have o23 := SZ_w14.out; have o24 := SZ_w15.out; have o25 := SZ_w16.out; have o26 := LO_T0.out; have o27 := HI_T0.out; have o28 := SZ_w17.out; have o29 := SZ_w19.out; have o30 := SZ_w20.out; have o31 := LO_T2.out; have o32 := HI_T2.out; have o33 := SZ_w21.out; omega)
      have GWv8 : Hid (OVar BGW t a_GW g_GW us.length k_GW us w22) := GWv7.out.grown hg (by have o0 := SZ_X7.out; have o1 := LO_SW.out; have o2 := LO_SM.out; have o3 := LB_SW.out; have o4 := BL_SW.out; have o5 := SZ_w8.out; have o6 := LO_X0.out; have o7 := HI_X0.out; have o8 := SZ_w9.out; have o9 := LO_X1.out; have o10 := HI_X1.out; have o11 := SZ_Y10.out; have o12 := HEX1.out; have o13 := BL_X1.out; have o14 := SZ_w11.out; have o15 := LO_X2.out; have o16 := HI_X2.out; have o17 := SZ_w12.out; have o18 := LO_GW.out; have o19 := LO_GM.out; have o20 := SZ_Y13.out; have o21 := HEGW.out; have o22 := BL_GW.out; have o23 := SZ_w14.out; have o24 := SZ_w15.out; have o25 := SZ_w16.out; have o26 := LO_T0.out; have o27 := HI_T0.out; have o28 := SZ_w17.out; have o29 := SZ_w19.out; have o30 := SZ_w20.out; have o31 := LO_T2.out; have o32 := HI_T2.out; have o33 := SZ_w21.out; omega) (fun h => by have o0 := SZ_X7.out; have o1 := LO_SW.out; have o2 := LO_SM.out; have o3 := LB_SW.out; have o4 := BL_SW.out; have o5 := SZ_w8.out; have o6 := LO_X0.out; have o7 := HI_X0.out; have o8 := SZ_w9.out; have o9 := LO_X1.out; have o10 := HI_X1.out; have o11 := SZ_Y10.out; have o12 := HEX1.out; have o13 := BL_X1.out; have o14 := SZ_w11.out; have o15 := LO_X2.out; have o16 := HI_X2.out; have o17 := SZ_w12.out; have o18 := LO_GW.out; have o19 := LO_GM.out; have o20 := SZ_Y13.out; have o21 := HEGW.out; have o22 := BL_GW.out; have o23 := SZ_w14.out; have o24 := SZ_w15.out; have o25 := SZ_w16.out; have o26 := LO_T0.out; have o27 := HI_T0.out; have o28 := SZ_w17.out; have o29 := SZ_w19.out; have o30 := SZ_w20.out; have o31 := LO_T2.out; have o32 := HI_T2.out; have o33 := SZ_w21.out; have oc := HI_GW.out h; omega)
      have GMv8 : Hid (Ints w22 a_GM g_GM ms) := GMv7.out.grown2 hg (fun h => by have o0 := SZ_X7.out; have o1 := LO_SW.out; have o2 := LO_SM.out; have o3 := LB_SW.out; have o4 := BL_SW.out; have o5 := SZ_w8.out; have o6 := LO_X0.out; have o7 := HI_X0.out; have o8 := SZ_w9.out; have o9 := LO_X1.out; have o10 := HI_X1.out; have o11 := SZ_Y10.out; have o12 := HEX1.out; have o13 := BL_X1.out; have o14 := SZ_w11.out; have o15 := LO_X2.out; have o16 := HI_X2.out; have o17 := SZ_w12.out; have o18 := LO_GW.out; have o19 := LO_GM.out; have o20 := SZ_Y13.out; have o21 := HEGW.out; have o22 := BL_GW.out; have o23 := SZ_w14.out; have o24 := SZ_w15.out; have o25 := SZ_w16.out; have o26 := LO_T0.out; have o27 := HI_T0.out; have o28 := SZ_w17.out; have o29 := SZ_w19.out; have o30 := SZ_w20.out; have o31 := LO_T2.out; have o32 := HI_T2.out; have o33 := SZ_w21.out; have oc := HI_GM.out h; omega)
      have SZ_w22 : Hid (w21.heap.size ≤ w22.heap.size) := hg.size
      have HB_w22 : Hid (Below W.heap.size W w22) := HB_w21.out.trans (below_of_grown hg HB_w21.out.size LW_X0.out)
      clear hg hm SWv13 SMv13 X0v12 X1v10 X2v9 GWv7 GMv7 HB_w21
      obtain ⟨kk0, hkk0⟩ : ∃ k : Nat, k = 1 + xs0.length := ⟨_, rfl⟩
      have hkb0 : kk0 ≤ 1048577 ∧ 0 < kk0 := by have := HNX.out; omega
      rw [← hkk0]
      clear hkk0
      obtain ⟨hkl0, hkp0⟩ := hkb0
      have q0 := X1v11.out.c0
      have q1 := X1v11.out.c1
      go_wp2_with fail
      refine (markNur_any w22 t1 _ g_w9 vs1.length vs1.length vs1 kk0 rfl X1v11.out.tx HNV.out (by omega)).mono ?_
      rintro e w23 ⟨rfl, hg, hm⟩
      have SWv15 : Hid (OVar BSW t a_SW g_SW us.length k_SW us w23) := SWv14.out.grown hg (by have o0 := SZ_X7.out; have o1 := LO_SW.out; have o2 := LO_SM.out; have o3 := LB_SW.out; have o4 := BL_SW.out; have o5 := SZ_w8.out; have o6 := LO_X0.out; have o7 := HI_X0.out; have o8 := SZ_w9.out; have o9 := LO_X1.out; have o10 := HI_X1.out; have o11 := SZ_Y10.out; have o12 := HEX1.out; have o13 := BL_X1.out; have o14 := SZ_w11.out; have o15 := LO_X2.out; have o16 := HI_X2.out; have o17 := SZ_w12.out; have o18 := LO_GW.out; have o19 := LO_GM.out; have o20 := SZ_Y13.out; have o21 := HEGW.out; have o22 := BL_GW.out; have o23 := SZ_w14.out; have o24 := SZ_w15.out; have o25 := SZ_w16.out; have o26 := LO_T0.out; have o27 := HI_T0.out; have o28 := SZ_w17.out; have o29 := SZ_w19.out; have o30 := SZ_w20.out; have o31 := LO_T2.out; have o32 := HI_T2.out; have o33 := SZ_w21.out; have o34 := SZ_w22.out; omega) (fun h => by have o0 := SZ_X7.out; have o1 := LO_SW.out; have o2 := LO_SM.out; have o3 := LB_SW.out; have o4 := BL_SW.out; have o5 := SZ_w8.out; have o6 := LO_X0.out; have o7 := HI_X0.out; have o8 := SZ_w9.out; have o9 := LO_X1.out; have o10 := HI_X1.out; have o11 := SZ_Y10.out; have o12 := HEX1.out; have o13 := BL_X1.out; have o14 := SZ_w11.out; have o15 := LO_X2.out; have o16 := HI_X2.out; have o17 := SZ_w12.out; have o18 := LO_GW.out; have o19 := LO_GM.out; have o20 := SZ_Y13.out; have o21 := HEGW.out; have o22 := BL_GW.out; have o23 := SZ_w14.out; have o24 := SZ_w15.out; have o25 := SZ_w16.out; have o26 := LO_T0.out; have o27 := HI_T0.out; have o28 := SZ_w17.out; have o29 := SZ_w19.out; have o30 := SZ_w20.out; have o31 := LO_T2.out; have o32 := HI_T2.out; have o33 := SZ_w21.out; have o34 := SZ_w22.out; have oc := HI_SW.out h; omega)
      have SMv15 : Hid (Ints w23 a_SM g_SM ms) := SMv14.out.grown2 hg (fun h => by have o0 := SZ_X7.out; have o1 := LO_SW.out; have o2 := LO_SM.out; have o3 := LB_SW.out; have o4 := BL_SW.out; have o5 := SZ_w8.out; have o6 := LO_X0.out; have o7 := HI_X0.out; have o8 := SZ_w9.out; have o9 := LO_X1.out; have o10 := HI_X1.out; have o11 := SZ_Y10.out; have o12 := HEX1.out; have o13 := BL_X1.out; have o14 := SZ_w11.out; have o15 := LO_X2.out; have o16 := HI_X2.out; have o17 := SZ_w12.out; have o18 := LO_GW.out; have o19 := LO_GM.out; have o20 := SZ_Y13.out; have o21 := HEGW.out; have o22 := BL_GW.out; have o23 := SZ_w14.out; have o24 := SZ_w15.out; have o25 := SZ_w16.out; have o26 := LO_T0.out; have o27 := HI_T0.out; have o28 := SZ_w17.out; have o29 := SZ_w19.out; have o30 := SZ_w20.out; have o31 := LO_T2.out; have o32 := HI_T2.out; have o33 := SZ_w21.out; have o34 := SZ_w22.out; have oc := HI_SM.out h; omega)
      have X2v11 : Hid (Ints w23 (some ⟨g_w11, 0, none⟩) g_w11 vs2) := X2v10.out.grown2 hg (fun h => by have o0 := SZ_X7.out; have o1 := LO_SW.out; have o2 := LO_SM.out; have o3 := LB_SW.out; have o4 := BL_SW.out; have o5 := SZ_w8.out; have o6 := LO_X0.out; have o7 := HI_X0.out; have o8 := SZ_w9.out; have o9 := LO_X1.out; have o10 := HI_X1.out; have o11 := SZ_Y10.out; have o12 := HEX1.out; have o13 := BL_X1.out; have o14 := SZ_w11.out; have o15 := LO_X2.out; have o16 := HI_X2.out; have o17 := SZ_w12.out; have o18 := LO_GW.out; have o19 := LO_GM.out; have o20 := SZ_Y13.out; have o21 := HEGW.out; have o22 := BL_GW.out; have o23 := SZ_w14.out; have o24 := SZ_w15.out; have o25 := SZ_w16.out; have o26 := LO_T0.out; have o27 := HI_T0.out; have o28 := SZ_w17.out; have o29 := SZ_w19.out; have o30 := SZ_w20.out; have o31 := LO_T2.out; have o32 := HI_T2.out; have o33 := SZ_w21.out; have o34 := SZ_w22.out; omega)
      have GWv9 : Hid (OVar BGW t a_GW g_GW us.length k_GW us w23) := GWv8.out.grown hg (by have o0 := SZ_X7.out; have o1 := LO_SW.out; have o2 := LO_SM.out; have o3 := LB_SW.out; have o4 := BL_SW.out; have o5 := SZ_w8.out; have o6 := LO_X0.out; have o7 := HI_X0.out; have o8 := SZ_w9.out; have o9 := LO_X1.out; have o10 := HI_X1.out; have o11 := SZ_Y10.out; have o12 := HEX1.out; have o13 := BL_X1.out; have o14 := SZ_w11.out; have o15 := LO_X2.out; have o16 := HI_X2.out; have o17 := SZ_w12.out; have o18 := LO_GW.out; have o19 := LO_GM.out; have o20 := SZ_Y13.out; have o21 := HEGW.out; have o22 := BL_GW.out; have o23 := SZ_w14.out; have o24 := SZ_w15.out; have o25 := SZ_w16.out; have o26 := LO_T0.out; have o27 := HI_T0.out; have o28 := SZ_w17.out; have o29 := SZ_w19.out; have o30 := SZ_w20.out; have o31 := LO_T2.out; have o32 := HI_T2.out; have o33 := SZ_w21.out; have o34 := SZ_w22.out; omega) (fun h => by have o0 := SZ_X7.out; have o1 := LO_SW.out; have o2 := LO_SM.out; have o3 := LB_SW.out; have o4 := BL_SW.out; have o5 := SZ_w8.out; have o6 := LO_X0.out; have o7 := HI_X0.out; have o8 := SZ_w9.out; have o9 := LO_X1.out; have o10 := HI_X1.out; have o11 := SZ_Y10.out; have o12 := HEX1.out; have o13 := BL_X1.out; have o14 := SZ_w11.out; have o15 := LO_X2.out; have o16 := HI_X2.out; have o17 := SZ_w12.out; have o18 := LO_GW.out; have o19 := LO_GM.out; have o20 := SZ_Y13.out; have o21 := HEGW.out; have o22 := BL_GW.out; have o23 := SZ_w14.out; have o24 := SZ_w15.out; have o25 := SZ_w16.out; have o26 := LO_T0.out; have o27 := HI_T0.out; have o28 := SZ_w17.out; have o29 := SZ_w19.out; have o30 := SZ_w20.out; have o31 := LO_T2.out; have o32 := HI_T2.out; have o33 := SZ_w21.out; have o34 := SZ_w22.out; have oc := HI_GW.out h; omega)
      have GMv9 : Hid (Ints w23 a_GM g_GM ms) := GMv8.out.grown2 hg (fun h => by have o0 := SZ_X7.out; have o1 := LO_SW.out; have o2 := LO_SM.out; have o3 := LB_SW.out; have o4 := BL_SW.out; have o5 := SZ_w8.out; have o6 := LO_X0.out; have o7 := HI_X0.out; have o8 := SZ_w9.out; have o9 := LO_X1.out; have o10 := HI_X1.out; have o11 := SZ_Y10.out; have o12 := HEX1.out; have o13 := BL_X1.out; have o14 := SZ_w11.out; have o15 := LO_X2.out; have o16 := HI_X2.out; have o17 := SZ_w12.out; have o18 := LO_GW.out; have o19 := LO_GM.out; have o20 := SZ_Y13.out; have o21 := HEGW.out; have o22 := BL_GW.out; have o23 := SZ_w14.out; have o24 := SZ_w15.out; have o25 := SZ_w16.out; have o26 := LO_T0.out; have o27 := HI_T0.out; have o28 := SZ_w17.out; have o29 := SZ_w19.out; have o30 := SZ_w20.out; have o31 := LO_T2.out; have o32 := HI_T2.out; have o33 := SZ_w21.out; have o34 := SZ_w22.out; have oc := HI_GM.out h; omega)
      have SZ_w23 : Hid (w22.heap.size ≤ w23.heap.size) := hg.size
      have HB_w23 : Hid (Below W.heap.size W w23) := HB_w22.out.trans (below_of_grown hg HB_w22.out.size LW_X1.out)
      clear hg hm q0 q1 SWv14 SMv14 X1v11 X2v10 GWv8 GMv8 HB_w22
      obtain ⟨kk1, hkk1⟩ : ∃ k : Nat, k = kk0 + vs1.length := ⟨_, rfl⟩
      have hkb1 : kk1 ≤ 2097153 ∧ 0 < kk1 := by have := HNV.out; omega
      rw [← hkk1]
      clear hkk1
      obtain ⟨hkl1, hkp1⟩ := hkb1
      go_wp2_with fail
      refine (markInt64S_any w23 (some ⟨g_w11, 0, none⟩) g_w11 vs2.length vs2.length vs2 kk1 rfl X2v11.out HNV2.out (by omega)).mono ?_
      rintro e w24 ⟨rfl, hg, hm⟩
      have SWv16 : Hid (OVar BSW t a_SW g_SW us.length k_SW us w24) := SWv15.out.grown hg (by have o0 := SZ_X7.out; have o1 := LO_SW.out; have o2 := LO_SM.out; have o3 := LB_SW.out; have o4 := BL_SW.out; have o5 := SZ_w8.out; have o6 := LO_X0.out; have o7 := HI_X0.out; have o8 := SZ_w9.out; have o9 := LO_X1.out; have o10 := HI_X1.out; have o11 := SZ_Y10.out; have o12 := HEX1.out; have o13 := BL_X1.out; have o14 := SZ_w11.out; have o15 := LO_X2.out; have o16 := HI_X2.out; have o17 := SZ_w12.out; have o18 := LO_GW.out; have o19 := LO_GM.out; have o20 := SZ_Y13.out; have o21 := HEGW.out; have o22 := BL_GW.out; have o23 := SZ_w14.out; have o24 := SZ_w15.out; have o25 := SZ_w16.out; have o26 := LO_T0.out; have o27 := HI_T0.out; have o28 := SZ_w17.out; have o29 := SZ_w19.out; have o30 := SZ_w20.out; have o31 := LO_T2.out; have o32 := HI_T2.out; have o33 := SZ_w21.out; have o34 := SZ_w22.out; have o35 := SZ_w23.out; omega) (fun h => by have o0 := SZ_X7.out; have o1 := LO_SW.out; have o2 := LO_SM.out; have o3 := LB_SW.out; have o4 := BL_SW.out; have o5 := SZ_w8.out; have o6 := LO_X0.out; have o7 := HI_X0.out; have o8 := SZ_w9.out; have o9 := LO_X1.out; have o10 := HI_X1.out; have o11 := SZ_Y10.out; have o12 := HEX1.out; have o13 := BL_X1.out; have o14 := SZ_w11.out; have o15 := LO_X2.out; have o16 := HI_X2.out; have o17 := SZ_w12.out; have o18 := LO_GW.out; have o19 := LO_GM.out; have o20 := SZ_Y13.out; have o21 := HEGW.out; have o22 := BL_GW.out; have o23 := SZ_w14.out; have o24 := SZ_w15.out; have o25 := SZ_w16.out; have o26 := LO_T0.out; have o27 := HI_T0.out; have o28 := SZ_w17.out; have o29 := SZ_w19.out; have o30 := SZ_w20.out; have o31 := LO_T2.out; have o32 := HI_T2.out; have o33 := SZ_w21.out; have o34 := SZ_w22.out; have o35 := SZ_w23.out; have oc := HI_SW.out h; omega)
      have SMv16 : Hid (Ints w24 a_SM g_SM ms) := SMv15.out.grown2 hg (fun h => by have o0 := SZ_X7.out; have o1 := LO_SW.out; have o2 := LO_SM.out; have o3 := LB_SW.out; have o4 := BL_SW.out; have o5 := SZ_w8.out; have o6 := LO_X0.out; have o7 := HI_X0.out; have o8 := SZ_w9.out; have o9 := LO_X1.out; have o10 := HI_X1.out; have o11 := SZ_Y10.out; have o12 := HEX1.out; have o13 := BL_X1.out; have o14 := SZ_w11.out; have o15 := LO_X2.out; have o16 := HI_X2.out; have o17 := SZ_w12.out; have o18 := LO_GW.out; have o19 := LO_GM.out; have o20 := SZ_Y13.out; have o21 := HEGW.out; have o22 := BL_GW.out; have o23 := SZ_w14.out; have o24 := SZ_w15.out; have o25 := SZ_w16.out; have o26 := LO_T0.out; have o27 := HI_T0.out; have o28 := SZ_w17.out; have o29 := SZ_w19.out; have o30 := SZ_w20.out; have o31 := LO_T2.out; have o32 := HI_T2.out; have o33 := SZ_w21.out; have o34 := SZ_w22.out; have o35 := SZ_w23.out; have oc := HI_SM.out h; omega)
      have GWv10 : Hid (OVar BGW t a_GW g_GW us.length k_GW us w24) := GWv9.out.grown hg (by have o0 := SZ_X7.out; have o1 := LO_SW.out; have o2 := LO_SM.out; have o3 := LB_SW.out; have o4 := BL_SW.out; have o5 := SZ_w8.out; have o6 := LO_X0.out; have o7 := HI_X0.out; have o8 := SZ_w9.out; have o9 := LO_X1.out; have o10 := HI_X1.out; have o11 := SZ_Y10.out; have o12 := HEX1.out; have o13 := BL_X1.out; have o14 := SZ_w11.out; have o15 := LO_X2.out; have o16 := HI_X2.out; have o17 := SZ_w12.out; have o18 := LO_GW.out; have o19 := LO_GM.out; have o20 := SZ_Y13.out; have o21 := HEGW.out; have o22 := BL_GW.out; have o23 := SZ_w14.out; have o24 := SZ_w15.out; have o25 := SZ_w16.out; have o26 := LO_T0.out; have o27 := HI_T0.out; have o28 := SZ_w17.out; have o29 := SZ_w19.out; have o30 := SZ_w20.out; have o31 := LO_T2.out; have o32 := HI_T2.out; have o33 := SZ_w21.out; have o34 := SZ_w22.out; have o35 := SZ_w23.out; omega) (fun h => by have o0 := SZ_X7.out; have o1 := LO_SW.out; have o2 := LO_SM.out; have o3 := LB_SW.out; have o4 := BL_SW.out; have o5 := SZ_w8.out; have o6 := LO_X0.out; have o7 := HI_X0.out; have o8 := SZ_w9.out; have o9 := LO_X1.out; have o10 := HI_X1.out; have o11 := SZ_Y10.out; have o12 := HEX1.out; have o13 := BL_X1.out; have o14 := SZ_w11.out; have o15 := LO_X2.out; have o16 := HI_X2.out; have o17 := SZ_w12.out; have o18 := LO_GW.out; have o19 := LO_GM.out; have o20 := SZ_Y13.out; have o21 := HEGW.out; have o22 := BL_GW.out; have o23 := SZ_w14.out; have o24 := SZ_w15.out; have o25 := SZ_w16.out; have o26 := LO_T0.out; have o27 := HI_T0.out; have o28 := SZ_w17.out; have o29 := SZ_w19.out; have o30 := SZ_w20.out; have o31 := LO_T2.out; have o32 := HI_T2.out; have o33 := SZ_w21.out; have o34 := SZ_w22.out; have o35 := SZ_w23.out; have oc := HI_GW.out h; omega)
      have GMv10 : Hid (Ints w24 a_GM g_GM ms) := GMv9.out.grown2 hg (fun h => by have o0 := SZ_X7.out; have o1 := LO_SW.out; have o2 := LO_SM.out; have o3 := LB_SW.out; have o4 := BL_SW.out; have o5 := SZ_w8.out; have o6 := LO_X0.out; have o7 := HI_X0.out; have o8 := SZ_w9.out; have o9 := LO_X1.out; have o10 := HI_X1.out; have o11 := SZ_Y10.out; have o12 := HEX1.out; have o13 := BL_X1.out; have o14 := SZ_w11.out; have o15 := LO_X2.out; have o16 := HI_X2.out; have o17 := SZ_w12.out; have o18 := LO_GW.out; have o19 := LO_GM.out; have o20 := SZ_Y13.out; have o21 := HEGW.out; have o22 := BL_GW.out; have o23 := SZ_w14.out; have o24 := SZ_w15.out; have o25 := SZ_w16.out; have o26 := LO_T0.out; have o27 := HI_T0.out; have o28 := SZ_w17.out; have o29 := SZ_w19.out; have o30 := SZ_w20.out; have o31 := LO_T2.out; have o32 := HI_T2.out; have o33 := SZ_w21.out; have o34 := SZ_w22.out; have o35 := SZ_w23.out; have oc := HI_GM.out h; omega)
      have SZ_w24 : Hid (w23.heap.size ≤ w24.heap.size) := hg.size
      have HB_w24 : Hid (Below W.heap.size W w24) := HB_w23.out.trans (below_of_grown hg HB_w23.out.size LW_X2.out)
      clear hg hm SWv15 SMv15 X2v11 GWv9 GMv9 HB_w23
      obtain ⟨kk2, hkk2⟩ : ∃ k : Nat, k = kk1 + vs2.length := ⟨_, rfl⟩
      have hkb2 : kk2 ≤ 3145729 ∧ 0 < kk2 := by have := HNV2.out; omega
      rw [← hkk2]
      clear hkk2
      obtain ⟨hkl2, hkp2⟩ := hkb2
      have hkn : ¬ (kk2 : Int) < 0 := by omega
      have p0 := GWv10.out.c0
      have p1 := GWv10.out.c1
      have q0 := SWv16.out.c0
      have q1 := SWv16.out.c1
      go_wp2_with fail
      refine (eqNur_same w24 t a_GW a_SW g_GW g_SW us.length k_GW k_SW us rfl HUL.out GWv10.out.tx SWv16.out.tx).mono ?_
      rintro e w25 ⟨rfl, hb⟩
      have SZ_w25 : Hid (w24.heap.size ≤ w25.heap.size) := hb.size
      have SWv17 : Hid (OVar BSW t a_SW g_SW us.length k_SW us w25) := SWv16.out.below hb
      have SMv17 : Hid (Ints w25 a_SM g_SM ms) := SMv16.out.below hb
      have GWv11 : Hid (OVar BGW t a_GW g_GW us.length k_GW us w25) := GWv10.out.below hb
      have GMv11 : Hid (Ints w25 a_GM g_GM ms) := GMv10.out.below hb
      have HB_w25 : Hid (Below W.heap.size W w25) := HB_w24.out.trans (hb.mono HB_w24.out.size)
      clear hb p0 p1 q0 q1 SWv16 SMv16 GWv10 GMv10 HB_w24
      go_wp2_with fail
      refine (eqInt64S_same w25 a_GM a_SM g_GM g_SM k_GM k_SM ms HML.out GMv11.out SMv17.out).mono ?_
      rintro e w26 ⟨rfl, hb⟩
      have SZ_w26 : Hid (w25.heap.size ≤ w26.heap.size) := hb.size
      have SWv18 : Hid (OVar BSW t a_SW g_SW us.length k_SW us w26) := SWv17.out.below hb
      have SMv18 : Hid (Ints w26 a_SM g_SM ms) := SMv17.out.below hb
      have GWv12 : Hid (OVar BGW t a_GW g_GW us.length k_GW us w26) := GWv11.out.below hb
      have GMv12 : Hid (Ints w26 a_GM g_GM ms) := GMv11.out.below hb
      have HB_w26 : Hid (Below W.heap.size W w26) := HB_w25.out.trans (hb.mono HB_w25.out.size)
      clear hb SWv17 SMv17 GWv11 GMv11 HB_w25
      clear hkn
      have q0 := GWv12.out.c0
      have q1 := GWv12.out.c1
      go_wp2_with fail
      obtain ⟨rr, htr, hBr, heq, hne⟩ := ints_block GWv12.out.tx W.heap.size LW_GW.out HB_w26.out.size
      have RR : Hid (0 < us.length → rr = g_GW) := heq
      have hrG : BGW ≠ rr := hne BGW GWv12.out.lt (fun h => by have o0 := SZ_X7.out; have o1 := LO_SW.out; have o2 := LO_SM.out; have o3 := LB_SW.out; have o4 := BL_SW.out; have o5 := SZ_w8.out; have o6 := LO_X0.out; have o7 := HI_X0.out; have o8 := SZ_w9.out; have o9 := LO_X1.out; have o10 := HI_X1.out; have o11 := SZ_Y10.out; have o12 := HEX1.out; have o13 := BL_X1.out; have o14 := SZ_w11.out; have o15 := LO_X2.out; have o16 := HI_X2.out; have o17 := SZ_w12.out; have o18 := LO_GW.out; have o19 := LO_GM.out; have o20 := SZ_Y13.out; have o21 := HEGW.out; have o22 := BL_GW.out; have o23 := SZ_w14.out; have o24 := SZ_w15.out; have o25 := SZ_w16.out; have o26 := LO_T0.out; have o27 := HI_T0.out; have o28 := SZ_w17.out; have o29 := SZ_w19.out; have o30 := SZ_w20.out; have o31 := LO_T2.out; have o32 := HI_T2.out; have o33 := SZ_w21.out; have o34 := SZ_w22.out; have o35 := SZ_w23.out; have o36 := SZ_w24.out; have o37 := SZ_w25.out; have o38 := SZ_w26.out; have oc := HI_GW.out h; omega)
      refine (markNur_any w26 t a_GW rr us.length k_GW us 1 rfl htr HUL.out (by omega)).mono ?_
      rintro e w27 ⟨rfl, hg, hm⟩
      have GM0 : Hid (OVar BGW t a_GW rr us.length k_GW (marks 1 us.length) w27) := GWv12.out.marked hg hrG (marks_len 1 us.length) hm
      have SWv19 : Hid (OVar BSW t a_SW g_SW us.length k_SW us w27) := SWv18.out.grown hg (hne BSW SWv18.out.lt (fun h9 => by have o0 := SZ_X7.out; have o1 := LO_SW.out; have o2 := LO_SM.out; have o3 := LB_SW.out; have o4 := BL_SW.out; have o5 := SZ_w8.out; have o6 := LO_X0.out; have o7 := HI_X0.out; have o8 := SZ_w9.out; have o9 := LO_X1.out; have o10 := HI_X1.out; have o11 := SZ_Y10.out; have o12 := HEX1.out; have o13 := BL_X1.out; have o14 := SZ_w11.out; have o15 := LO_X2.out; have o16 := HI_X2.out; have o17 := SZ_w12.out; have o18 := LO_GW.out; have o19 := LO_GM.out; have o20 := SZ_Y13.out; have o21 := HEGW.out; have o22 := BL_GW.out; have o23 := SZ_w14.out; have o24 := SZ_w15.out; have o25 := SZ_w16.out; have o26 := LO_T0.out; have o27 := HI_T0.out; have o28 := SZ_w17.out; have o29 := SZ_w19.out; have o30 := SZ_w20.out; have o31 := LO_T2.out; have o32 := HI_T2.out; have o33 := SZ_w21.out; have o34 := SZ_w22.out; have o35 := SZ_w23.out; have o36 := SZ_w24.out; have o37 := SZ_w25.out; have o38 := SZ_w26.out;  omega)) (fun h => hne g_SW (SWv18.out.tx.lt h) (fun h9 => by have o0 := SZ_X7.out; have o1 := LO_SW.out; have o2 := LO_SM.out; have o3 := LB_SW.out; have o4 := BL_SW.out; have o5 := SZ_w8.out; have o6 := LO_X0.out; have o7 := HI_X0.out; have o8 := SZ_w9.out; have o9 := LO_X1.out; have o10 := HI_X1.out; have o11 := SZ_Y10.out; have o12 := HEX1.out; have o13 := BL_X1.out; have o14 := SZ_w11.out; have o15 := LO_X2.out; have o16 := HI_X2.out; have o17 := SZ_w12.out; have o18 := LO_GW.out; have o19 := LO_GM.out; have o20 := SZ_Y13.out; have o21 := HEGW.out; have o22 := BL_GW.out; have o23 := SZ_w14.out; have o24 := SZ_w15.out; have o25 := SZ_w16.out; have o26 := LO_T0.out; have o27 := HI_T0.out; have o28 := SZ_w17.out; have o29 := SZ_w19.out; have o30 := SZ_w20.out; have o31 := LO_T2.out; have o32 := HI_T2.out; have o33 := SZ_w21.out; have o34 := SZ_w22.out; have o35 := SZ_w23.out; have o36 := SZ_w24.out; have o37 := SZ_w25.out; have o38 := SZ_w26.out; have oc := HI_SW.out h; omega))
      have SMv19 : Hid (Ints w27 a_SM g_SM ms) := SMv18.out.grown2 hg (fun h => hne g_SM (SMv18.out.lt h) (fun h9 => by have o0 := SZ_X7.out; have o1 := LO_SW.out; have o2 := LO_SM.out; have o3 := LB_SW.out; have o4 := BL_SW.out; have o5 := SZ_w8.out; have o6 := LO_X0.out; have o7 := HI_X0.out; have o8 := SZ_w9.out; have o9 := LO_X1.out; have o10 := HI_X1.out; have o11 := SZ_Y10.out; have o12 := HEX1.out; have o13 := BL_X1.out; have o14 := SZ_w11.out; have o15 := LO_X2.out; have o16 := HI_X2.out; have o17 := SZ_w12.out; have o18 := LO_GW.out; have o19 := LO_GM.out; have o20 := SZ_Y13.out; have o21 := HEGW.out; have o22 := BL_GW.out; have o23 := SZ_w14.out; have o24 := SZ_w15.out; have o25 := SZ_w16.out; have o26 := LO_T0.out; have o27 := HI_T0.out; have o28 := SZ_w17.out; have o29 := SZ_w19.out; have o30 := SZ_w20.out; have o31 := LO_T2.out; have o32 := HI_T2.out; have o33 := SZ_w21.out; have o34 := SZ_w22.out; have o35 := SZ_w23.out; have o36 := SZ_w24.out; have o37 := SZ_w25.out; have o38 := SZ_w26.out; have oc := HI_SM.out h; omega))
      have GMv13 : Hid (Ints w27 a_GM g_GM ms) := GMv12.out.grown2 hg (fun h => hne g_GM (GMv12.out.lt h) (fun h9 => by have := LT_G.out h9; omega))
      have SZ_w27 : Hid (w26.heap.size ≤ w27.heap.size) := hg.size
      have HB_w27 : Hid (Below W.heap.size W w27) := HB_w26.out.trans (below_of_grown hg HB_w26.out.size hBr)
      have GWv13 : Hid (OVar BGW t a_GW rr us.length k_GW (marks 1 us.length) w27) := GM0.out
      clear hg hm htr hBr heq hne hrG GM0 q0 q1 SWv18 SMv18 GWv12 GMv12 HB_w26
      rw [← HKA.out]
      go_wp2_with fail
      obtain ⟨rm, htr, hBr, heq, hne⟩ := ints_block GMv13.out W.heap.size LW_GM.out HB_w27.out.size
      refine (markInt64S_any w27 a_GM rm ms.length k_GM ms kA rfl htr HML.out (by have := HKL.out; omega)).mono ?_
      rintro e w28 ⟨rfl, hg, hm⟩
      have SWv20 : Hid (OVar BSW t a_SW g_SW us.length k_SW us w28) := SWv19.out.grown hg (hne BSW SWv19.out.lt (fun h9 => by have o0 := SZ_X7.out; have o1 := LO_SW.out; have o2 := LO_SM.out; have o3 := LB_SW.out; have o4 := BL_SW.out; have o5 := SZ_w8.out; have o6 := LO_X0.out; have o7 := HI_X0.out; have o8 := SZ_w9.out; have o9 := LO_X1.out; have o10 := HI_X1.out; have o11 := SZ_Y10.out; have o12 := HEX1.out; have o13 := BL_X1.out; have o14 := SZ_w11.out; have o15 := LO_X2.out; have o16 := HI_X2.out; have o17 := SZ_w12.out; have o18 := LO_GW.out; have o19 := LO_GM.out; have o20 := SZ_Y13.out; have o21 := HEGW.out; have o22 := BL_GW.out; have o23 := SZ_w14.out; have o24 := SZ_w15.out; have o25 := SZ_w16.out; have o26 := LO_T0.out; have o27 := HI_T0.out; have o28 := SZ_w17.out; have o29 := SZ_w19.out; have o30 := SZ_w20.out; have o31 := LO_T2.out; have o32 := HI_T2.out; have o33 := SZ_w21.out; have o34 := SZ_w22.out; have o35 := SZ_w23.out; have o36 := SZ_w24.out; have o37 := SZ_w25.out; have o38 := SZ_w26.out; have o39 := SZ_w27.out; have oh := HI_GM.out h9; omega)) (fun h => hne g_SW (SWv19.out.tx.lt h) (fun h9 => by have o0 := SZ_X7.out; have o1 := LO_SW.out; have o2 := LO_SM.out; have o3 := LB_SW.out; have o4 := BL_SW.out; have o5 := SZ_w8.out; have o6 := LO_X0.out; have o7 := HI_X0.out; have o8 := SZ_w9.out; have o9 := LO_X1.out; have o10 := HI_X1.out; have o11 := SZ_Y10.out; have o12 := HEX1.out; have o13 := BL_X1.out; have o14 := SZ_w11.out; have o15 := LO_X2.out; have o16 := HI_X2.out; have o17 := SZ_w12.out; have o18 := LO_GW.out; have o19 := LO_GM.out; have o20 := SZ_Y13.out; have o21 := HEGW.out; have o22 := BL_GW.out; have o23 := SZ_w14.out; have o24 := SZ_w15.out; have o25 := SZ_w16.out; have o26 := LO_T0.out; have o27 := HI_T0.out; have o28 := SZ_w17.out; have o29 := SZ_w19.out; have o30 := SZ_w20.out; have o31 := LO_T2.out; have o32 := HI_T2.out; have o33 := SZ_w21.out; have o34 := SZ_w22.out; have o35 := SZ_w23.out; have o36 := SZ_w24.out; have o37 := SZ_w25.out; have o38 := SZ_w26.out; have o39 := SZ_w27.out; have oc := HI_SW.out h; omega))
      have SMv20 : Hid (Ints w28 a_SM g_SM ms) := SMv19.out.grown2 hg (fun h => hne g_SM (SMv19.out.lt h) (fun h9 => by have o0 := SZ_X7.out; have o1 := LO_SW.out; have o2 := LO_SM.out; have o3 := LB_SW.out; have o4 := BL_SW.out; have o5 := SZ_w8.out; have o6 := LO_X0.out; have o7 := HI_X0.out; have o8 := SZ_w9.out; have o9 := LO_X1.out; have o10 := HI_X1.out; have o11 := SZ_Y10.out; have o12 := HEX1.out; have o13 := BL_X1.out; have o14 := SZ_w11.out; have o15 := LO_X2.out; have o16 := HI_X2.out; have o17 := SZ_w12.out; have o18 := LO_GW.out; have o19 := LO_GM.out; have o20 := SZ_Y13.out; have o21 := HEGW.out; have o22 := BL_GW.out; have o23 := SZ_w14.out; have o24 := SZ_w15.out; have o25 := SZ_w16.out; have o26 := LO_T0.out; have o27 := HI_T0.out; have o28 := SZ_w17.out; have o29 := SZ_w19.out; have o30 := SZ_w20.out; have o31 := LO_T2.out; have o32 := HI_T2.out; have o33 := SZ_w21.out; have o34 := SZ_w22.out; have o35 := SZ_w23.out; have o36 := SZ_w24.out; have o37 := SZ_w25.out; have o38 := SZ_w26.out; have o39 := SZ_w27.out; have oc := HI_SM.out h; omega))
      have GWv14 : Hid (OVar BGW t a_GW rr us.length k_GW (marks 1 us.length) w28) := GWv13.out.grown hg (hne BGW GWv13.out.lt (fun h9 => by have o0 := SZ_X7.out; have o1 := LO_SW.out; have o2 := LO_SM.out; have o3 := LB_SW.out; have o4 := BL_SW.out; have o5 := SZ_w8.out; have o6 := LO_X0.out; have o7 := HI_X0.out; have o8 := SZ_w9.out; have o9 := LO_X1.out; have o10 := HI_X1.out; have o11 := SZ_Y10.out; have o12 := HEX1.out; have o13 := BL_X1.out; have o14 := SZ_w11.out; have o15 := LO_X2.out; have o16 := HI_X2.out; have o17 := SZ_w12.out; have o18 := LO_GW.out; have o19 := LO_GM.out; have o20 := SZ_Y13.out; have o21 := HEGW.out; have o22 := BL_GW.out; have o23 := SZ_w14.out; have o24 := SZ_w15.out; have o25 := SZ_w16.out; have o26 := LO_T0.out; have o27 := HI_T0.out; have o28 := SZ_w17.out; have o29 := SZ_w19.out; have o30 := SZ_w20.out; have o31 := LO_T2.out; have o32 := HI_T2.out; have o33 := SZ_w21.out; have o34 := SZ_w22.out; have o35 := SZ_w23.out; have o36 := SZ_w24.out; have o37 := SZ_w25.out; have o38 := SZ_w26.out; have o39 := SZ_w27.out; have oh := HI_GM.out h9; omega)) (fun h => hne rr (GWv13.out.tx.lt h) (fun h9 => by rw [marks_len] at h; have := LT_G.out h; have := RR.out h; omega))
      have SZ_w28 : Hid (w27.heap.size ≤ w28.heap.size) := hg.size
      have HB_w28 : Hid (Below W.heap.size W w28) := HB_w27.out.trans (below_of_grown hg HB_w27.out.size hBr)
      have GMv14 : Hid (Ints w28 a_GM rm (marks kA ms.length)) := hm
      clear hg hm htr hBr heq hne SWv19 SMv19 GWv13 GMv13 HB_w27
      rw [← HKB.out]
      have q0 := GWv14.out.c0
      have q1 := GWv14.out.c1
      go_wp2_with fail
      refine (heldNur_any w28 t a_GW rr us.length k_GW 1 GWv14.out.tx HUL.out (by omega)).mono ?_
      rintro e w29 ⟨rfl, hb⟩
      rw [← HKA.out]
      have SZ_w29 : Hid (w28.heap.size ≤ w29.heap.size) := hb.size
      have SWv21 : Hid (OVar BSW t a_SW g_SW us.length k_SW us w29) := SWv20.out.below hb
      have SMv21 : Hid (Ints w29 a_SM g_SM ms) := SMv20.out.below hb
      have GWv15 : Hid (OVar BGW t a_GW rr us.length k_GW (marks 1 us.length) w29) := GWv14.out.below hb
      have GMv15 : Hid (Ints w29 a_GM rm (marks kA ms.length)) := GMv14.out.below hb
      have HB_w29 : Hid (Below W.heap.size W w29) := HB_w28.out.trans (hb.mono HB_w28.out.size)
      clear hb q0 q1 SWv20 SMv20 GWv14 GMv14 HB_w28
      go_wp2_with fail
      refine (heldInt64S_any w29 a_GM rm ms.length k_GM kA GMv15.out HML.out (by have := HKL.out; omega)).mono ?_
      rintro e w30 ⟨rfl, hb⟩
      rw [← HKB.out]
      have SZ_w30 : Hid (w29.heap.size ≤ w30.heap.size) := hb.size
      have SWv22 : Hid (OVar BSW t a_SW g_SW us.length k_SW us w30) := SWv21.out.below hb
      have SMv22 : Hid (Ints w30 a_SM g_SM ms) := SMv21.out.below hb
      have GWv16 : Hid (OVar BGW t a_GW rr us.length k_GW (marks 1 us.length) w30) := GWv15.out.below hb
      have GMv16 : Hid (Ints w30 a_GM rm (marks kA ms.length)) := GMv15.out.below hb
      have HB_w30 : Hid (Below W.heap.size W w30) := HB_w29.out.trans (hb.mono HB_w29.out.size)
      clear hb SWv21 SMv21 GWv15 GMv15 HB_w29
      have hacc : Below w30.heap.size w30 w30.drew := (Below.refl _ _).drew
      have HCU_w34 : Hid (∀ w', Below w30.heap.size w30 w' → Below W.heap.size W w') := fun w' h => HB_w30.out.trans (h.mono HB_w30.out.size)
      obtain ⟨m0, m1⟩ := HK.out w30 HB_w30.out
      go_upto_region 41 with fail
      go_cut [20, 21, 22] (fun v vm e0 wx => ∃ (B : Nat) (aR : Option Addr) (gR kR : Nat) (aM : Option Addr) (gM kM : Nat), v = .pointer (some ⟨B, 0, none⟩) ∧ vm = .slice aM ms.length kM ∧ e0 = .bool r0 ∧ OVar B t aR gR us.length kR us wx ∧ Ints wx aM gM ms ∧ w30.heap.size ≤ B ∧ w30.heap.size ≤ gR ∧ w30.heap.size ≤ gM ∧ Below w30.heap.size w30 wx)
      case first =>
        go_region_held3 (fun w' => w'.cell? ⟨w.heap.size, 0, none⟩ = some (.int .i64 t1) ∧ w'.cell? ⟨w.heap.size, 1, none⟩ = some (.slice b1 vs1.length vc1)) (first | with_reducible exact HK.out _ (HCU_w34.out _ hacc) | with_reducible exact HK.out _ (HCU_w34.out _ (hacc.alloc hacc.size _)) | exact HK.out _ (HCU_w34.out _ (hacc.alloc hacc.size _)) | exact HK.out _ (HCU_w34.out _ ((hacc.setCell (p := ⟨_, 0, none⟩) hUA _).setCell (p := ⟨_, 1, none⟩) hUA _)))
          (first | (go_at_call 11; have _p := hPR; refine (toStringS_any _ a0 c0 xs0 HNX.out (HLW.out _ (HCU_w34.out _ hacc))).mono ?_; rintro e w31 ⟨gS, rfl, hgX, hgY, hlS, hrX, hbX⟩; have hac2 : Below w30.heap.size w30 w31 := hacc.trans (hbX.mono hacc.size); have hPR2 := hPR.later hbX; clear _p hPR; have hPR := hPR2; clear hPR2; clear hacc; have hacc := hac2; clear hac2 hbX hgX hgY hrX) | (go_at_call 11; refine (toStringS_any _ a0 c0 xs0 HNX.out (HLW.out _ (HCU_w34.out _ (hacc.alloc hacc.size _)))).mono ?_; rintro e w31 ⟨gS, rfl, hgX, hgY, hlS, hrX, hbX⟩; have hac2 : Below w30.heap.size w30 w31 := (hacc.alloc hacc.size _).trans (hbX.mono (hacc.alloc hacc.size _).size); have hUA : w30.heap.size ≤ w30.heap.size := Nat.le_refl _; have hPR0 := (nu.Pair.start w30.drew 31).later hbX; have hPR : nu.Pair w30 w31 := ⟨⟨hPR0.below.os, hPR0.below.tape, hPR0.below.output, hPR0.below.size, hPR0.below.block⟩, hPR0.lt, hPR0.cell, hPR0.free⟩; clear hPR0; clear hacc; have hacc := hac2; clear hac2 hbX hgX hgY hrX) | (go_at_call 11; refine (toStringS_any _ a0 c0 xs0 HNX.out (HLW.out _ (HCU_w34.out _ hacc))).mono ?_; rintro e w31 ⟨gS, rfl, hgX, hgY, hlS, hrX, hbX⟩; have hac2 : Below w30.heap.size w30 w31 := hacc.trans (hbX.mono hacc.size); clear hacc; have hacc := hac2; clear hac2 hbX hgX hgY hrX) | (go_at_call 12; have _p := hPR; refine (toNur_any _ t1 b1 vc1 vs1 HNV.out (HNW.out _ (HCU_w34.out _ hacc))).mono ?_; rintro e w32 ⟨gO, rfl, hgX, hgY, hlO, hbX⟩; have hac2 : Below w30.heap.size w30 w32 := hacc.trans (hbX.mono hacc.size); have hPR2 := hPR.later hbX; clear _p hPR; have hPR := hPR2; clear hPR2; have hlS2 := hlS.below hbX; clear hlS; have hlS := hlS2; clear hlS2; clear hacc; have hacc := hac2; clear hac2 hbX hgX hgY) | (go_at_call 12; refine (toNur_any _ t1 b1 vc1 vs1 HNV.out (HNW.out _ (HCU_w34.out _ (hacc.alloc hacc.size _)))).mono ?_; rintro e w32 ⟨gO, rfl, hgX, hgY, hlO, hbX⟩; have hac2 : Below w30.heap.size w30 w32 := (hacc.alloc hacc.size _).trans (hbX.mono (hacc.alloc hacc.size _).size); have hUA := hacc.size; have hPR := (nu.Pair.start _ 31).later hbX; have hlS2 := (hlS.below ((Below.refl _ _).alloc (Nat.le_refl _) _)).below hbX; clear hlS; have hlS := hlS2; clear hlS2; clear hacc; have hacc := hac2; clear hac2 hbX hgX hgY) | (go_at_call 12; refine (toNur_any _ t1 b1 vc1 vs1 HNV.out (HNW.out _ (HCU_w34.out _ hacc))).mono ?_; rintro e w32 ⟨gO, rfl, hgX, hgY, hlO, hbX⟩; have hac2 : Below w30.heap.size w30 w32 := hacc.trans (hbX.mono hacc.size); have hlS2 := hlS.below hbX; clear hlS; have hlS := hlS2; clear hlS2; clear hacc; have hacc := hac2; clear hac2 hbX hgX hgY) | (go_at_call 13; have _p := hPR; refine (toInt64S_any _ b2 vc2 vs2 HNV2.out (HNR.out _ (HCU_w34.out _ hacc))).mono ?_; rintro e w33 ⟨gN, rfl, hgX, hgY, hlN, hbX⟩; have hac2 : Below w30.heap.size w30 w33 := hacc.trans (hbX.mono hacc.size); have hPR2 := hPR.later hbX; clear _p hPR; have hPR := hPR2; clear hPR2; have hlS2 := hlS.below hbX; clear hlS; have hlS := hlS2; clear hlS2; have hlO2 := hlO.below hbX; clear hlO; have hlO := hlO2; clear hlO2; clear hacc; have hacc := hac2; clear hac2 hbX hgX hgY) | (go_at_call 13; refine (toInt64S_any _ b2 vc2 vs2 HNV2.out (HNR.out _ (HCU_w34.out _ (hacc.alloc hacc.size _)))).mono ?_; rintro e w33 ⟨gN, rfl, hgX, hgY, hlN, hbX⟩; have hac2 : Below w30.heap.size w30 w33 := (hacc.alloc hacc.size _).trans (hbX.mono (hacc.alloc hacc.size _).size); have hUA := hacc.size; have hPR := (nu.Pair.start _ 31).later hbX; have hlS2 := (hlS.below ((Below.refl _ _).alloc (Nat.le_refl _) _)).below hbX; clear hlS; have hlS := hlS2; clear hlS2; have hlO2 := (hlO.below ((Below.refl _ _).alloc (Nat.le_refl _) _)).below hbX; clear hlO; have hlO := hlO2; clear hlO2; clear hacc; have hacc := hac2; clear hac2 hbX hgX hgY) | (go_at_call 13; refine (toInt64S_any _ b2 vc2 vs2 HNV2.out (HNR.out _ (HCU_w34.out _ hacc))).mono ?_; rintro e w33 ⟨gN, rfl, hgX, hgY, hlN, hbX⟩; have hac2 : Below w30.heap.size w30 w33 := hacc.trans (hbX.mono hacc.size); have hlS2 := hlS.below hbX; clear hlS; have hlS := hlS2; clear hlS2; have hlO2 := hlO.below hbX; clear hlO; have hlO := hlO2; clear hlO2; clear hacc; have hacc := hac2; clear hac2 hbX hgX hgY) | (go_at_call 23; have _p := hPR; refine (HI.out _ _ _ _ _ _ hlS hlO.nums hlN.nums).mono ?_; rintro e w34 ⟨a_w34, g_w34, k_w34, b_w34, h_w34, d_w34, rfl, hgX, hhX, hinR, hinM, hltR, hbX⟩; have hac2 : Below w30.heap.size w30 w34 := hacc.trans (hbX.mono hacc.size); have hgU : w30.heap.size ≤ g_w34 := Nat.le_trans hacc.size hgX; have hhU : w30.heap.size ≤ h_w34 := Nat.le_trans hacc.size hhX; have hgT := Nat.lt_of_lt_of_le hPR.lt hgX; have hhT := Nat.lt_of_lt_of_le hPR.lt hhX; have hPR2 := hPR.later hbX; clear _p hPR; have hPR := hPR2; clear hPR2; clear hacc; have hacc := hac2; clear hac2 hbX hltR hgX hhX hlS hlO hlN; have v0 := hPR.cell 0 _ rfl; have v1 := hPR.cell 1 _ rfl; have z0 := hPR.free 0; have z1 := hPR.free 1) | (go_at_call 23; refine (HI.out _ _ _ _ _ _ (hlS.below ((Below.refl _ _).alloc (Nat.le_refl _) _)) (hlO.below ((Below.refl _ _).alloc (Nat.le_refl _) _)).nums (hlN.below ((Below.refl _ _).alloc (Nat.le_refl _) _)).nums).mono ?_; rintro e w34 ⟨a_w34, g_w34, k_w34, b_w34, h_w34, d_w34, rfl, hgX, hhX, hinR, hinM, hltR, hbX⟩; have hac2 : Below w30.heap.size w30 w34 := (hacc.alloc hacc.size _).trans (hbX.mono (hacc.alloc hacc.size _).size); have hgU : w30.heap.size ≤ g_w34 := Nat.le_trans (hacc.alloc hacc.size _).size hgX; have hhU : w30.heap.size ≤ h_w34 := Nat.le_trans (hacc.alloc hacc.size _).size hhX; have hgT := Nat.lt_of_lt_of_le (nu.Pair.start _ 31).lt hgX; have hhT := Nat.lt_of_lt_of_le (nu.Pair.start _ 31).lt hhX; have hUA := hacc.size; have hPR := (nu.Pair.start _ 31).later hbX; clear hacc; have hacc := hac2; clear hac2 hbX hltR hgX hhX hlS hlO hlN; have v0 := hPR.cell 0 _ rfl; have v1 := hPR.cell 1 _ rfl; have z0 := hPR.free 0; have z1 := hPR.free 1) | (go_at_call 23; refine (HI.out _ _ _ _ _ _ hlS hlO.nums hlN.nums).mono ?_; rintro e w34 ⟨a_w34, g_w34, k_w34, b_w34, h_w34, d_w34, rfl, hgX, hhX, hinR, hinM, hltR, hbX⟩; have hac2 : Below w30.heap.size w30 w34 := hacc.trans (hbX.mono hacc.size); have hgU : w30.heap.size ≤ g_w34 := Nat.le_trans hacc.size hgX; have hhU : w30.heap.size ≤ h_w34 := Nat.le_trans hacc.size hhX; clear hacc; have hacc := hac2; clear hac2 hbX hltR hgX hhX hlS hlO hlN))
        all_goals
          go_wp2_with fail
          go_meet
          first
            | exact ⟨_, a_w34, g_w34, k_w34, b_w34, h_w34, d_w34, rfl, rfl, rfl, ovar_put hPR hinR hgT rfl, (hinM.grown (grown_set _ _ _ _) (Nat.ne_of_gt hhT)).grown (grown_set _ _ _ _) (Nat.ne_of_gt hhT), hUA, hgU, hhU, (hacc.setCell (p := ⟨_, 0, none⟩) hUA _).setCell (p := ⟨_, 1, none⟩) hUA _⟩
            | exact ⟨_, a_w34, g_w34, k_w34, b_w34, h_w34, d_w34, rfl, rfl, rfl, OVar.start w34 t a_w34 g_w34 us.length k_w34 us _ rfl hinR, hinM.below ((Below.refl _ _).alloc (Nat.le_refl _) _), hacc.size, hgU, hhU, hacc.alloc hacc.size _⟩
      case rest =>
        obtain ⟨BHW, a_HW, g_HW, k_HW, a_HM, g_HM, k_HM, rfl, rfl, rfl, hV, hM, hBU, hgU, hhU, hU⟩ := hcut
        obtain ⟨X35, hXe⟩ : ∃ X, X = wc := ⟨_, rfl⟩
        rw [← hXe] at hV hM hU ⊢
        have HWbx : Hid (OVar BHW t a_HW g_HW us.length k_HW us X35) := hV
        have HMbx : Hid (Ints X35 a_HM g_HM ms) := hM
        have LO_HW : Hid (w30.heap.size ≤ g_HW) := hgU
        have LO_HM : Hid (w30.heap.size ≤ g_HM) := hhU
        have LB_HW : Hid (w30.heap.size ≤ BHW) := hBU
        have HI_HW : Hid (0 < us.length → g_HW < X35.heap.size) := fun h => hV.tx.lt h
        have HI_HM : Hid (0 < ms.length → g_HM < X35.heap.size) := fun h => hM.lt h
        have BL_HW : Hid (BHW < X35.heap.size) := hV.lt
        have SZ_X35 : Hid (w30.heap.size ≤ X35.heap.size) := hU.size
        have SWv23 : Hid (OVar BSW t a_SW g_SW us.length k_SW us X35) := SWv22.out.below hU
        have SMv23 : Hid (Ints X35 a_SM g_SM ms) := SMv22.out.below hU
        have GWv17 : Hid (OVar BGW t a_GW rr us.length k_GW (marks 1 us.length) X35) := GWv16.out.below hU
        have GMv17 : Hid (Ints X35 a_GM rm (marks kA ms.length)) := GMv16.out.below hU
        have HB_X35 : Hid (Below W.heap.size W X35) := HB_w30.out.trans (hU.mono HB_w30.out.size)
        have HWv0 : Hid (OVar BHW t a_HW g_HW us.length k_HW us X35) := HWbx.out
        have HMv0 : Hid (Ints X35 a_HM g_HM ms) := HMbx.out
        clear hV hM hBU hgU hhU hU hXe m0 m1 hacc HWbx HMbx HCU_w34 SWv22 SMv22 GWv16 GMv16 HB_w30
        have p0 := HWv0.out.c0
        have p1 := HWv0.out.c1
        have q0 := SWv23.out.c0
        have q1 := SWv23.out.c1
        go_wp2_with fail
        refine (eqNur_same X35 t a_HW a_SW g_HW g_SW us.length k_HW k_SW us rfl HUL.out HWv0.out.tx SWv23.out.tx).mono ?_
        rintro e w36 ⟨rfl, hb⟩
        have SZ_w36 : Hid (X35.heap.size ≤ w36.heap.size) := hb.size
        have SWv24 : Hid (OVar BSW t a_SW g_SW us.length k_SW us w36) := SWv23.out.below hb
        have SMv24 : Hid (Ints w36 a_SM g_SM ms) := SMv23.out.below hb
        have GWv18 : Hid (OVar BGW t a_GW rr us.length k_GW (marks 1 us.length) w36) := GWv17.out.below hb
        have GMv18 : Hid (Ints w36 a_GM rm (marks kA ms.length)) := GMv17.out.below hb
        have HWv1 : Hid (OVar BHW t a_HW g_HW us.length k_HW us w36) := HWv0.out.below hb
        have HMv1 : Hid (Ints w36 a_HM g_HM ms) := HMv0.out.below hb
        have HB_w36 : Hid (Below W.heap.size W w36) := HB_X35.out.trans (hb.mono HB_X35.out.size)
        clear hb p0 p1 q0 q1 SWv23 SMv23 GWv17 GMv17 HWv0 HMv0 HB_X35
        go_wp2_with fail
        refine (eqInt64S_same w36 a_HM a_SM g_HM g_SM k_HM k_SM ms HML.out HMv1.out SMv24.out).mono ?_
        rintro e w37 ⟨rfl, hb⟩
        have SZ_w37 : Hid (w36.heap.size ≤ w37.heap.size) := hb.size
        have SWv25 : Hid (OVar BSW t a_SW g_SW us.length k_SW us w37) := SWv24.out.below hb
        have SMv25 : Hid (Ints w37 a_SM g_SM ms) := SMv24.out.below hb
        have GWv19 : Hid (OVar BGW t a_GW rr us.length k_GW (marks 1 us.length) w37) := GWv18.out.below hb
        have GMv19 : Hid (Ints w37 a_GM rm (marks kA ms.length)) := GMv18.out.below hb
        have HWv2 : Hid (OVar BHW t a_HW g_HW us.length k_HW us w37) := HWv1.out.below hb
        have HMv2 : Hid (Ints w37 a_HM g_HM ms) := HMv1.out.below hb
        have HB_w37 : Hid (Below W.heap.size W w37) := HB_w36.out.trans (hb.mono HB_w36.out.size)
        clear hb SWv24 SMv24 GWv18 GMv18 HWv1 HMv1 HB_w36
        clear HWv2 HMv2
        have q0 := GWv19.out.c0
        have q1 := GWv19.out.c1
        go_wp2_with fail
        refine (heldNur_any w37 t a_GW rr us.length k_GW 1 GWv19.out.tx HUL.out (by omega)).mono ?_
        rintro e w38 ⟨rfl, hb⟩
        rw [← HKA.out]
        have SZ_w38 : Hid (w37.heap.size ≤ w38.heap.size) := hb.size
        have SWv26 : Hid (OVar BSW t a_SW g_SW us.length k_SW us w38) := SWv25.out.below hb
        have SMv26 : Hid (Ints w38 a_SM g_SM ms) := SMv25.out.below hb
        have GWv20 : Hid (OVar BGW t a_GW rr us.length k_GW (marks 1 us.length) w38) := GWv19.out.below hb
        have GMv20 : Hid (Ints w38 a_GM rm (marks kA ms.length)) := GMv19.out.below hb
        have HB_w38 : Hid (Below W.heap.size W w38) := HB_w37.out.trans (hb.mono HB_w37.out.size)
        clear hb q0 q1 SWv25 SMv25 GWv19 GMv19 HB_w37
        go_wp2_with fail
        refine (heldInt64S_any w38 a_GM rm ms.length k_GM kA GMv20.out HML.out (by have := HKL.out; omega)).mono ?_
        rintro e w39 ⟨rfl, hb⟩
        rw [← HKB.out]
        have SZ_w39 : Hid (w38.heap.size ≤ w39.heap.size) := hb.size
        have SWv27 : Hid (OVar BSW t a_SW g_SW us.length k_SW us w39) := SWv26.out.below hb
        have SMv27 : Hid (Ints w39 a_SM g_SM ms) := SMv26.out.below hb
        have GWv21 : Hid (OVar BGW t a_GW rr us.length k_GW (marks 1 us.length) w39) := GWv20.out.below hb
        have GMv21 : Hid (Ints w39 a_GM rm (marks kA ms.length)) := GMv20.out.below hb
        have HB_w39 : Hid (Below W.heap.size W w39) := HB_w38.out.trans (hb.mono HB_w38.out.size)
        clear hb SWv26 SMv26 GWv20 GMv20 HB_w38
        go_wp2
        go_ret
        exact ⟨rfl, HEnd.out _ HB_w39.out⟩

set_option maxRecDepth 100000 in
theorem lifted (os : Os) (started : os.Started) (H : Type) (enc : TypeId × Value → H) :
    ReturnsInHanded {} Try.checked os 4 .any (Rows.fnExactMinorSpec.pre6 enc Try.prog Try.f4 Rows.fnExactMinorRow.domain false) (Rows.fnExactMinorSpec.post enc Try.prog Try.f4 false true false false) := by
  refine returnsInHanded_of_change (C := Try.checked) own started (by kernel_rfl) Try.func4
    (ChangeSpec.witness6 (enc := enc) (C := Try.checked) false ⟨#[], #[.slice none 0 0, .agg #[.int .i64 0, .slice none 0 0], .slice none 0 0], []⟩ 8 (by kernel_rfl) (by kernel_rfl) (by kernel_rfl) (by kernel_rfl)) ?_
  intro W base args ds gs before hval0 hW hcnd _
  have hval : ∀ (j : Nat) t v, Try.f4.params[j]? = some t → args[j]? = some v → Value.okWide Try.prog W .any base t v := hval0
  have hW' := hW
  obtain ⟨p, q, hA0, hV, rfl, hfz, hnd⟩ := hW
  have hA : DataW.TrodAll enc Try.prog W 0 (fun _ => true) true Try.f4.params.toList args.toList ds p := hA0
  rw [Try.params4] at hA hval
  obtain ⟨v0, vs_0, d0, ds0, p0, q0, hargs, rfl, rfl, h0, r0⟩ := trodAll_cons hA
  obtain ⟨v1, vs_1, d1, ds1, p1, q1, rfl, rfl, rfl, h1, r1⟩ := trodAll_cons r0
  obtain ⟨v2, vs_2, d2, ds2, p2, q2, rfl, rfl, rfl, h2, r2⟩ := trodAll_cons r1
  obtain ⟨rfl, rfl, rfl⟩ := trodAll_nil r2
  obtain rfl : args = #[v0, v1, v2] := by cases args; simp_all
  obtain ⟨rfl, rfl⟩ := trodVars_none hV
  have k_0 := h0
  have lt_0 : ∀ x ∈ p0, x.block < W.heap.size := by obtain ⟨m, hm⟩ := k_0; exact DataW.trod_lt m _ _ _ hm
  obtain ⟨a0, c0, xs0, rfl, hl0, hm0, hz0⟩ := strs_of (hval 0 22 v0 rfl rfl) h0
  have k_1 := h1
  have lt_1 : ∀ x ∈ p1, x.block < W.heap.size := by obtain ⟨m, hm⟩ := k_1; exact DataW.trod_lt m _ _ _ hm
  obtain ⟨t1, b1, vc1, vs1, rfl, ht1, hk1, hn1, hw1⟩ := nur_of (hval 1 25 v1 rfl rfl) h1
  have k_2 := h2
  have lt_2 : ∀ x ∈ p2, x.block < W.heap.size := by obtain ⟨m, hm⟩ := k_2; exact DataW.trod_lt m _ _ _ hm
  obtain ⟨b2, vc2, vs2, rfl, hn2, hk2, hw2⟩ := numsw_of (hval 2 23 v2 rfl rfl) h2
  clear hA0 hval0
  refine (walk a0 c0 xs0 t1 b1 vc1 vs1 b2 vc2 vs2 W hl0 hm0 hz0 ht1 hk1 hn1 hw1 hk2 hn2 hw2).mono fun e W' ⟨he, bel⟩ => ?_
  subst he
  exact ⟨_, rfl, _, _, _, [], _, [], hW', trodAll_mk1 (shut_bool Try.underlying4 _), (trodAll_cons_mk (Below.trod laidOut (by kernel_rfl) (of_decide_eq_true (by kernel_rfl)) k_0 bel lt_0) (trodAll_cons_mk (Below.trod laidOut (by kernel_rfl) (of_decide_eq_true (by kernel_rfl)) k_1 bel lt_1) (trodAll_cons_mk (Below.trod laidOut (by kernel_rfl) (of_decide_eq_true (by kernel_rfl)) k_2 bel lt_2) trodAll_mk0))), rfl, bel.frame _, fun h => by cases h⟩

theorem over : Rows.fnExactMinorRow.holds Try.pinned (OpenSpec.ofChange Rows.fnExactMinorSpec) :=
  OpenClaim.holds_of_wide 4 Try.f4 rfl rfl rfl rfl rfl rfl rfl ⟨rfl, rfl, rfl, rfl, rfl⟩ rfl rfl rfl rfl rfl (by kernel_rfl) Try.func4 (by kernel_rfl)
    (of_decide_eq_true (by kernel_rfl)) (by unfold Func.isWrapper; first | (rw [if_pos (by decide +kernel)]; kernel_rfl) | (rw [if_neg (by decide +kernel)]; exact ⟨rfl, rfl⟩))
    (fun os started H enc _ => lifted os started H enc)

theorem proved : Rows.FnExactMinorSaid := over
#print axioms proved
end Go.Proofs.Ytngpmohmnpbcnaa.fnExactMinor
