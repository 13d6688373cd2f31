/-
  FnExactFormat: for every config the law that holds the program's Format against the specification's Format returns true, and the config and the program's table read as before; the table reads as the program's own text lays it (tied).
-/
import Derived.Test.YthigmppalpkadaaDoorCards
import Derived.Test.YthigmppalpkadaaDoorTie
import Derived.Test.YthigmppalpkadaaDoorConfOpen
import Derived.Test.YthigmppalpkadaaDoorFormat
import Derived.Test.YthigmppalpkadaaDoorConfOpen
import Derived.Deep.RegionWith
import Derived.ProofKit
import Derived.LaidMore
import Derived.OpenShut
import Derived.Stop.Joined
import Derived.Lib.LaidTab
import Derived.WalkSmall
import Derived.ShutString
import Derived.ChangeVars
import Derived.MakeChecks
import Derived.SevenTiedAt
import Derived.ChangeOld
import Derived.Below
namespace Go.Proofs.YthigmppalpkadaaDoor.fnExactFormat
open Go.ChangeShapes Go.WideShapes Go.ChangeAt Go.RowKit
open Go.ChangeMaps (open_string shut_string)
open crc kinds

theorem laidOut : laidOutB Tryd.prog = true := by kernel_rfl
theorem own : ownKnob Tryd.prog.godebug = none := by kernel_rfl
def nm : String := Rows.fnExactFormatSpec.vars.headD ""
theorem gTab : Tryd.prog.globalNamed nm = some 0 := by kernel_rfl
theorem tTab : (Tryd.prog.globals[0]?).map (·.type) = some 91 := by kernel_rfl
def zs : List Int := [0, 498536548, 997073096, 651767980, 1994146192, 1802195444, 1303535960, 1342533948, 3988292384, 4027552580, 3604390888, 3412177804, 2607071920, 2262029012, 2685067896, 3183342108]
def cs16 : Array Value := (zs.map fun z => Value.int .u32 z).toArray

theorem tab_of {W : World} (h : laidMetH Tryd.prog Rows.fnExactFormatRow.laid W) : W.var? Tryd.prog nm = some cs16 := by
  rw [MakeChecks.laidMetH_plain _ _ _ (by kernel_rfl)] at h
  have h' : laidMet Tryd.prog ((nm, Lib.tabData .u32 zs) :: []) W := h
  exact Lib.tabIs_of_head gTab tTab Tryd.underlying91 Tryd.underlying90 (by kernel_rfl) (by kernel_rfl) h'
theorem tabAt_of {W : World} (h : W.var? Tryd.prog nm = some cs16) : TabAt W := by
  intro i hi
  rw [World.var?_cell gTab h i]
  have : ∀ i, i < 16 → cs16[i]? = some (Value.int .u32 (tab i)) := by
    intro i hi
    have hc : i = 0 ∨ i = 1 ∨ i = 2 ∨ i = 3 ∨ i = 4 ∨ i = 5 ∨ i = 6 ∨ i = 7 ∨ i = 8 ∨ i = 9 ∨ i = 10 ∨ i = 11 ∨ i = 12 ∨ i = 13 ∨ i = 14 ∨ i = 15 := by omega
    rcases hc with rfl | rfl | rfl | rfl | rfl | rfl | rfl | rfl | rfl | rfl | rfl | rfl | rfl | rfl | rfl | rfl <;> rfl
  exact this i hi
theorem reads_table {H : Type} (enc : TypeId × Value → H) (W : World) (sp : Nat → Bool) : DataW.trod enc Tryd.prog W 0 sp true 3 91 cs16.toList = some (Lib.tabData .u32 zs, []) := by kernel_rfl
theorem door_met (os : Os) (args : Array Value) : laidMetH Tryd.prog Rows.fnExactFormatRow.laid ((World.doorLaid Tryd.prog 400 os).forCall (fun _ _ => 0) ⟨#[], args, []⟩).memory :=
  laidMetH_of_parts3 (fuel := 8) (laidMet_of_run' 8 (by kernel_rfl) (by kernel_rfl)) (by kernel_rfl) (by kernel_rfl)


set_option linter.unusedVariables false in
set_option maxHeartbeats 4000000 in
theorem walk (n1 n2 n3 : Int) (a : Option Addr) (cap : Nat) (xs : List ByteArray) (w : World) (hl : Strs w a xs) (hm : xs.length ≤ maxLen) (hz : ∀ i (hi : i < xs.length), xs[i].size ≤ maxLen) (htab : TabAt w) (hdeep : 0 < w.heap.size) :
    Calls Tryd.prog 10 #[.agg #[.int .i64 n1, .int .i64 n2, .int .i64 n3, .slice a xs.length cap]] w fun e w' => e = .returned (.bool true) ∧ Below w.heap.size w w' := by
  have HL : Hid (Strs w a xs) := hl
  obtain ⟨W, hW⟩ : ∃ W, W = w.alloc (.cells #[.int .i64 n1, .int .i64 n2, .int .i64 n3, .slice a xs.length cap] 43) := ⟨_, rfl⟩
  have HB0 : Hid (Below w.heap.size w W) := by
    have h1 : Below w.heap.size w W := by rw [hW]; exact (Below.refl _ _).alloc (Nat.le_refl _) _
    exact h1
  have hsz : w.heap.size < W.heap.size := by rw [hW]; simp
  have HK : Hid (∀ w', Below W.heap.size W w' → w'.cell? ⟨w.heap.size, 0, none⟩ = some (.int .i64 n1) ∧ w'.cell? ⟨w.heap.size, 1, none⟩ = some (.int .i64 n2) ∧ w'.cell? ⟨w.heap.size, 2, none⟩ = some (.int .i64 n3) ∧ w'.cell? ⟨w.heap.size, 3, none⟩ = some (.slice a xs.length cap)) := fun w' h =>
    ⟨by rw [h.cell (p := ⟨w.heap.size, 0, none⟩) hsz, hW, World.cell?_alloc_new]; rfl, by rw [h.cell (p := ⟨w.heap.size, 1, none⟩) hsz, hW, World.cell?_alloc_new]; rfl, by rw [h.cell (p := ⟨w.heap.size, 2, none⟩) hsz, hW, World.cell?_alloc_new]; rfl, by rw [h.cell (p := ⟨w.heap.size, 3, none⟩) hsz, hW, World.cell?_alloc_new]; rfl⟩
  have HW : Hid (W = w.alloc (.cells #[.int .i64 n1, .int .i64 n2, .int .i64 n3, .slice a xs.length cap] 43)) := hW
  have HSZ : Hid (∀ w, Strs w a xs → _) := fun w h => szConfig_any w n1 n2 n3 a cap xs hm h hz
  have HLW : Hid (∀ w', Below W.heap.size W w' → Strs w' a xs) := fun w' h => (HL.out.below HB0.out).below h
  have HEnd : Hid (∀ w', Below W.heap.size W w' → Below w.heap.size w w') := fun w' h => HB0.out.trans (h.mono HB0.out.size)
  have HT : Hid (∀ w', Below W.heap.size W w' → TabAt w' ∧ 0 < w'.heap.size) := fun w' h => ⟨(htab.below HB0.out hdeep).below h (Nat.lt_of_lt_of_le hdeep HB0.out.size), Nat.lt_of_lt_of_le hdeep (Nat.le_trans HB0.out.size h.size)⟩
  clear hW hl hz htab
  go_enter Tryd.func10, Tryd.ntmps10
  go_wp2_with fail
  rw [← HW.out]
  refine (HSZ.out W (HLW.out W (Below.refl _ _))).mono ?_
  rintro e w1 ⟨r, rfl, hr0, hr1, hb1⟩
  have HB1 : Hid (Below W.heap.size W w1) := hb1
  have HR1 : Hid (0 ≤ r → xs.length ≤ 1048576 ∧ ∀ i (hi : i < xs.length), xs[i].size ≤ 1048576) := hr1
  clear hb1 hr1
  by_cases hneg : r < 0
  · go_wp2
    go_ret
    exact ⟨rfl, HEnd.out _ HB1.out⟩
  obtain ⟨hn2, hz2⟩ := HR1.out (by omega)
  have HS : Hid (∀ (w : World) (a : Option Addr) (cap : Nat), Strs w a xs → _) := fun w a cap h => spec_format w n1 n2 n3 a cap xs hn2 h hz2
  have HI : Hid (∀ (w : World) (a : Option Addr) (cap : Nat), Strs w a xs → TabAt w → 0 < w.heap.size → _) := fun w a cap h h1 h2 => impl_format w n1 n2 n3 a cap xs hn2 h hz2 h1 h2
  generalize formatStr n1 n2 n3 xs = b at HS HI
  have hbb : (b.toList == b.toList) = true := by simp
  clear hz2 HR1
  obtain ⟨m0, m1, m2, m3⟩ := HK.out w1 HB1.out
  go_wp2_with fail
  refine (toConfig_any w1 n1 n2 n3 a cap xs hn2 (HLW.out w1 HB1.out)).mono ?_
  rintro e w2 ⟨g, rfl, hg, hg2, hl2, hr2, hb2⟩
  have HL2 : Hid (Strs w2 (some ⟨g, 0, none⟩) xs) := hl2
  have HB2 : Hid (Below W.heap.size W w2) := HB1.out.trans (hb2.mono HB1.out.size)
  clear hl2 hr2 hb2 m0 m1 m2 m3
  go_wp2_with fail
  refine (HS.out w2 _ xs.length HL2.out).mono ?_
  rintro e w3 ⟨rfl, hb3⟩
  have HB3 : Hid (Below W.heap.size W w3) := HB2.out.trans (hb3.mono HB2.out.size)
  clear hb3
  obtain ⟨m0, m1, m2, m3⟩ := HK.out w3 HB3.out
  go_wp2_with fail
  refine (toConfig_any w3 n1 n2 n3 a cap xs hn2 (HLW.out w3 HB3.out)).mono ?_
  rintro e w4 ⟨g2, rfl, hg2', hg3, hl4, hr4, hb4⟩
  have HB4 : Hid (Below W.heap.size W w4) := HB3.out.trans (hb4.mono HB3.out.size)
  obtain ⟨X, hX⟩ : ∃ X, X = w4.alloc (.cells #[.int .i64 n1, .int .i64 n2, .int .i64 n3, .slice (some ⟨g2, 0, none⟩) xs.length xs.length] 26) := ⟨_, rfl⟩
  have hX4 : Below w4.heap.size w4 X := by rw [hX]; exact (Below.refl _ _).alloc (Nat.le_refl _) _
  have HLX : Hid (∀ w', Below X.heap.size X w' → Strs w' (some ⟨g2, 0, none⟩) xs) := fun w' h => (hl4.below hX4).below h
  have HBX : Hid (Below W.heap.size W X) := HB4.out.trans (hX4.mono HB4.out.size)
  have hszX : w4.heap.size < X.heap.size := by rw [hX]; simp
  have HKX : Hid (∀ w', Below X.heap.size X w' → w'.cell? ⟨w4.heap.size, 0, none⟩ = some (.int .i64 n1) ∧ w'.cell? ⟨w4.heap.size, 1, none⟩ = some (.int .i64 n2) ∧ w'.cell? ⟨w4.heap.size, 2, none⟩ = some (.int .i64 n3) ∧ w'.cell? ⟨w4.heap.size, 3, none⟩ = some (.slice (some ⟨g2, 0, none⟩) xs.length xs.length)) := fun w' h =>
    ⟨by rw [h.cell (p := ⟨w4.heap.size, 0, none⟩) hszX, hX, World.cell?_alloc_new]; rfl, by rw [h.cell (p := ⟨w4.heap.size, 1, none⟩) hszX, hX, World.cell?_alloc_new]; rfl, by rw [h.cell (p := ⟨w4.heap.size, 2, none⟩) hszX, hX, World.cell?_alloc_new]; rfl, by rw [h.cell (p := ⟨w4.heap.size, 3, none⟩) hszX, hX, World.cell?_alloc_new]; rfl⟩
  have HX : Hid (X = w4.alloc (.cells #[.int .i64 n1, .int .i64 n2, .int .i64 n3, .slice (some ⟨g2, 0, none⟩) xs.length xs.length] 26)) := hX
  clear hX hX4 hl4 hr4 hb4 m0 m1 m2 m3
  go_wp2_with fail
  rw [← HX.out]
  refine (HI.out X _ xs.length (HLX.out X (Below.refl _ _)) (HT.out X HBX.out).1 (HT.out X HBX.out).2).mono ?_
  rintro e w5 ⟨rfl, hb5⟩
  have HX5 : Hid (Below X.heap.size X w5) := hb5
  have HB5 : Hid (Below W.heap.size W w5) := HBX.out.trans (hb5.mono HBX.out.size)
  clear hb5
  obtain ⟨m0, m1, m2, m3⟩ := HK.out w5 HB5.out
  obtain ⟨n0, n1', n2', n3'⟩ := HKX.out w5 HX5.out
  have HLa : Hid (Strs w5.drew a xs) := HLW.out w5 HB5.out
  have HLb : Hid (Strs w5.drew (some ⟨g2, 0, none⟩) xs) := HLX.out w5 HX5.out
  have HD : Hid (∀ w', Below w5.drew.heap.size w5.drew w' → Below w5.heap.size w5 w') := fun w' h => ⟨h.os, h.tape, h.output, h.size, h.block⟩
  have HKK : Hid (∀ w', Below w5.drew.heap.size w5.drew w' → w'.cell? ⟨w4.heap.size, 0, none⟩ = some (.int .i64 n1) ∧ w'.cell? ⟨w4.heap.size, 1, none⟩ = some (.int .i64 n2) ∧ w'.cell? ⟨w4.heap.size, 2, none⟩ = some (.int .i64 n3) ∧ w'.cell? ⟨w4.heap.size, 3, none⟩ = some (.slice (some ⟨g2, 0, none⟩) xs.length xs.length)) := fun w' h =>
    HKX.out w' (HX5.out.trans ((HD.out w' h).mono HX5.out.size))
  go_wp2
  go_region_with (first | (go_at_call 33; refine (toConfig_any w5.drew n1 n2 n3 a cap xs hn2 HLa.out).mono ?_; rintro e w6 ⟨g3', rfl, hg4, hg5, hl6, hr6, hb6⟩; obtain ⟨o0, o1, o2, o3⟩ := HKK.out w6 hb6) | (go_at_call 34; refine (eqConfig_same w6 n1 n2 n3 (some ⟨g2, 0, none⟩) (some ⟨g3', 0, none⟩) xs.length xs.length xs hn2 (HLb.out.below hb6) hl6).mono ?_; rintro e w7 ⟨rfl, hb7⟩))
  all_goals
    have h67 : Below w5.heap.size w5 w7 := (HD.out w6 hb6).trans (hb7.mono (HD.out w6 hb6).size)
    have HB7 : Hid (Below W.heap.size W w7) := HB5.out.trans (h67.mono HB5.out.size)
    clear hl6 hr6 hb6 hb7 o0 o1 o2 o3 h67 m0 m1 m2 m3
    go_wp2
    go_ret
    exact ⟨rfl, HEnd.out _ HB7.out⟩

set_option maxRecDepth 100000 in
theorem lifted (os : Os) (started : os.Started) (H : Type) (enc : TypeId × Value → H) :
    ReturnsInHanded {} Tryd.checked os 10 .any (fun w args => (Rows.fnExactFormatSpec.pre enc Tryd.prog Tryd.f10 [] false w args ∧ laidMetH Tryd.prog Rows.fnExactFormatRow.laid w) ∧ sizedMet enc Tryd.prog Tryd.f10 (OpenSpec.ofChange Rows.fnExactFormatSpec) false w args)
      (Rows.fnExactFormatSpec.post enc Tryd.prog Tryd.f10 false true false false) := by
  refine returnsInHanded_of_change_and (C := Tryd.checked) (X := fun w _ => laidMetH Tryd.prog Rows.fnExactFormatRow.laid w) (fun _ _ _ hh h => h.of_heap hh) own started (by kernel_rfl) Tryd.func10
    (ChangeSpec.witness_shaped (enc := enc) (C := Tryd.checked) (os := os) (X := fun w _ => laidMetH Tryd.prog Rows.fnExactFormatRow.laid w) false (World.doorLaid Tryd.prog 400 os) #[.agg #[.int .i64 0, .int .i64 0, .int .i64 0, .slice none 0 0]] 8 rfl (World.shaped_of_RefB (by kernel_rfl) (by kernel_rfl)) (by kernel_rfl) (by kernel_rfl) (by kernel_rfl) (door_met os _)) ?_
  intro W base args ds gs before hval0 hW _ _ hL _
  have hval : ∀ (j : Nat) t v, Tryd.f10.params[j]? = some t → args[j]? = some v → Value.okWide Tryd.prog W .any base t v := hval0
  have hW' := hW
  obtain ⟨p, q, hA0, hV0, rfl, hfz, hnd⟩ := hW
  have hA : DataW.TrodAll enc Tryd.prog W 0 (fun _ => true) true Tryd.f10.params.toList args.toList ds p := hA0
  have hV : DataW.TrodVars enc Tryd.prog W (fun _ => true) [nm] gs q := hV0
  rw [Tryd.params10] at hA hval
  obtain ⟨v0, vs0, d0, ds0, p0, q0, hargs, rfl, rfl, h0, r0⟩ := trodAll_cons hA
  obtain ⟨rfl, rfl, rfl⟩ := trodAll_nil r0
  obtain rfl : args = #[v0] := by cases args; simp_all
  have k0 := h0
  have lt0 : ∀ x ∈ p0, x.block < W.heap.size := by obtain ⟨m, hm⟩ := k0; exact DataW.trod_lt m _ _ _ hm
  obtain ⟨n1, n2, n3, a, cap, xs, rfl, _, _, _, hl, hm, hz⟩ := config_of (hval 0 43 v0 rfl rfl) h0
  obtain ⟨g, t, cs, fuel, d, p', rfl, hg, ht, hvar, hd, rfl⟩ := trodVars_one hV
  obtain rfl := Option.some.inj (gTab.symm.trans hg)
  obtain rfl := Option.some.inj (tTab.symm.trans ht)
  obtain rfl : cs = cs16 := Option.some.inj (hvar.symm.trans (tab_of hL))
  obtain ⟨rfl, rfl⟩ := DataW.Trod.unique (v := .agg cs16) ⟨fuel, hd⟩ ⟨3, reads_table enc W _⟩
  have hdeep : 0 < W.heap.size := by
    have := World.block_lt_of_cell? W _ (tabAt_of hvar 0 (by omega))
    simpa using this
  clear hA0 hV0 hval0
  refine (walk n1 n2 n3 a cap xs W hl hm hz (tabAt_of hvar) hdeep).mono fun e W' ⟨he, bel⟩ => ?_
  subst he
  exact ⟨_, rfl, _, _, _, [], _, MemPlace.row ⟨0, 0, none⟩ cs16.size ++ [], hW', trodAll_mk1 (shut_bool Tryd.underlying4 _), trodAll_cons_mk (Below.trod laidOut (by kernel_rfl) (of_decide_eq_true (by kernel_rfl)) k0 bel lt0) trodAll_mk0, trodVars_mk1 gTab tTab (var?_below bel gTab hdeep hvar) (reads_table enc W' _), bel.frame _, fun h => by cases h⟩

theorem over : Rows.FnExactFormatSaid :=
  OpenClaim.holds_of_wide 10 Tryd.f10 rfl rfl rfl rfl rfl rfl rfl ⟨rfl, rfl, rfl, rfl, rfl⟩ rfl rfl rfl rfl rfl (by kernel_rfl) Tryd.func10 (by kernel_rfl)
    (of_decide_eq_true (by kernel_rfl)) (by unfold Func.isWrapper; first | (rw [if_pos (by decide +kernel)]; kernel_rfl) | (rw [if_neg (by decide +kernel)]; exact ⟨rfl, rfl⟩))
    (fun os started H enc _ => lifted os started H enc)

theorem card : Rows.FnExactFormatCardSaid :=
  Claim7.holds_tied_plain_at .later [] [.data] true (true, "d7643585128180887773e83689b4c1ca6d83783bd392defb41d17d5a3e758b34") false
    over (fun _ h => by cases h) (by kernel_rfl) (fun _ h => by cases h) fnExactFormat_row_tie rfl ⟨rfl, rfl⟩ (by kernel_rfl) rfl
    (fun f fn hf hfn => by
      obtain rfl : f = 10 := Option.some.inj ((show Tryd.prog.funcNamed Rows.fnExactFormatRow.func = some 10 by kernel_rfl).symm.trans hf) |>.symm
      obtain rfl : fn = Tryd.f10 := (Option.some.inj (Tryd.func10.symm.trans hfn)).symm
      exact ⟨by kernel_rfl, fun j t ht => by
        rw [Tryd.params10] at ht
        have h3 : t = 43 := by
          rcases j with _ | j
          · simpa using ht.symm
          · simp at ht
        subst h3
        exact (show Tryd.prog.wantsStandIn 43 = false by kernel_rfl)⟩)
    (by kernel_rfl)
#print axioms card
end Go.Proofs.YthigmppalpkadaaDoor.fnExactFormat
