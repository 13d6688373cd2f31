/-
  FnExactConfigOf: for every text the law that holds the program's ConfigOf against the specification's ConfigOf returns true, and the text and the program's table read as before; the table reads as the program's own text lays it (tied).
-/
import Derived.Test.YtpkdkkjdlhillaaDoorCards
import Derived.Test.YtpkdkkjdlhillaaDoorTie
import Derived.Test.YtpkdkkjdlhillaaDoorConfOf
import Derived.ProofKit
import Derived.LaidMore
import Derived.OpenShut
import Derived.Stop.Joined
import Derived.Lib.LaidTab
import Derived.WalkSmall
import Derived.ShutString
import Derived.ChangeVars
import Derived.MakeChecks
import Derived.SevenTiedAt
import Derived.ChangeOld
import Derived.Below
namespace Go.Proofs.YtpkdkkjdlhillaaDoor.fnExactConfigOf
open Go.ChangeShapes Go.WideShapes Go.ChangeAt Go.RowKit
open Go.ChangeMaps (open_string shut_string)
open crc kinds ints txt

theorem own : ownKnob Tryd.prog.godebug = none := by kernel_rfl
def nm : String := Rows.fnExactConfigOfSpec.vars.headD ""
theorem gTab : Tryd.prog.globalNamed nm = some 0 := by kernel_rfl
theorem tTab : (Tryd.prog.globals[0]?).map (·.type) = some 74 := by kernel_rfl
def zs : List Int := [0, 498536548, 997073096, 651767980, 1994146192, 1802195444, 1303535960, 1342533948, 3988292384, 4027552580, 3604390888, 3412177804, 2607071920, 2262029012, 2685067896, 3183342108]
def cs16 : Array Value := (zs.map fun z => Value.int .u32 z).toArray

theorem tab_of {W : World} (h : laidMetH Tryd.prog Rows.fnExactConfigOfRow.laid W) : W.var? Tryd.prog nm = some cs16 := by
  rw [MakeChecks.laidMetH_plain _ _ _ (by kernel_rfl)] at h
  have h' : laidMet Tryd.prog ((nm, Lib.tabData .u32 zs) :: []) W := h
  exact Lib.tabIs_of_head gTab tTab Tryd.underlying74 Tryd.underlying73 (by kernel_rfl) (by kernel_rfl) h'
theorem tabAt_of {W : World} (h : W.var? Tryd.prog nm = some cs16) : TabAt W := by
  intro i hi
  rw [World.var?_cell gTab h i]
  have : ∀ i, i < 16 → cs16[i]? = some (Value.int .u32 (tab i)) := by
    intro i hi
    have hc : i = 0 ∨ i = 1 ∨ i = 2 ∨ i = 3 ∨ i = 4 ∨ i = 5 ∨ i = 6 ∨ i = 7 ∨ i = 8 ∨ i = 9 ∨ i = 10 ∨ i = 11 ∨ i = 12 ∨ i = 13 ∨ i = 14 ∨ i = 15 := by omega
    rcases hc with rfl | rfl | rfl | rfl | rfl | rfl | rfl | rfl | rfl | rfl | rfl | rfl | rfl | rfl | rfl | rfl <;> rfl
  exact this i hi
theorem reads_table {H : Type} (enc : TypeId × Value → H) (W : World) (sp : Nat → Bool) : DataW.trod enc Tryd.prog W 0 sp true 3 74 cs16.toList = some (Lib.tabData .u32 zs, []) := by kernel_rfl
theorem door_met (os : Os) (args : Array Value) : laidMetH Tryd.prog Rows.fnExactConfigOfRow.laid ((World.doorLaid Tryd.prog 400 os).forCall (fun _ _ => 0) ⟨#[], args, []⟩).memory :=
  laidMetH_of_parts3 (fuel := 8) (laidMet_of_run' 8 (by kernel_rfl) (by kernel_rfl)) (by kernel_rfl) (by kernel_rfl)


set_option linter.unusedVariables false in
theorem walk (a0 : ByteArray) (w0 : a0.size ≤ maxLen) (w : World) (htab : TabAt w) (hdeep : 0 < w.heap.size) :
    Calls Tryd.prog 5 #[.string a0] w fun e w' => e = .returned (.bool true) ∧ Below w.heap.size w w' := by
  unfold maxLen at w0
  have HT : Hid (TabAt w) := htab
  clear htab
  by_cases hbig : (1048576 : Int) < (a0.size : Int)
  · go_enter Tryd.func5, Tryd.ntmps5
    go_wp2
    go_ret
    exact ⟨rfl, Below.refl _ _⟩
  · obtain ⟨n1, n2, n3, xs, b, hx12, hS, hI⟩ := confof_both a0 (by omega)
    obtain ⟨n, hn⟩ : ∃ n, n = xs.length := ⟨_, rfl⟩
    have HLN : Hid (xs.length = n) := hn.symm
    have hn12 : n ≤ 12 := by omega
    unfold RAns at hS hI
    rw [← hn] at hS hI
    have HS : Hid (∀ w, Calls _ _ _ w _) := hS
    have HI : Hid (∀ w, TabAt w → 0 < w.heap.size → Calls _ _ _ w _) := hI
    clear hS hI hn hx12
    have hbb : (b != b) = false := by simp
    go_enter Tryd.func5, Tryd.ntmps5
    go_wp2_with fail
    refine (HS.out _).mono ?_
    rintro e w1 ⟨a1, g1, k1, rfl, hg1, ht1, hb1⟩
    obtain ⟨X, hX⟩ : ∃ X, X = w1.alloc (.cells #[.int .i64 n1, .int .i64 n2, .int .i64 n3, .slice a1 n k1] 26) := ⟨_, rfl⟩
    have HX : Hid (X = w1.alloc (.cells #[.int .i64 n1, .int .i64 n2, .int .i64 n3, .slice a1 n k1] 26)) := hX
    have HXB : Hid (Below w.heap.size w X) := by rw [hX]; exact hb1.alloc hb1.size _
    have HV1 : Hid (CVar w1.heap.size n1 n2 n3 a1 g1 n k1 xs X) := by rw [hX]; exact CVar.start w1 n1 n2 n3 a1 g1 n k1 xs _ HLN.out ht1
    have HG1 : Hid (0 < xs.length → g1 < w1.heap.size) := fun h => ht1.lt h
    have HB1 : Hid (w.heap.size ≤ w1.heap.size) := hb1.size
    clear hX hb1 ht1
    have HT1 : Hid (TabAt X) := HT.out.below HXB.out hdeep
    have hdeep1 : 0 < X.heap.size := Nat.lt_of_lt_of_le hdeep HXB.out.size
    go_wp2_with fail
    rw [← HX.out]
    refine (HI.out _ HT1.out hdeep1).mono ?_
    rintro e w2 ⟨a2, g2, k2, rfl, hg2, ht2, hb2⟩
    have HV1' : Hid (CVar w1.heap.size n1 n2 n3 a1 g1 n k1 xs w2) := HV1.out.below hb2
    have m0 := HV1'.out.c0
    have m1 := HV1'.out.c1
    have m2 := HV1'.out.c2
    have m3 := HV1'.out.c3
    have hlt := HV1'.out.lt
    obtain ⟨b1, hb1e⟩ : ∃ b1, b1 = w1.heap.size := ⟨_, rfl⟩
    rw [← hb1e] at m0 m1 m2 m3 hlt HV1' HG1 HV1
    have HE1 : Hid (b1 = w1.heap.size) := hb1e
    obtain ⟨Y, hY⟩ : ∃ Y, Y = w2.alloc (.cells #[.int .i64 n1, .int .i64 n2, .int .i64 n3, .slice a2 n k2] 26) := ⟨_, rfl⟩
    have HY : Hid (Y = w2.alloc (.cells #[.int .i64 n1, .int .i64 n2, .int .i64 n3, .slice a2 n k2] 26)) := hY
    have HYB : Hid (Below w2.heap.size w2 Y) := by rw [hY]; exact (Below.refl _ _).alloc (Nat.le_refl _) _
    have HV2 : Hid (CVar w2.heap.size n1 n2 n3 a2 g2 n k2 xs Y) := by rw [hY]; exact CVar.start w2 n1 n2 n3 a2 g2 n k2 xs _ HLN.out ht2
    have HG2 : Hid (0 < xs.length → g2 < w2.heap.size) := fun h => ht2.lt h
    have HW2 : Hid (Below w.heap.size w w2) := HXB.out.trans (hb2.mono HXB.out.size)
    have HXW : Hid (X.heap.size ≤ w2.heap.size ∧ b1 < X.heap.size ∧ X.heap.size ≤ g2) := ⟨hb2.size, HV1.out.lt, hg2⟩
    clear hY hb2 ht2 hb1e hg2
    rw [← HE1.out]
    go_wp2_with fail
    rw [← HY.out]
    have HV1y : Hid (CVar b1 n1 n2 n3 a1 g1 n k1 xs Y) := HV1'.out.below HYB.out
    refine (eqConfig_same Y n1 n2 n3 a2 a1 n k2 k1 xs HLN.out (by have := HLN.out; omega) HV2.out.tx.strs HV1y.out.tx.strs).mono ?_
    rintro e w3 ⟨rfl, hb3⟩
    obtain ⟨b2, hb2e⟩ : ∃ b2, b2 = w2.heap.size := ⟨_, rfl⟩
    have HE2 : Hid (b2 = w2.heap.size) := hb2e
    have HV2a : Hid (CVar b2 n1 n2 n3 a2 g2 n k2 xs w3) := by rw [hb2e]; exact HV2.out.below hb3
    have HV1a : Hid (CVar b1 n1 n2 n3 a1 g1 n k1 xs w3) := HV1y.out.below hb3
    have HW3 : Hid (Below w.heap.size w w3) := (HW2.out.trans (HYB.out.mono HW2.out.size)).trans (hb3.mono (Nat.le_trans HW2.out.size HYB.out.size))
    clear hb3 m0 m1 m2 m3 hlt hb2e
    rw [← HE2.out]
    have m0 := HV2a.out.c0
    have m1 := HV2a.out.c1
    have m2 := HV2a.out.c2
    have m3 := HV2a.out.c3
    go_wp2_with fail
    obtain ⟨r, htr, hBr, hne⟩ := HV2a.out.block w.heap.size (by have := HXW.out; have := HXB.out.size; omega) HW3.out.size
    have hr1 : b1 ≠ r := hne b1 HV1a.out.lt (fun _ => by have := HXW.out; omega)
    have hr2 : b2 ≠ r := hne b2 HV2a.out.lt (fun h => by have := HG2.out h; have := HE2.out; omega)
    have hr3 : 0 < xs.length → g1 ≠ r := fun h => hne g1 (HV1a.out.tx.lt h) (fun _ => by have := HG1.out h; have := HXW.out; omega)
    refine (markConfig_any w3 n1 n2 n3 a2 r n k2 xs 1 HLN.out htr (by omega) (by omega) (by omega)).mono ?_
    rintro e w4 ⟨rfl, hg4, ht4⟩
    have HV2b : Hid (CVar b2 n1 n2 n3 a2 r n k2 (markTs 1 n) w4) := HV2a.out.marked hg4 hr2 (markTs_len 1 n) ht4
    have HV1b : Hid (CVar b1 n1 n2 n3 a1 g1 n k1 xs w4) := HV1a.out.grown hg4 hr1 hr3
    have HW4 : Hid (Below w.heap.size w w4) := HW3.out.trans (below_of_grown hg4 HW3.out.size hBr)
    clear hg4 ht4 htr hBr hne hr1 hr2 hr3 m0 m1 m2 m3 HV2a HV1a
    obtain ⟨km, hkm⟩ : ∃ km : Int, km = ((1 + n : Nat) : Int) := ⟨_, rfl⟩
    rw [← hkm]
    have HKM : Hid (km = ((1 + n : Nat) : Int)) := hkm
    have hk0 : ¬ km < 0 := by omega
    have hkk : (km != km) = false := by simp
    clear hkm
    have m0 := HV2b.out.c0
    have m1 := HV2b.out.c1
    have m2 := HV2b.out.c2
    have m3 := HV2b.out.c3
    go_wp2_with fail
    refine (heldConfig_any w4 n1 n2 n3 a2 r n k2 1 HV2b.out.tx (by omega) (by omega) (by omega)).mono ?_
    rintro e w5 ⟨rfl, hb5⟩
    rw [← HKM.out]
    have HV2c : Hid (CVar b2 n1 n2 n3 a2 r n k2 (markTs 1 n) w5) := HV2b.out.below hb5
    have HV1c : Hid (CVar b1 n1 n2 n3 a1 g1 n k1 xs w5) := HV1b.out.below hb5
    have HW5 : Hid (Below w.heap.size w w5) := HW4.out.trans (hb5.mono HW4.out.size)
    clear hb5 m0 m1 m2 m3 HV2b HV1b
    go_wp2_with fail
    refine (HI.out _ (HT.out.below HW5.out hdeep) (Nat.lt_of_lt_of_le hdeep HW5.out.size)).mono ?_
    rintro e w6 ⟨a3, g3, k3, rfl, hg3, ht3, hb6⟩
    have HV2d : Hid (CVar b2 n1 n2 n3 a2 r n k2 (markTs 1 n) w6) := HV2c.out.below hb6
    have HV1d : Hid (CVar b1 n1 n2 n3 a1 g1 n k1 xs w6) := HV1c.out.below hb6
    have m0 := HV1d.out.c0
    have m1 := HV1d.out.c1
    have m2 := HV1d.out.c2
    have m3 := HV1d.out.c3
    have hlt := HV1d.out.lt
    obtain ⟨Z, hZ⟩ : ∃ Z, Z = w6.alloc (.cells #[.int .i64 n1, .int .i64 n2, .int .i64 n3, .slice a3 n k3] 26) := ⟨_, rfl⟩
    have HZ : Hid (Z = w6.alloc (.cells #[.int .i64 n1, .int .i64 n2, .int .i64 n3, .slice a3 n k3] 26)) := hZ
    have HZB : Hid (Below w6.heap.size w6 Z) := by rw [hZ]; exact (Below.refl _ _).alloc (Nat.le_refl _) _
    have HV3 : Hid (CVar w6.heap.size n1 n2 n3 a3 g3 n k3 xs Z) := by rw [hZ]; exact CVar.start w6 n1 n2 n3 a3 g3 n k3 xs _ HLN.out ht3
    have HW6 : Hid (Below w.heap.size w w6) := HW5.out.trans (hb6.mono HW5.out.size)
    clear hZ hb6 ht3 hg3 HV2c HV1c
    go_wp2_with fail
    rw [← HZ.out]
    have HV1e : Hid (CVar b1 n1 n2 n3 a1 g1 n k1 xs Z) := HV1d.out.below HZB.out
    have HV2e : Hid (CVar b2 n1 n2 n3 a2 r n k2 (markTs 1 n) Z) := HV2d.out.below HZB.out
    refine (eqConfig_same Z n1 n2 n3 a3 a1 n k3 k1 xs HLN.out (by have := HLN.out; omega) HV3.out.tx.strs HV1e.out.tx.strs).mono ?_
    rintro e w7 ⟨rfl, hb7⟩
    have HV2f : Hid (CVar b2 n1 n2 n3 a2 r n k2 (markTs 1 n) w7) := HV2e.out.below hb7
    have HW7 : Hid (Below w.heap.size w w7) := (HW6.out.trans (HZB.out.mono HW6.out.size)).trans (hb7.mono (Nat.le_trans HW6.out.size HZB.out.size))
    clear hb7 m0 m1 m2 m3 hlt HV2d HV1d HV2e HV1e HV3
    have m0 := HV2f.out.c0
    have m1 := HV2f.out.c1
    have m2 := HV2f.out.c2
    have m3 := HV2f.out.c3
    go_wp2_with fail
    refine (heldConfig_any w7 n1 n2 n3 a2 r n k2 1 HV2f.out.tx (by omega) (by omega) (by omega)).mono ?_
    rintro e w8 ⟨rfl, hb8⟩
    rw [← HKM.out]
    have HW8 : Hid (Below w.heap.size w w8) := HW7.out.trans (hb8.mono HW7.out.size)
    clear hb8 m0 m1 m2 m3 HV2f
    go_wp2
    go_ret
    exact ⟨rfl, HW8.out⟩

set_option maxRecDepth 100000 in
theorem lifted (os : Os) (started : os.Started) (H : Type) (enc : TypeId × Value → H) :
    ReturnsInHanded {} Tryd.checked os 5 .any (fun w args => (Rows.fnExactConfigOfSpec.pre enc Tryd.prog Tryd.f5 [] false w args ∧ laidMetH Tryd.prog Rows.fnExactConfigOfRow.laid w) ∧ sizedMet enc Tryd.prog Tryd.f5 (OpenSpec.ofChange Rows.fnExactConfigOfSpec) false w args)
      (Rows.fnExactConfigOfSpec.post enc Tryd.prog Tryd.f5 false true false false) := by
  refine returnsInHanded_of_change_and (C := Tryd.checked) (X := fun w _ => laidMetH Tryd.prog Rows.fnExactConfigOfRow.laid w) (fun _ _ _ hh h => h.of_heap hh) own started (by kernel_rfl) Tryd.func5
    (ChangeSpec.witness_shaped (enc := enc) (C := Tryd.checked) (os := os) (X := fun w _ => laidMetH Tryd.prog Rows.fnExactConfigOfRow.laid w) false (World.doorLaid Tryd.prog 400 os) #[.string ByteArray.empty] 8 rfl (World.shaped_of_RefB (by kernel_rfl) (by kernel_rfl)) (by kernel_rfl) (by kernel_rfl) (by kernel_rfl) (door_met os _)) ?_
  intro W base args ds gs before hval0 hW _ _ hL _
  have hval : ∀ (j : Nat) t v, Tryd.f5.params[j]? = some t → args[j]? = some v → Value.okWide Tryd.prog W .any base t v := hval0
  have hW' := hW
  obtain ⟨p, q, hA0, hV0, rfl, hfz, hnd⟩ := hW
  have hA : DataW.TrodAll enc Tryd.prog W 0 (fun _ => true) true Tryd.f5.params.toList args.toList ds p := hA0
  have hV : DataW.TrodVars enc Tryd.prog W (fun _ => true) [nm] gs q := hV0
  rw [Tryd.params5] at hA hval
  obtain ⟨v0, d0, rfl, rfl, h0⟩ := trodAll_one hA
  obtain ⟨a0, rfl, rfl, rfl, w0⟩ := open_string Tryd.underlying9 (hval 0 9 v0 rfl rfl) h0
  obtain ⟨g, t, cs, fuel, d, p', rfl, hg, ht, hvar, hd, rfl⟩ := trodVars_one hV
  obtain rfl := Option.some.inj (gTab.symm.trans hg)
  obtain rfl := Option.some.inj (tTab.symm.trans ht)
  obtain rfl : cs = cs16 := Option.some.inj (hvar.symm.trans (tab_of hL))
  obtain ⟨rfl, rfl⟩ := DataW.Trod.unique (v := .agg cs16) ⟨fuel, hd⟩ ⟨3, reads_table enc W _⟩
  have hdeep : 0 < W.heap.size := by
    have := World.block_lt_of_cell? W _ (tabAt_of hvar 0 (by omega))
    simpa using this
  clear hA0 hV0 hval0
  refine (walk a0 w0 W (tabAt_of hvar) hdeep).mono fun e W' ⟨he, bel⟩ => ?_
  subst he
  exact ⟨_, rfl, _, _, _, [], [], MemPlace.row ⟨0, 0, none⟩ cs16.size ++ [], hW', trodAll_mk1 (shut_bool Tryd.underlying4 _), trodAll_mk1 (shut_string Tryd.underlying9 w0), trodVars_mk1 gTab tTab (var?_below bel gTab hdeep hvar) (reads_table enc W' _), bel.frame _, fun h => by cases h⟩

theorem over : Rows.FnExactConfigOfSaid :=
  OpenClaim.holds_of_wide 5 Tryd.f5 rfl rfl rfl rfl rfl rfl rfl ⟨rfl, rfl, rfl, rfl, rfl⟩ rfl rfl rfl rfl rfl (by kernel_rfl) Tryd.func5 (by kernel_rfl)
    (of_decide_eq_true (by kernel_rfl)) (by unfold Func.isWrapper; first | (rw [if_pos (by decide +kernel)]; kernel_rfl) | (rw [if_neg (by decide +kernel)]; exact ⟨rfl, rfl⟩))
    (fun os started H enc _ => lifted os started H enc)

theorem card : Rows.FnExactConfigOfCardSaid :=
  Claim7.holds_tied_plain_at .later [] [.data] true (true, "b2b06b05c342d3ddee78f45a75af2793beae5bd8ad94fbaf969a71f82222ca8f") false
    over (fun _ h => by cases h) (by kernel_rfl) (fun _ h => by cases h) fnExactConfigOf_row_tie rfl ⟨rfl, rfl⟩ (by kernel_rfl) rfl
    (fun f fn hf hfn => by
      obtain rfl : f = 5 := Option.some.inj ((show Tryd.prog.funcNamed Rows.fnExactConfigOfRow.func = some 5 by kernel_rfl).symm.trans hf) |>.symm
      obtain rfl : fn = Tryd.f5 := (Option.some.inj (Tryd.func5.symm.trans hfn)).symm
      exact ⟨by kernel_rfl, fun j t ht => by
        rw [Tryd.params5] at ht
        have h3 : t = 9 := by
          rcases j with _ | j
          · simpa using ht.symm
          · simp at ht
        subst h3
        exact (show Tryd.prog.wantsStandIn 9 = false by kernel_rfl)⟩)
    (by kernel_rfl)
#print axioms card
end Go.Proofs.YtpkdkkjdlhillaaDoor.fnExactConfigOf
