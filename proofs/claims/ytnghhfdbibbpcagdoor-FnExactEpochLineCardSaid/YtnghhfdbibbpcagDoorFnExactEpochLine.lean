/-
  FnExactEpochLine: for every number the law that holds the program's EpochLine against the specification's EpochLine returns true, and the number and the program's table read as before; the table reads as the program's own text lays it (tied).
-/
import Derived.Test.YtnghhfdbibbpcagDoorCards
import Derived.Test.YtnghhfdbibbpcagDoorTie
import Derived.Test.YtnghhfdbibbpcagDoorEpoch
import Derived.ProofKit
import Derived.LaidMore
import Derived.OpenShut
import Derived.Stop.Joined
import Derived.Lib.LaidTab
import Derived.WalkSmall
import Derived.ShutString
import Derived.ChangeVars
import Derived.MakeChecks
import Derived.SevenTiedAt
import Derived.ChangeOld
import Derived.Below
namespace Go.Proofs.YtnghhfdbibbpcagDoor.fnExactEpochLine
open Go.ChangeShapes Go.WideShapes Go.ChangeAt Go.RowKit
open crc

theorem own : ownKnob Tryd.prog.godebug = none := by kernel_rfl
def nm : String := Rows.fnExactEpochLineSpec.vars.headD ""
theorem gTab : Tryd.prog.globalNamed nm = some 0 := by kernel_rfl
theorem tTab : (Tryd.prog.globals[0]?).map (·.type) = some 61 := by kernel_rfl
def zs : List Int := [0, 498536548, 997073096, 651767980, 1994146192, 1802195444, 1303535960, 1342533948, 3988292384, 4027552580, 3604390888, 3412177804, 2607071920, 2262029012, 2685067896, 3183342108]
def cs16 : Array Value := (zs.map fun z => Value.int .u32 z).toArray

theorem tab_of {W : World} (h : laidMetH Tryd.prog Rows.fnExactEpochLineRow.laid W) : W.var? Tryd.prog nm = some cs16 := by
  rw [MakeChecks.laidMetH_plain _ _ _ (by kernel_rfl)] at h
  have h' : laidMet Tryd.prog ((nm, Lib.tabData .u32 zs) :: []) W := h
  exact Lib.tabIs_of_head gTab tTab Tryd.underlying61 Tryd.underlying60 (by kernel_rfl) (by kernel_rfl) h'
theorem tabAt_of {W : World} (h : W.var? Tryd.prog nm = some cs16) : TabAt W := by
  intro i hi
  rw [World.var?_cell gTab h i]
  have : ∀ i, i < 16 → cs16[i]? = some (Value.int .u32 (tab i)) := by
    intro i hi
    have hc : i = 0 ∨ i = 1 ∨ i = 2 ∨ i = 3 ∨ i = 4 ∨ i = 5 ∨ i = 6 ∨ i = 7 ∨ i = 8 ∨ i = 9 ∨ i = 10 ∨ i = 11 ∨ i = 12 ∨ i = 13 ∨ i = 14 ∨ i = 15 := by omega
    rcases hc with rfl | rfl | rfl | rfl | rfl | rfl | rfl | rfl | rfl | rfl | rfl | rfl | rfl | rfl | rfl | rfl <;> rfl
  exact this i hi
theorem reads_table {H : Type} (enc : TypeId × Value → H) (W : World) (sp : Nat → Bool) : DataW.trod enc Tryd.prog W 0 sp true 3 61 cs16.toList = some (Lib.tabData .u32 zs, []) := by kernel_rfl
theorem door_met (os : Os) (args : Array Value) : laidMetH Tryd.prog Rows.fnExactEpochLineRow.laid ((World.doorLaid Tryd.prog 400 os).forCall (fun _ _ => 0) ⟨#[], args, []⟩).memory :=
  laidMetH_of_parts3 (fuel := 8) (laidMet_of_run' 8 (by kernel_rfl) (by kernel_rfl)) (by kernel_rfl) (by kernel_rfl)


set_option linter.unusedVariables false in
theorem walk (a0 : Int) (w0 : (Lit.int .i64 a0).wf = true) (w : World) (htab : TabAt w) (hdeep : 0 < w.heap.size) :
    Calls Tryd.prog 5 #[.int .i64 a0] w fun e w' => e = .returned (.bool true) ∧ Below w.heap.size w w' := by
  have HT : Hid (TabAt w) := htab
  clear htab w0
  have HS : Hid (∀ w, Calls _ _ _ w _) := fun w => spec_epoch a0 w
  have HI : Hid (∀ w, TabAt w → 0 < w.heap.size → Calls _ _ _ w _) := fun w h1 h2 => impl_epoch a0 w h1 h2
  generalize epochStr a0 = s at HS HI
  have hss : (s.toList == s.toList) = true := by simp
  go_enter Tryd.func5, Tryd.ntmps5
  go_wp2_with fail
  refine (HS.out _).mono ?_
  rintro e w1 ⟨rfl, hb1⟩
  have HT1 : Hid (TabAt w1) := HT.out.below hb1 hdeep
  have hdeep1 : 0 < w1.heap.size := Nat.lt_of_lt_of_le hdeep hb1.size
  go_wp2_with fail
  refine (HI.out _ HT1.out hdeep1).mono ?_
  rintro e w2 ⟨rfl, hb2⟩
  go_wp2
  go_ret
  exact ⟨rfl, hb1.trans (hb2.mono hb1.size)⟩

set_option maxRecDepth 100000 in
theorem lifted (os : Os) (started : os.Started) (H : Type) (enc : TypeId × Value → H) :
    ReturnsInHanded {} Tryd.checked os 5 .any (fun w args => (Rows.fnExactEpochLineSpec.pre enc Tryd.prog Tryd.f5 [] false w args ∧ laidMetH Tryd.prog Rows.fnExactEpochLineRow.laid w) ∧ sizedMet enc Tryd.prog Tryd.f5 (OpenSpec.ofChange Rows.fnExactEpochLineSpec) false w args)
      (Rows.fnExactEpochLineSpec.post enc Tryd.prog Tryd.f5 false true false false) := by
  refine returnsInHanded_of_change_and (C := Tryd.checked) (X := fun w _ => laidMetH Tryd.prog Rows.fnExactEpochLineRow.laid w) (fun _ _ _ hh h => h.of_heap hh) own started (by kernel_rfl) Tryd.func5
    (ChangeSpec.witness_shaped (enc := enc) (C := Tryd.checked) (os := os) (X := fun w _ => laidMetH Tryd.prog Rows.fnExactEpochLineRow.laid w) false (World.doorLaid Tryd.prog 400 os) #[.int .i64 0] 8 rfl (World.shaped_of_RefB (by kernel_rfl) (by kernel_rfl)) (by kernel_rfl) (by kernel_rfl) (by kernel_rfl) (door_met os _)) ?_
  intro W base args ds gs before hval0 hW _ _ hL _
  have hval : ∀ (j : Nat) t v, Tryd.f5.params[j]? = some t → args[j]? = some v → Value.okWide Tryd.prog W .any base t v := hval0
  have hW' := hW
  obtain ⟨p, q, hA0, hV0, rfl, hfz, hnd⟩ := hW
  have hA : DataW.TrodAll enc Tryd.prog W 0 (fun _ => true) true Tryd.f5.params.toList args.toList ds p := hA0
  have hV : DataW.TrodVars enc Tryd.prog W (fun _ => true) [nm] gs q := hV0
  rw [Tryd.params5] at hA hval
  obtain ⟨v0, d0, rfl, rfl, h0⟩ := trodAll_one hA
  obtain ⟨a0, rfl, rfl, rfl, w0⟩ := open_int Tryd.underlying2 (hval 0 2 v0 rfl rfl) h0
  obtain ⟨g, t, cs, fuel, d, p', rfl, hg, ht, hvar, hd, rfl⟩ := trodVars_one hV
  obtain rfl := Option.some.inj (gTab.symm.trans hg)
  obtain rfl := Option.some.inj (tTab.symm.trans ht)
  obtain rfl : cs = cs16 := Option.some.inj (hvar.symm.trans (tab_of hL))
  obtain ⟨rfl, rfl⟩ := DataW.Trod.unique (v := .agg cs16) ⟨fuel, hd⟩ ⟨3, reads_table enc W _⟩
  have hdeep : 0 < W.heap.size := by
    have := World.block_lt_of_cell? W _ (tabAt_of hvar 0 (by omega))
    simpa using this
  clear hA0 hV0 hval0
  refine (walk a0 w0 W (tabAt_of hvar) hdeep).mono fun e W' ⟨he, bel⟩ => ?_
  subst he
  exact ⟨_, rfl, _, _, _, [], [], MemPlace.row ⟨0, 0, none⟩ cs16.size ++ [], hW', trodAll_mk1 (shut_bool Tryd.underlying4 _), trodAll_mk1 (shut_int Tryd.underlying2 w0), trodVars_mk1 gTab tTab (var?_below bel gTab hdeep hvar) (reads_table enc W' _), bel.frame _, fun h => by cases h⟩

theorem over : Rows.FnExactEpochLineSaid :=
  OpenClaim.holds_of_wide 5 Tryd.f5 rfl rfl rfl rfl rfl rfl rfl ⟨rfl, rfl, rfl, rfl, rfl⟩ rfl rfl rfl rfl rfl (by kernel_rfl) Tryd.func5 (by kernel_rfl)
    (of_decide_eq_true (by kernel_rfl)) (by unfold Func.isWrapper; first | (rw [if_pos (by decide +kernel)]; kernel_rfl) | (rw [if_neg (by decide +kernel)]; exact ⟨rfl, rfl⟩))
    (fun os started H enc _ => lifted os started H enc)

theorem card : Rows.FnExactEpochLineCardSaid :=
  Claim7.holds_tied_plain_at .later [] [.data] true (true, "ba6976a24827ae93667c15f7733644f187693be82b8926e4fa8a3d2930d76212") false
    over (fun _ h => by cases h) (by kernel_rfl) (fun _ h => by cases h) fnExactEpochLine_row_tie rfl ⟨rfl, rfl⟩ (by kernel_rfl) rfl
    (fun f fn hf hfn => by
      obtain rfl : f = 5 := Option.some.inj ((show Tryd.prog.funcNamed Rows.fnExactEpochLineRow.func = some 5 by kernel_rfl).symm.trans hf) |>.symm
      obtain rfl : fn = Tryd.f5 := (Option.some.inj (Tryd.func5.symm.trans hfn)).symm
      exact ⟨by kernel_rfl, fun j t ht => by
        rw [Tryd.params5] at ht
        have h3 : t = 2 := by
          rcases j with _ | j
          · simpa using ht.symm
          · simp at ht
        subst h3
        exact (show Tryd.prog.wantsStandIn 2 = false by kernel_rfl)⟩)
    (by kernel_rfl)
#print axioms card
end Go.Proofs.YtnghhfdbibbpcagDoor.fnExactEpochLine
