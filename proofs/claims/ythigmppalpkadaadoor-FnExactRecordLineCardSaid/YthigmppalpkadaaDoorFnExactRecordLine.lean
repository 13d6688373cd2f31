/-
  FnExactRecordLine: for every record the law that holds the program's RecordLine against the specification's RecordLine returns true, and the record and the program's table read as before; the table reads as the program's own text lays it (tied).
-/
import Derived.Test.YthigmppalpkadaaDoorCards
import Derived.Test.YthigmppalpkadaaDoorTie
import Derived.Test.YthigmppalpkadaaDoorRecOpen
import Derived.Test.YthigmppalpkadaaDoorRecOpen
import Derived.ProofKit
import Derived.LaidMore
import Derived.OpenShut
import Derived.Stop.Joined
import Derived.Lib.LaidTab
import Derived.WalkSmall
import Derived.ShutString
import Derived.ChangeVars
import Derived.MakeChecks
import Derived.SevenTiedAt
import Derived.ChangeOld
import Derived.Below
namespace Go.Proofs.YthigmppalpkadaaDoor.fnExactRecordLine
open Go.ChangeShapes Go.WideShapes Go.ChangeAt Go.RowKit
open Go.ChangeMaps (open_string shut_string)
open crc

theorem laidOut : laidOutB Tryd.prog = true := by kernel_rfl
theorem own : ownKnob Tryd.prog.godebug = none := by kernel_rfl
def nm : String := Rows.fnExactRecordLineSpec.vars.headD ""
theorem gTab : Tryd.prog.globalNamed nm = some 0 := by kernel_rfl
theorem tTab : (Tryd.prog.globals[0]?).map (·.type) = some 91 := by kernel_rfl
def zs : List Int := [0, 498536548, 997073096, 651767980, 1994146192, 1802195444, 1303535960, 1342533948, 3988292384, 4027552580, 3604390888, 3412177804, 2607071920, 2262029012, 2685067896, 3183342108]
def cs16 : Array Value := (zs.map fun z => Value.int .u32 z).toArray

theorem tab_of {W : World} (h : laidMetH Tryd.prog Rows.fnExactRecordLineRow.laid W) : W.var? Tryd.prog nm = some cs16 := by
  rw [MakeChecks.laidMetH_plain _ _ _ (by kernel_rfl)] at h
  have h' : laidMet Tryd.prog ((nm, Lib.tabData .u32 zs) :: []) W := h
  exact Lib.tabIs_of_head gTab tTab Tryd.underlying91 Tryd.underlying90 (by kernel_rfl) (by kernel_rfl) h'
theorem tabAt_of {W : World} (h : W.var? Tryd.prog nm = some cs16) : TabAt W := by
  intro i hi
  rw [World.var?_cell gTab h i]
  have : ∀ i, i < 16 → cs16[i]? = some (Value.int .u32 (tab i)) := by
    intro i hi
    have hc : i = 0 ∨ i = 1 ∨ i = 2 ∨ i = 3 ∨ i = 4 ∨ i = 5 ∨ i = 6 ∨ i = 7 ∨ i = 8 ∨ i = 9 ∨ i = 10 ∨ i = 11 ∨ i = 12 ∨ i = 13 ∨ i = 14 ∨ i = 15 := by omega
    rcases hc with rfl | rfl | rfl | rfl | rfl | rfl | rfl | rfl | rfl | rfl | rfl | rfl | rfl | rfl | rfl | rfl <;> rfl
  exact this i hi
theorem reads_table {H : Type} (enc : TypeId × Value → H) (W : World) (sp : Nat → Bool) : DataW.trod enc Tryd.prog W 0 sp true 3 91 cs16.toList = some (Lib.tabData .u32 zs, []) := by kernel_rfl
theorem door_met (os : Os) (args : Array Value) : laidMetH Tryd.prog Rows.fnExactRecordLineRow.laid ((World.doorLaid Tryd.prog 400 os).forCall (fun _ _ => 0) ⟨#[], args, []⟩).memory :=
  laidMetH_of_parts3 (fuel := 8) (laidMet_of_run' 8 (by kernel_rfl) (by kernel_rfl)) (by kernel_rfl) (by kernel_rfl)


set_option linter.unusedVariables false in
set_option maxHeartbeats 4000000 in
theorem walk (n1 n2 n3 : Int) (a0 : ByteArray) (w : World) (w0 : a0.size ≤ maxLen) (htab : TabAt w) (hdeep : 0 < w.heap.size) :
    Calls Tryd.prog 8 #[.agg #[.int .i64 n1, .int .i64 n2, .int .i64 n3, .string a0]] w fun e w' => e = .returned (.bool true) ∧ Below w.heap.size w w' := by
  obtain ⟨W, hW⟩ : ∃ W, W = w.alloc (.cells #[.int .i64 n1, .int .i64 n2, .int .i64 n3, .string a0] 49) := ⟨_, rfl⟩
  have HB0 : Hid (Below w.heap.size w W) := by
    have h1 : Below w.heap.size w W := by rw [hW]; exact (Below.refl _ _).alloc (Nat.le_refl _) _
    exact h1
  have hsz : w.heap.size < W.heap.size := by rw [hW]; simp
  have HK : Hid (∀ w', Below W.heap.size W w' → w'.cell? ⟨w.heap.size, 0, none⟩ = some (.int .i64 n1) ∧ w'.cell? ⟨w.heap.size, 1, none⟩ = some (.int .i64 n2) ∧ w'.cell? ⟨w.heap.size, 2, none⟩ = some (.int .i64 n3) ∧ w'.cell? ⟨w.heap.size, 3, none⟩ = some (.string a0)) := fun w' h =>
    ⟨by rw [h.cell (p := ⟨w.heap.size, 0, none⟩) hsz, hW, World.cell?_alloc_new]; rfl, by rw [h.cell (p := ⟨w.heap.size, 1, none⟩) hsz, hW, World.cell?_alloc_new]; rfl, by rw [h.cell (p := ⟨w.heap.size, 2, none⟩) hsz, hW, World.cell?_alloc_new]; rfl, by rw [h.cell (p := ⟨w.heap.size, 3, none⟩) hsz, hW, World.cell?_alloc_new]; rfl⟩
  have HW : Hid (W = w.alloc (.cells #[.int .i64 n1, .int .i64 n2, .int .i64 n3, .string a0] 49)) := hW
  have HEnd : Hid (∀ w', Below W.heap.size W w' → Below w.heap.size w w') := fun w' h => HB0.out.trans (h.mono HB0.out.size)
  have HT : Hid (∀ w', Below W.heap.size W w' → TabAt w' ∧ 0 < w'.heap.size) := fun w' h => ⟨(htab.below HB0.out hdeep).below h (Nat.lt_of_lt_of_le hdeep HB0.out.size), Nat.lt_of_lt_of_le hdeep (Nat.le_trans HB0.out.size h.size)⟩
  have HSZ : Hid (∀ w, Calls _ _ _ w _) := fun w => szRecord_any w n1 n2 n3 a0 w0
  clear hW htab w0
  go_enter Tryd.func8, Tryd.ntmps8
  go_wp2_with fail
  rw [← HW.out]
  refine (HSZ.out W).mono ?_
  rintro e w1 ⟨r, rfl, hr0, hr1, hb1⟩
  have HB1 : Hid (Below W.heap.size W w1) := hb1
  have HR1 : Hid (0 ≤ r → a0.size ≤ 1048576) := hr1
  clear hb1 hr1
  by_cases hneg : r < 0
  · go_wp2
    go_ret
    exact ⟨rfl, HEnd.out _ HB1.out⟩
  have ha := HR1.out (by omega)
  have HS : Hid (∀ w, Calls _ _ _ w _) := fun w => spec_record w n1 n2 n3 a0 ha
  have HI : Hid (∀ w, TabAt w → 0 < w.heap.size → Calls _ _ _ w _) := fun w h1 h2 => impl_record w n1 n2 n3 a0 ha h1 h2
  generalize recStr n1 n2 n3 a0 = s at HS HI
  have hss : (s.toList == s.toList) = true := by simp
  clear HR1
  obtain ⟨m0, m1, m2, m3⟩ := HK.out w1 HB1.out
  go_wp2_with fail
  refine (toRecord_any w1 n1 n2 n3 a0).mono ?_
  rintro e w2 ⟨rfl, hb2⟩
  have HB2 : Hid (Below W.heap.size W w2) := HB1.out.trans (hb2.mono HB1.out.size)
  clear hb2 m0 m1 m2 m3
  go_wp2_with fail
  refine (HS.out w2).mono ?_
  rintro e w3 ⟨rfl, hb3⟩
  have HB3 : Hid (Below W.heap.size W w3) := HB2.out.trans (hb3.mono HB2.out.size)
  clear hb3
  obtain ⟨m0, m1, m2, m3⟩ := HK.out w3 HB3.out
  go_wp2_with fail
  refine (toRecord_any w3 n1 n2 n3 a0).mono ?_
  rintro e w4 ⟨rfl, hb4⟩
  have HB4 : Hid (Below W.heap.size W w4) := HB3.out.trans (hb4.mono HB3.out.size)
  clear hb4 m0 m1 m2 m3
  go_wp2_with fail
  refine (HI.out w4 (HT.out _ HB4.out).1 (HT.out _ HB4.out).2).mono ?_
  rintro e w5 ⟨rfl, hb5⟩
  have HB5 : Hid (Below W.heap.size W w5) := HB4.out.trans (hb5.mono HB4.out.size)
  clear hb5
  go_wp2
  go_ret
  exact ⟨rfl, HEnd.out _ HB5.out⟩

set_option maxRecDepth 100000 in
theorem lifted (os : Os) (started : os.Started) (H : Type) (enc : TypeId × Value → H) :
    ReturnsInHanded {} Tryd.checked os 8 .any (fun w args => (Rows.fnExactRecordLineSpec.pre enc Tryd.prog Tryd.f8 [] false w args ∧ laidMetH Tryd.prog Rows.fnExactRecordLineRow.laid w) ∧ sizedMet enc Tryd.prog Tryd.f8 (OpenSpec.ofChange Rows.fnExactRecordLineSpec) false w args)
      (Rows.fnExactRecordLineSpec.post enc Tryd.prog Tryd.f8 false true false false) := by
  refine returnsInHanded_of_change_and (C := Tryd.checked) (X := fun w _ => laidMetH Tryd.prog Rows.fnExactRecordLineRow.laid w) (fun _ _ _ hh h => h.of_heap hh) own started (by kernel_rfl) Tryd.func8
    (ChangeSpec.witness_shaped (enc := enc) (C := Tryd.checked) (os := os) (X := fun w _ => laidMetH Tryd.prog Rows.fnExactRecordLineRow.laid w) false (World.doorLaid Tryd.prog 400 os) #[.agg #[.int .i64 0, .int .i64 0, .int .i64 0, .string ByteArray.empty]] 8 rfl (World.shaped_of_RefB (by kernel_rfl) (by kernel_rfl)) (by kernel_rfl) (by kernel_rfl) (by kernel_rfl) (door_met os _)) ?_
  intro W base args ds gs before hval0 hW _ _ hL _
  have hval : ∀ (j : Nat) t v, Tryd.f8.params[j]? = some t → args[j]? = some v → Value.okWide Tryd.prog W .any base t v := hval0
  have hW' := hW
  obtain ⟨p, q, hA0, hV0, rfl, hfz, hnd⟩ := hW
  have hA : DataW.TrodAll enc Tryd.prog W 0 (fun _ => true) true Tryd.f8.params.toList args.toList ds p := hA0
  have hV : DataW.TrodVars enc Tryd.prog W (fun _ => true) [nm] gs q := hV0
  rw [Tryd.params8] at hA hval
  obtain ⟨v0, d0, rfl, rfl, h0⟩ := trodAll_one hA
  have k0 := h0
  have lt0 : ∀ x ∈ p, x.block < W.heap.size := by obtain ⟨m, hm⟩ := k0; exact DataW.trod_lt m _ _ _ hm
  obtain ⟨n1, n2, n3, a0, rfl, w0⟩ := record_of (hval 0 49 v0 rfl rfl) h0
  obtain ⟨g, t, cs, fuel, d, p', rfl, hg, ht, hvar, hd, rfl⟩ := trodVars_one hV
  obtain rfl := Option.some.inj (gTab.symm.trans hg)
  obtain rfl := Option.some.inj (tTab.symm.trans ht)
  obtain rfl : cs = cs16 := Option.some.inj (hvar.symm.trans (tab_of hL))
  obtain ⟨rfl, rfl⟩ := DataW.Trod.unique (v := .agg cs16) ⟨fuel, hd⟩ ⟨3, reads_table enc W _⟩
  have hdeep : 0 < W.heap.size := by
    have := World.block_lt_of_cell? W _ (tabAt_of hvar 0 (by omega))
    simpa using this
  clear hA0 hV0 hval0
  refine (walk n1 n2 n3 a0 W w0 (tabAt_of hvar) hdeep).mono fun e W' ⟨he, bel⟩ => ?_
  subst he
  exact ⟨_, rfl, _, _, _, [], _, MemPlace.row ⟨0, 0, none⟩ cs16.size ++ [], hW', trodAll_mk1 (shut_bool Tryd.underlying4 _), trodAll_mk1 (Below.trod laidOut (by kernel_rfl) (of_decide_eq_true (by kernel_rfl)) k0 bel lt0), trodVars_mk1 gTab tTab (var?_below bel gTab hdeep hvar) (reads_table enc W' _), bel.frame _, fun h => by cases h⟩

theorem over : Rows.FnExactRecordLineSaid :=
  OpenClaim.holds_of_wide 8 Tryd.f8 rfl rfl rfl rfl rfl rfl rfl ⟨rfl, rfl, rfl, rfl, rfl⟩ rfl rfl rfl rfl rfl (by kernel_rfl) Tryd.func8 (by kernel_rfl)
    (of_decide_eq_true (by kernel_rfl)) (by unfold Func.isWrapper; first | (rw [if_pos (by decide +kernel)]; kernel_rfl) | (rw [if_neg (by decide +kernel)]; exact ⟨rfl, rfl⟩))
    (fun os started H enc _ => lifted os started H enc)

theorem card : Rows.FnExactRecordLineCardSaid :=
  Claim7.holds_tied_plain_at .later [] [.data] true (true, "d7643585128180887773e83689b4c1ca6d83783bd392defb41d17d5a3e758b34") false
    over (fun _ h => by cases h) (by kernel_rfl) (fun _ h => by cases h) fnExactRecordLine_row_tie rfl ⟨rfl, rfl⟩ (by kernel_rfl) rfl
    (fun f fn hf hfn => by
      obtain rfl : f = 8 := Option.some.inj ((show Tryd.prog.funcNamed Rows.fnExactRecordLineRow.func = some 8 by kernel_rfl).symm.trans hf) |>.symm
      obtain rfl : fn = Tryd.f8 := (Option.some.inj (Tryd.func8.symm.trans hfn)).symm
      exact ⟨by kernel_rfl, fun j t ht => by
        rw [Tryd.params8] at ht
        have h3 : t = 49 := by
          rcases j with _ | j
          · simpa using ht.symm
          · simp at ht
        subst h3
        exact (show Tryd.prog.wantsStandIn 49 = false by kernel_rfl)⟩)
    (by kernel_rfl)
#print axioms card
end Go.Proofs.YthigmppalpkadaaDoor.fnExactRecordLine
