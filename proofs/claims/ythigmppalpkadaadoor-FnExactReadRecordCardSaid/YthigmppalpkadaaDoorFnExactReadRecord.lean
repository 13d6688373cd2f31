/-
  FnExactReadRecord: for every text the law that holds the program's ReadRecord against the specification's ReadRecord returns true, and the text and the program's table read as before; the table reads as the program's own text lays it (tied).
-/
import Derived.Test.YthigmppalpkadaaDoorCards
import Derived.Test.YthigmppalpkadaaDoorTie
import Derived.Test.YthigmppalpkadaaDoorRecord4
import Derived.ProofKit
import Derived.LaidMore
import Derived.OpenShut
import Derived.Stop.Joined
import Derived.Lib.LaidTab
import Derived.WalkSmall
import Derived.ShutString
import Derived.ChangeVars
import Derived.MakeChecks
import Derived.SevenTiedAt
import Derived.ChangeOld
import Derived.Below
namespace Go.Proofs.YthigmppalpkadaaDoor.fnExactReadRecord
open Go.ChangeShapes Go.WideShapes Go.ChangeAt Go.RowKit
open Go.ChangeMaps (open_string shut_string)
open crc

theorem own : ownKnob Tryd.prog.godebug = none := by kernel_rfl
def nm : String := Rows.fnExactReadRecordSpec.vars.headD ""
theorem gTab : Tryd.prog.globalNamed nm = some 0 := by kernel_rfl
theorem tTab : (Tryd.prog.globals[0]?).map (·.type) = some 91 := by kernel_rfl
def zs : List Int := [0, 498536548, 997073096, 651767980, 1994146192, 1802195444, 1303535960, 1342533948, 3988292384, 4027552580, 3604390888, 3412177804, 2607071920, 2262029012, 2685067896, 3183342108]
def cs16 : Array Value := (zs.map fun z => Value.int .u32 z).toArray

theorem tab_of {W : World} (h : laidMetH Tryd.prog Rows.fnExactReadRecordRow.laid W) : W.var? Tryd.prog nm = some cs16 := by
  rw [MakeChecks.laidMetH_plain _ _ _ (by kernel_rfl)] at h
  have h' : laidMet Tryd.prog ((nm, Lib.tabData .u32 zs) :: []) W := h
  exact Lib.tabIs_of_head gTab tTab Tryd.underlying91 Tryd.underlying90 (by kernel_rfl) (by kernel_rfl) h'
theorem tabAt_of {W : World} (h : W.var? Tryd.prog nm = some cs16) : TabAt W := by
  intro i hi
  rw [World.var?_cell gTab h i]
  have : ∀ i, i < 16 → cs16[i]? = some (Value.int .u32 (tab i)) := by
    intro i hi
    have hc : i = 0 ∨ i = 1 ∨ i = 2 ∨ i = 3 ∨ i = 4 ∨ i = 5 ∨ i = 6 ∨ i = 7 ∨ i = 8 ∨ i = 9 ∨ i = 10 ∨ i = 11 ∨ i = 12 ∨ i = 13 ∨ i = 14 ∨ i = 15 := by omega
    rcases hc with rfl | rfl | rfl | rfl | rfl | rfl | rfl | rfl | rfl | rfl | rfl | rfl | rfl | rfl | rfl | rfl <;> rfl
  exact this i hi
theorem reads_table {H : Type} (enc : TypeId × Value → H) (W : World) (sp : Nat → Bool) : DataW.trod enc Tryd.prog W 0 sp true 3 91 cs16.toList = some (Lib.tabData .u32 zs, []) := by kernel_rfl
theorem door_met (os : Os) (args : Array Value) : laidMetH Tryd.prog Rows.fnExactReadRecordRow.laid ((World.doorLaid Tryd.prog 400 os).forCall (fun _ _ => 0) ⟨#[], args, []⟩).memory :=
  laidMetH_of_parts3 (fuel := 8) (laidMet_of_run' 8 (by kernel_rfl) (by kernel_rfl)) (by kernel_rfl) (by kernel_rfl)


set_option linter.unusedVariables false in
theorem walk (a0 : ByteArray) (w0 : a0.size ≤ maxLen) (w : World) (htab : TabAt w) (hdeep : 0 < w.heap.size) :
    Calls Tryd.prog 9 #[.string a0] w fun e w' => e = .returned (.bool true) ∧ Below w.heap.size w w' := by
  unfold maxLen at w0
  have HT : Hid (TabAt w) := htab
  clear htab
  by_cases hbig : (1048576 : Int) < (a0.size : Int)
  · go_enter Tryd.func9, Tryd.ntmps9
    go_wp2
    go_ret
    exact ⟨rfl, Below.refl _ _⟩
  · obtain ⟨n1, n2, n3, o, b, hS, hI⟩ := readrec_both a0 (by omega)
    have HS : Hid (∀ w, Calls _ _ _ w _) := hS
    have HI : Hid (∀ w, TabAt w → 0 < w.heap.size → Calls _ _ _ w _) := hI
    clear hS hI
    have hbb : (b != b) = false := by simp
    go_enter Tryd.func9, Tryd.ntmps9
    go_wp2_with fail
    refine (HS.out _).mono ?_
    rintro e w1 ⟨rfl, hb1⟩
    obtain ⟨X, hX⟩ : ∃ X, X = w1.alloc (.cells #[.int .i64 n1, .int .i64 n2, .int .i64 n3, .string o] 35) := ⟨_, rfl⟩
    have hXb : Below w.heap.size w X := by rw [hX]; exact hb1.alloc hb1.size _
    have hXs : w1.heap.size < X.heap.size := by rw [hX]; simp
    have HX : Hid (X = w1.alloc (.cells #[.int .i64 n1, .int .i64 n2, .int .i64 n3, .string o] 35)) := hX
    have HXB : Hid (Below w.heap.size w X) := hXb
    have HK : Hid (∀ w', Below X.heap.size X w' → w'.cell? ⟨w1.heap.size, 0, none⟩ = some (.int .i64 n1) ∧ w'.cell? ⟨w1.heap.size, 1, none⟩ = some (.int .i64 n2) ∧ w'.cell? ⟨w1.heap.size, 2, none⟩ = some (.int .i64 n3) ∧ w'.cell? ⟨w1.heap.size, 3, none⟩ = some (.string o)) := fun w' h =>
      ⟨by rw [h.cell (p := ⟨w1.heap.size, 0, none⟩) hXs, hX, World.cell?_alloc_new]; rfl, by rw [h.cell (p := ⟨w1.heap.size, 1, none⟩) hXs, hX, World.cell?_alloc_new]; rfl, by rw [h.cell (p := ⟨w1.heap.size, 2, none⟩) hXs, hX, World.cell?_alloc_new]; rfl, by rw [h.cell (p := ⟨w1.heap.size, 3, none⟩) hXs, hX, World.cell?_alloc_new]; rfl⟩
    have HT1 : Hid (TabAt X) := HT.out.below hXb hdeep
    have hdeep1 : 0 < X.heap.size := Nat.lt_of_lt_of_le hdeep hXb.size
    clear hX hXb hb1
    go_wp2_with fail
    rw [← HX.out]
    refine (HI.out _ HT1.out hdeep1).mono ?_
    rintro e w2 ⟨rfl, hb2⟩
    obtain ⟨m0, m1, m2, m3⟩ := HK.out w2 hb2
    have HB2 : Hid (Below w.heap.size w w2) := HXB.out.trans (hb2.mono HXB.out.size)
    have hlt : w1.heap.size < w2.heap.size := Nat.lt_of_lt_of_le hXs hb2.size
    clear hb2
    go_wp2_with fail
    refine (eqRecord_same _ n1 n2 n3 o).mono ?_
    rintro e w3 ⟨rfl, hb3⟩
    have HB3 : Hid (Below w.heap.size w w3) := by
      refine Below.trans (b := w2.alloc (.cells #[.int .i64 n1, .int .i64 n2, .int .i64 n3, .string o] 35)) (HB2.out.alloc HB2.out.size _) (hb3.mono ?_)
      exact Nat.le_trans HB2.out.size (by simp)
    clear hb3
    go_wp2
    go_ret
    exact ⟨rfl, HB3.out⟩

set_option maxRecDepth 100000 in
theorem lifted (os : Os) (started : os.Started) (H : Type) (enc : TypeId × Value → H) :
    ReturnsInHanded {} Tryd.checked os 9 .any (fun w args => (Rows.fnExactReadRecordSpec.pre enc Tryd.prog Tryd.f9 [] false w args ∧ laidMetH Tryd.prog Rows.fnExactReadRecordRow.laid w) ∧ sizedMet enc Tryd.prog Tryd.f9 (OpenSpec.ofChange Rows.fnExactReadRecordSpec) false w args)
      (Rows.fnExactReadRecordSpec.post enc Tryd.prog Tryd.f9 false true false false) := by
  refine returnsInHanded_of_change_and (C := Tryd.checked) (X := fun w _ => laidMetH Tryd.prog Rows.fnExactReadRecordRow.laid w) (fun _ _ _ hh h => h.of_heap hh) own started (by kernel_rfl) Tryd.func9
    (ChangeSpec.witness_shaped (enc := enc) (C := Tryd.checked) (os := os) (X := fun w _ => laidMetH Tryd.prog Rows.fnExactReadRecordRow.laid w) false (World.doorLaid Tryd.prog 400 os) #[.string ByteArray.empty] 8 rfl (World.shaped_of_RefB (by kernel_rfl) (by kernel_rfl)) (by kernel_rfl) (by kernel_rfl) (by kernel_rfl) (door_met os _)) ?_
  intro W base args ds gs before hval0 hW _ _ hL _
  have hval : ∀ (j : Nat) t v, Tryd.f9.params[j]? = some t → args[j]? = some v → Value.okWide Tryd.prog W .any base t v := hval0
  have hW' := hW
  obtain ⟨p, q, hA0, hV0, rfl, hfz, hnd⟩ := hW
  have hA : DataW.TrodAll enc Tryd.prog W 0 (fun _ => true) true Tryd.f9.params.toList args.toList ds p := hA0
  have hV : DataW.TrodVars enc Tryd.prog W (fun _ => true) [nm] gs q := hV0
  rw [Tryd.params9] at hA hval
  obtain ⟨v0, d0, rfl, rfl, h0⟩ := trodAll_one hA
  obtain ⟨a0, rfl, rfl, rfl, w0⟩ := open_string Tryd.underlying9 (hval 0 9 v0 rfl rfl) h0
  obtain ⟨g, t, cs, fuel, d, p', rfl, hg, ht, hvar, hd, rfl⟩ := trodVars_one hV
  obtain rfl := Option.some.inj (gTab.symm.trans hg)
  obtain rfl := Option.some.inj (tTab.symm.trans ht)
  obtain rfl : cs = cs16 := Option.some.inj (hvar.symm.trans (tab_of hL))
  obtain ⟨rfl, rfl⟩ := DataW.Trod.unique (v := .agg cs16) ⟨fuel, hd⟩ ⟨3, reads_table enc W _⟩
  have hdeep : 0 < W.heap.size := by
    have := World.block_lt_of_cell? W _ (tabAt_of hvar 0 (by omega))
    simpa using this
  clear hA0 hV0 hval0
  refine (walk a0 w0 W (tabAt_of hvar) hdeep).mono fun e W' ⟨he, bel⟩ => ?_
  subst he
  exact ⟨_, rfl, _, _, _, [], [], MemPlace.row ⟨0, 0, none⟩ cs16.size ++ [], hW', trodAll_mk1 (shut_bool Tryd.underlying4 _), trodAll_mk1 (shut_string Tryd.underlying9 w0), trodVars_mk1 gTab tTab (var?_below bel gTab hdeep hvar) (reads_table enc W' _), bel.frame _, fun h => by cases h⟩

theorem over : Rows.FnExactReadRecordSaid :=
  OpenClaim.holds_of_wide 9 Tryd.f9 rfl rfl rfl rfl rfl rfl rfl ⟨rfl, rfl, rfl, rfl, rfl⟩ rfl rfl rfl rfl rfl (by kernel_rfl) Tryd.func9 (by kernel_rfl)
    (of_decide_eq_true (by kernel_rfl)) (by unfold Func.isWrapper; first | (rw [if_pos (by decide +kernel)]; kernel_rfl) | (rw [if_neg (by decide +kernel)]; exact ⟨rfl, rfl⟩))
    (fun os started H enc _ => lifted os started H enc)

theorem card : Rows.FnExactReadRecordCardSaid :=
  Claim7.holds_tied_plain_at .later [] [.data] true (true, "d7643585128180887773e83689b4c1ca6d83783bd392defb41d17d5a3e758b34") false
    over (fun _ h => by cases h) (by kernel_rfl) (fun _ h => by cases h) fnExactReadRecord_row_tie rfl ⟨rfl, rfl⟩ (by kernel_rfl) rfl
    (fun f fn hf hfn => by
      obtain rfl : f = 9 := Option.some.inj ((show Tryd.prog.funcNamed Rows.fnExactReadRecordRow.func = some 9 by kernel_rfl).symm.trans hf) |>.symm
      obtain rfl : fn = Tryd.f9 := (Option.some.inj (Tryd.func9.symm.trans hfn)).symm
      exact ⟨by kernel_rfl, fun j t ht => by
        rw [Tryd.params9] at ht
        have h3 : t = 9 := by
          rcases j with _ | j
          · simpa using ht.symm
          · simp at ht
        subst h3
        exact (show Tryd.prog.wantsStandIn 9 = false by kernel_rfl)⟩)
    (by kernel_rfl)
#print axioms card
end Go.Proofs.YthigmppalpkadaaDoor.fnExactReadRecord
