/-
  FnEpochs: at every two codes the law that an epoch comes back from its line, and no two have one line, returns true for what is drawn of them, and the codes and the program's table read as before; the table reads as the program's own text lays it (tied).
-/
import Derived.Test.YtnghhfdbibbpcabDoorCards
import Derived.Test.YtnghhfdbibbpcabDoorTie
import Derived.Test.YtnghhfdbibbpcabDoorDrawE
import Derived.ProofKit
import Derived.LaidMore
import Derived.OpenShut
import Derived.Stop.Joined
import Derived.Lib.LaidTab
import Derived.WalkSmall
import Derived.ShutString
import Derived.ChangeVars
import Derived.MakeChecks
import Derived.SevenTiedAt
import Derived.ChangeOld
import Derived.Below
namespace Go.Proofs.YtnghhfdbibbpcabDoor.fnEpochs
open Go.ChangeShapes Go.WideShapes Go.ChangeAt Go.RowKit
open Go.ChangeMaps (open_string shut_string)
open crc rd

theorem laidOut : laidOutB Tryd.prog = true := by kernel_rfl
theorem own : ownKnob Tryd.prog.godebug = none := by kernel_rfl
def nm : String := Rows.fnEpochsSpec.vars.headD ""
theorem gTab : Tryd.prog.globalNamed nm = some 0 := by kernel_rfl
theorem tTab : (Tryd.prog.globals[0]?).map (·.type) = some 81 := by kernel_rfl
def zs : List Int := [0, 498536548, 997073096, 651767980, 1994146192, 1802195444, 1303535960, 1342533948, 3988292384, 4027552580, 3604390888, 3412177804, 2607071920, 2262029012, 2685067896, 3183342108]
def cs16 : Array Value := (zs.map fun z => Value.int .u32 z).toArray

theorem tab_of {W : World} (h : laidMetH Tryd.prog Rows.fnEpochsRow.laid W) : W.var? Tryd.prog nm = some cs16 := by
  rw [MakeChecks.laidMetH_plain _ _ _ (by kernel_rfl)] at h
  have h' : laidMet Tryd.prog ((nm, Lib.tabData .u32 zs) :: []) W := h
  exact Lib.tabIs_of_head gTab tTab Tryd.underlying81 Tryd.underlying80 (by kernel_rfl) (by kernel_rfl) h'
theorem tabAt_of {W : World} (h : W.var? Tryd.prog nm = some cs16) : TabAt W := by
  intro i hi
  rw [World.var?_cell gTab h i]
  have : ∀ i, i < 16 → cs16[i]? = some (Value.int .u32 (tab i)) := by
    intro i hi
    have hc : i = 0 ∨ i = 1 ∨ i = 2 ∨ i = 3 ∨ i = 4 ∨ i = 5 ∨ i = 6 ∨ i = 7 ∨ i = 8 ∨ i = 9 ∨ i = 10 ∨ i = 11 ∨ i = 12 ∨ i = 13 ∨ i = 14 ∨ i = 15 := by omega
    rcases hc with rfl | rfl | rfl | rfl | rfl | rfl | rfl | rfl | rfl | rfl | rfl | rfl | rfl | rfl | rfl | rfl <;> rfl
  exact this i hi
theorem reads_table {H : Type} (enc : TypeId × Value → H) (W : World) (sp : Nat → Bool) : DataW.trod enc Tryd.prog W 0 sp true 3 81 cs16.toList = some (Lib.tabData .u32 zs, []) := by kernel_rfl
theorem door_met (os : Os) (args : Array Value) : laidMetH Tryd.prog Rows.fnEpochsRow.laid ((World.doorLaid Tryd.prog 400 os).forCall (fun _ _ => 0) ⟨#[], args, []⟩).memory :=
  laidMetH_of_parts3 (fuel := 8) (laidMet_of_run' 8 (by kernel_rfl) (by kernel_rfl)) (by kernel_rfl) (by kernel_rfl)


def IsRow (k : IntKind) (w : World) (a : Option Addr) (len cap : Nat) (zs : List Int) : Prop :=
  (a = none ∧ len = 0 ∧ cap = 0 ∧ zs = []) ∨
  ∃ x, a = some x ∧ len ≤ cap ∧ cap ≤ maxLen ∧ zs.length = cap ∧ (∀ i, i < zs.length → w.cell? (x.add i) = some (.int k (zs.getD i 0))) ∧ ∀ n ∈ zs, (Lit.int k n).wf = true

set_option linter.unusedVariables false in
theorem walk (a0 : Option Addr) (len0 cap0 : Nat) (z0 : List Int) (a1 : Option Addr) (len1 cap1 : Nat) (z1 : List Int) (w : World) (w0 : IsRow .u8 w a0 len0 cap0 z0) (w1 : IsRow .u8 w a1 len1 cap1 z1) (htab : TabAt w) (hdeep : 0 < w.heap.size) :
    Calls Tryd.prog 4 #[.slice a0 len0 cap0, .slice a1 len1 cap1] w fun e w' => e = .returned (.bool true) ∧ Below w.heap.size w w' := by
  have c0 := code_of w0
  have c1 := code_of w1
  clear w0 w1
  have HT : Hid (TabAt w) := htab
  clear htab
  by_cases hb0 : 1048576 < len0
  · go_enter Tryd.func4, Tryd.ntmps4
    go_wp2_with fail
    refine (big_yes _ a0 len0 cap0 hb0).mono ?_
    rintro e w' ⟨rfl, rfl⟩
    go_wp2
    go_ret
    exact ⟨rfl, Below.refl _ _⟩
  by_cases hb1 : 1048576 < len1
  · go_enter Tryd.func4, Tryd.ntmps4
    go_wp2_with fail
    refine (big_no _ a0 len0 cap0 (by omega)).mono ?_
    rintro e w' ⟨rfl, rfl⟩
    go_wp2_with fail
    refine (big_yes _ a1 len1 cap1 hb1).mono ?_
    rintro e w' ⟨rfl, rfl⟩
    go_wp2
    go_ret
    exact ⟨rfl, Below.refl _ _⟩
  have HC0 : Hid (RdCode w w.heap.size a0 len0) := c0
  have HC1 : Hid (RdCode w w.heap.size a1 len1) := c1
  clear c0 c1
  go_enter Tryd.func4, Tryd.ntmps4
  go_wp2_with fail
  refine (big_no _ a0 len0 cap0 (by omega)).mono ?_
  rintro e w' ⟨rfl, rfl⟩
  go_wp2_with fail
  refine (big_no _ a1 len1 cap1 (by omega)).mono ?_
  rintro e w' ⟨rfl, rfl⟩
  go_wp2_with fail
  refine (draw_epoch _ a0 len0 cap0 (by omega) HC0.out).mono ?_
  rintro e w2 ⟨n, rfl, hb⟩
  have HB : Hid (Below w.heap.size w w2) := hb
  clear hb
  go_wp2_with fail
  refine (draw_epoch _ a1 len1 cap1 (by omega) (HC1.out.below HB.out HB.out.size)).mono ?_
  rintro e w3 ⟨f, rfl, hb⟩
  replace HB : Hid (Below w.heap.size w w3) := HB.out.trans (hb.mono HB.out.size)
  clear hb
  go_wp2_with fail
  refine (draw_read_epoch _ a0 len0 cap0 (by omega) (HC0.out.below HB.out HB.out.size)).mono ?_
  rintro e w4 ⟨t, rfl, hts, hb⟩
  replace HB : Hid (Below w.heap.size w w4) := HB.out.trans (hb.mono HB.out.size)
  clear hb
  have HTT : Hid (∀ w', Below w.heap.size w w' → TabAt w' ∧ 0 < w'.heap.size) := fun w' h => ⟨HT.out.below h hdeep, Nat.lt_of_lt_of_le hdeep h.size⟩
  have HI : Hid (∀ w, TabAt w → 0 < w.heap.size → Calls _ _ _ w _) := fun w h1 h2 => impl_read_any t w h1 h2
  have HS : Hid (∀ w, Calls _ _ _ w _) := fun w => spec_read_any t w (by omega)
  have hrb := @read_back t
  have HEX : Hid (∀ w, TabAt w → 0 < w.heap.size → Calls _ _ _ w _) := fun w h1 h2 => impl_epoch (readN t) w h1 h2
  have HRB : Hid (readB t = true → epochStr (readN t) = t) := hrb
  clear hrb
  generalize readN t = x at HI HS HEX HRB
  generalize readB t = is at HI HS HRB
  have s1 : (is != is) = false := by simp
  have s2 : (x != x) = false := by simp
  have HEE : Hid (∀ w, TabAt w → 0 < w.heap.size → Calls _ _ _ w _) := fun w h1 h2 => impl_epoch n w h1 h2
  have HES : Hid (∀ w, Calls _ _ _ w _) := fun w => spec_epoch n w
  have HEF : Hid (∀ w, TabAt w → 0 < w.heap.size → Calls _ _ _ w _) := fun w h1 h2 => impl_epoch f w h1 h2
  have HIS : Hid (∀ w, TabAt w → 0 < w.heap.size → Calls _ _ _ w _) := fun w h1 h2 => impl_read_any (epochStr n) w h1 h2
  have HIN : Hid ((0 ≤ n ∧ n ≤ 1000000000) → readB (epochStr n) = true ∧ readN (epochStr n) = n) := back_in
  have HOUT : Hid (¬ (0 ≤ n ∧ n ≤ 1000000000) → readB (epochStr n) = false) := back_out
  have HINJ : Hid ((0 ≤ n ∧ n ≤ 1000000000) → n ≠ f → ((epochStr f).toList == (epochStr n).toList) = false) := epoch_inj
  generalize epochStr n = s at HEE HES HIS HIN HOUT HINJ
  generalize epochStr f = sf at HEF HINJ
  have s3 : (s.toList == s.toList) = true := by simp
  go_wp2_with fail
  refine (HI.out _ (HTT.out _ HB.out).1 (HTT.out _ HB.out).2).mono ?_
  rintro e w5 ⟨rfl, hb⟩
  replace HB : Hid (Below w.heap.size w w5) := HB.out.trans (hb.mono HB.out.size)
  clear hb
  go_wp2_with fail
  refine (HS.out _).mono ?_
  rintro e w6 ⟨rfl, hb⟩
  replace HB : Hid (Below w.heap.size w w6) := HB.out.trans (hb.mono HB.out.size)
  clear hb
  go_wp2_with fail
  refine (HEE.out _ (HTT.out _ HB.out).1 (HTT.out _ HB.out).2).mono ?_
  rintro e w7 ⟨rfl, hb⟩
  replace HB : Hid (Below w.heap.size w w7) := HB.out.trans (hb.mono HB.out.size)
  clear hb
  cases is with
  | true =>
    have hxt := HRB.out rfl
    rw [hxt] at HEX
    have s4 : (t.toList == t.toList) = true := by simp
    clear HRB hxt
    go_wp2_with fail
    refine (HEX.out _ (HTT.out _ HB.out).1 (HTT.out _ HB.out).2).mono ?_
    rintro e w8 ⟨rfl, hb⟩
    replace HB : Hid (Below w.heap.size w w8) := HB.out.trans (hb.mono HB.out.size)
    clear hb
    go_wp2_with fail
    refine (HES.out _).mono ?_
    rintro e w9 ⟨rfl, hb⟩
    replace HB : Hid (Below w.heap.size w w9) := HB.out.trans (hb.mono HB.out.size)
    clear hb
    by_cases hin : 0 ≤ n ∧ n ≤ 1000000000
    · obtain ⟨k1, k2⟩ := HIN.out hin
      rw [k1, k2] at HIS
      have d1 : decide (0 ≤ n) = true := by simpa using hin.1
      have d2 : decide (n ≤ 1000000000) = true := by simpa using hin.2
      have hij := HINJ.out hin
      have d3 : (n == n) = true := by simp
      clear k1 k2 HIN HOUT HINJ hin
      go_wp2_with fail
      refine (HIS.out _ (HTT.out _ HB.out).1 (HTT.out _ HB.out).2).mono ?_
      rintro e w10 ⟨rfl, hb⟩
      replace HB : Hid (Below w.heap.size w w10) := HB.out.trans (hb.mono HB.out.size)
      clear hb
      by_cases hef : n = f
      · have d4 : (n == f) = true := by simpa using hef
        clear hij hef
        go_wp2
        go_ret
        exact ⟨rfl, HB.out⟩
      · have d4 : (n == f) = false := by simpa using hef
        have d5 := hij hef
        clear hij hef
        go_wp2_with fail
        refine (HEF.out _ (HTT.out _ HB.out).1 (HTT.out _ HB.out).2).mono ?_
        rintro e w11 ⟨rfl, hb⟩
        replace HB : Hid (Below w.heap.size w w11) := HB.out.trans (hb.mono HB.out.size)
        clear hb
        go_wp2
        go_ret
        exact ⟨rfl, HB.out⟩
    · rw [HOUT.out hin] at HIS
      have d1 : (decide (0 ≤ n) && decide (n ≤ 1000000000)) = false := by simp; omega
      clear HIN HOUT HINJ
      go_wp2_with fail
      refine (HIS.out _ (HTT.out _ HB.out).1 (HTT.out _ HB.out).2).mono ?_
      rintro e w10 ⟨rfl, hb⟩
      replace HB : Hid (Below w.heap.size w w10) := HB.out.trans (hb.mono HB.out.size)
      clear hb
      by_cases h0 : 0 ≤ n
      · have d2 : decide (n ≤ 1000000000) = false := by simp; omega
        clear hin d1
        go_wp2
        go_ret
        exact ⟨rfl, HB.out⟩
      · clear hin d1
        go_wp2
        go_ret
        exact ⟨rfl, HB.out⟩
  | false =>
    clear HRB
    go_wp2_with fail
    refine (HES.out _).mono ?_
    rintro e w9 ⟨rfl, hb⟩
    replace HB : Hid (Below w.heap.size w w9) := HB.out.trans (hb.mono HB.out.size)
    clear hb
    by_cases hin : 0 ≤ n ∧ n ≤ 1000000000
    · obtain ⟨k1, k2⟩ := HIN.out hin
      rw [k1, k2] at HIS
      have d1 : decide (0 ≤ n) = true := by simpa using hin.1
      have d2 : decide (n ≤ 1000000000) = true := by simpa using hin.2
      have hij := HINJ.out hin
      have d3 : (n == n) = true := by simp
      clear k1 k2 HIN HOUT HINJ hin
      go_wp2_with fail
      refine (HIS.out _ (HTT.out _ HB.out).1 (HTT.out _ HB.out).2).mono ?_
      rintro e w10 ⟨rfl, hb⟩
      replace HB : Hid (Below w.heap.size w w10) := HB.out.trans (hb.mono HB.out.size)
      clear hb
      by_cases hef : n = f
      · have d4 : (n == f) = true := by simpa using hef
        clear hij hef
        go_wp2
        go_ret
        exact ⟨rfl, HB.out⟩
      · have d4 : (n == f) = false := by simpa using hef
        have d5 := hij hef
        clear hij hef
        go_wp2_with fail
        refine (HEF.out _ (HTT.out _ HB.out).1 (HTT.out _ HB.out).2).mono ?_
        rintro e w11 ⟨rfl, hb⟩
        replace HB : Hid (Below w.heap.size w w11) := HB.out.trans (hb.mono HB.out.size)
        clear hb
        go_wp2
        go_ret
        exact ⟨rfl, HB.out⟩
    · rw [HOUT.out hin] at HIS
      have d1 : (decide (0 ≤ n) && decide (n ≤ 1000000000)) = false := by simp; omega
      clear HIN HOUT HINJ
      go_wp2_with fail
      refine (HIS.out _ (HTT.out _ HB.out).1 (HTT.out _ HB.out).2).mono ?_
      rintro e w10 ⟨rfl, hb⟩
      replace HB : Hid (Below w.heap.size w w10) := HB.out.trans (hb.mono HB.out.size)
      clear hb
      by_cases h0 : 0 ≤ n
      · have d2 : decide (n ≤ 1000000000) = false := by simp; omega
        clear hin d1
        go_wp2
        go_ret
        exact ⟨rfl, HB.out⟩
      · clear hin d1
        go_wp2
        go_ret
        exact ⟨rfl, HB.out⟩

set_option maxRecDepth 100000 in
theorem lifted (os : Os) (started : os.Started) (H : Type) (enc : TypeId × Value → H) :
    ReturnsInHanded {} Tryd.checked os 4 .any (fun w args => (Rows.fnEpochsSpec.pre enc Tryd.prog Tryd.f4 [] false w args ∧ laidMetH Tryd.prog Rows.fnEpochsRow.laid w) ∧ sizedMet enc Tryd.prog Tryd.f4 (OpenSpec.ofChange Rows.fnEpochsSpec) false w args)
      (Rows.fnEpochsSpec.post enc Tryd.prog Tryd.f4 false true false false) := by
  refine returnsInHanded_of_change_and (C := Tryd.checked) (X := fun w _ => laidMetH Tryd.prog Rows.fnEpochsRow.laid w) (fun _ _ _ hh h => h.of_heap hh) own started (by kernel_rfl) Tryd.func4
    (ChangeSpec.witness_shaped (enc := enc) (C := Tryd.checked) (os := os) (X := fun w _ => laidMetH Tryd.prog Rows.fnEpochsRow.laid w) false (World.doorLaid Tryd.prog 400 os) #[.slice none 0 0, .slice none 0 0] 8 rfl (World.shaped_of_RefB (by kernel_rfl) (by kernel_rfl)) (by kernel_rfl) (by kernel_rfl) (by kernel_rfl) (door_met os _)) ?_
  intro W base args ds gs before hval0 hW _ _ hL _
  have hval : ∀ (j : Nat) t v, Tryd.f4.params[j]? = some t → args[j]? = some v → Value.okWide Tryd.prog W .any base t v := hval0
  have hW' := hW
  obtain ⟨p, q, hA0, hV0, rfl, hfz, hnd⟩ := hW
  have hA : DataW.TrodAll enc Tryd.prog W 0 (fun _ => true) true Tryd.f4.params.toList args.toList ds p := hA0
  have hV : DataW.TrodVars enc Tryd.prog W (fun _ => true) [nm] gs q := hV0
  rw [Tryd.params4] at hA hval
  obtain ⟨v0, vs0, d0, ds0, p0, q0, hargs, rfl, rfl, h0, r0⟩ := trodAll_cons hA
  obtain ⟨v1, vs1, d1, ds1, p1, q1, rfl, rfl, rfl, h1, r1⟩ := trodAll_cons r0
  obtain ⟨rfl, rfl, rfl⟩ := trodAll_nil r1
  obtain rfl : args = #[v0, v1] := by cases args; simp_all
  obtain ⟨a0, len0, cap0, rfl⟩ := okWide_slice Tryd.underlying22 (hval 0 22 v0 rfl rfl)
  have k0 := h0
  have lt0 : ∀ x ∈ p0, x.block < W.heap.size := by obtain ⟨m, hm⟩ := k0; exact DataW.trod_lt m _ _ _ hm
  obtain ⟨z0, w0⟩ : ∃ zs, IsRow .u8 W a0 len0 cap0 zs := by
    obtain ⟨fuel, hf⟩ := h0
    rcases open_ints Tryd.underlying22 Tryd.underlying5 (by kernel_rfl) hf with ⟨hcs, _⟩ | ⟨x, l, c, zs, hcs, _, hl, hm, hz, _, hcell, hwz⟩
    · simp [Value.cells] at hcs
      obtain ⟨rfl, rfl, rfl⟩ := hcs
      exact ⟨[], .inl ⟨rfl, rfl, rfl, rfl⟩⟩
    · simp [Value.cells] at hcs
      obtain ⟨rfl, rfl, rfl⟩ := hcs
      exact ⟨zs, .inr ⟨_, rfl, hl, hm, by simpa using hz, hcell, hwz⟩⟩
  obtain ⟨a1, len1, cap1, rfl⟩ := okWide_slice Tryd.underlying22 (hval 1 22 v1 rfl rfl)
  have k1 := h1
  have lt1 : ∀ x ∈ p1, x.block < W.heap.size := by obtain ⟨m, hm⟩ := k1; exact DataW.trod_lt m _ _ _ hm
  obtain ⟨z1, w1⟩ : ∃ zs, IsRow .u8 W a1 len1 cap1 zs := by
    obtain ⟨fuel, hf⟩ := h1
    rcases open_ints Tryd.underlying22 Tryd.underlying5 (by kernel_rfl) hf with ⟨hcs, _⟩ | ⟨x, l, c, zs, hcs, _, hl, hm, hz, _, hcell, hwz⟩
    · simp [Value.cells] at hcs
      obtain ⟨rfl, rfl, rfl⟩ := hcs
      exact ⟨[], .inl ⟨rfl, rfl, rfl, rfl⟩⟩
    · simp [Value.cells] at hcs
      obtain ⟨rfl, rfl, rfl⟩ := hcs
      exact ⟨zs, .inr ⟨_, rfl, hl, hm, by simpa using hz, hcell, hwz⟩⟩
  obtain ⟨g, t, cs, fuel, d, p', rfl, hg, ht, hvar, hd, rfl⟩ := trodVars_one hV
  obtain rfl := Option.some.inj (gTab.symm.trans hg)
  obtain rfl := Option.some.inj (tTab.symm.trans ht)
  obtain rfl : cs = cs16 := Option.some.inj (hvar.symm.trans (tab_of hL))
  obtain ⟨rfl, rfl⟩ := DataW.Trod.unique (v := .agg cs16) ⟨fuel, hd⟩ ⟨3, reads_table enc W _⟩
  have hdeep : 0 < W.heap.size := by
    have := World.block_lt_of_cell? W _ (tabAt_of hvar 0 (by omega))
    simpa using this
  clear hA0 hV0 hval0
  refine (walk a0 len0 cap0 z0 a1 len1 cap1 z1 W w0 w1 (tabAt_of hvar) hdeep).mono fun e W' ⟨he, bel⟩ => ?_
  subst he
  exact ⟨_, rfl, _, _, _, [], _, MemPlace.row ⟨0, 0, none⟩ cs16.size ++ [], hW', trodAll_mk1 (shut_bool Tryd.underlying4 _), (trodAll_cons_mk (Below.trod laidOut (by kernel_rfl) (of_decide_eq_true (by kernel_rfl)) k0 bel lt0) (trodAll_cons_mk (Below.trod laidOut (by kernel_rfl) (of_decide_eq_true (by kernel_rfl)) k1 bel lt1) trodAll_mk0)), trodVars_mk1 gTab tTab (var?_below bel gTab hdeep hvar) (reads_table enc W' _), bel.frame _, fun h => by cases h⟩

theorem over : Rows.FnEpochsSaid :=
  OpenClaim.holds_of_wide 4 Tryd.f4 rfl rfl rfl rfl rfl rfl rfl ⟨rfl, rfl, rfl, rfl, rfl⟩ rfl rfl rfl rfl rfl (by kernel_rfl) Tryd.func4 (by kernel_rfl)
    (of_decide_eq_true (by kernel_rfl)) (by unfold Func.isWrapper; first | (rw [if_pos (by decide +kernel)]; kernel_rfl) | (rw [if_neg (by decide +kernel)]; exact ⟨rfl, rfl⟩))
    (fun os started H enc _ => lifted os started H enc)

theorem card : Rows.FnEpochsCardSaid :=
  Claim7.holds_tied_plain_at .later [] [.data] true (true, "cc387e8dd4b3acf3f8e27a2bf64899467ece8f1838bd9f987969631b3dc6035c") false
    over (fun _ h => by cases h) (by kernel_rfl) (fun _ h => by cases h) fnEpochs_row_tie rfl ⟨rfl, rfl⟩ (by kernel_rfl) rfl
    (fun f fn hf hfn => by
      obtain rfl : f = 4 := Option.some.inj ((show Tryd.prog.funcNamed Rows.fnEpochsRow.func = some 4 by kernel_rfl).symm.trans hf) |>.symm
      obtain rfl : fn = Tryd.f4 := (Option.some.inj (Tryd.func4.symm.trans hfn)).symm
      exact ⟨by kernel_rfl, fun j t ht => by
        rw [Tryd.params4] at ht
        have h3 : t = 22 := by
          rcases j with _ | _ | j
          · simpa using ht.symm
          · simpa using ht.symm
          · simp at ht
        subst h3
        exact (show Tryd.prog.wantsStandIn 22 = false by kernel_rfl)⟩)
    (by kernel_rfl)
#print axioms card
end Go.Proofs.YtnghhfdbibbpcabDoor.fnEpochs
