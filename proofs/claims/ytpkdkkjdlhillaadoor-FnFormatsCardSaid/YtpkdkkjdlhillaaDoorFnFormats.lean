/-
  FnFormats: at every code the law that what is formatted says what it is, in its first two lines, and nothing in the others, returns true for what is drawn of it, and the code and the program's table read as before; the table reads as the program's own text lays it (tied).
-/
import Derived.Test.YtpkdkkjdlhillaaDoorCards
import Derived.Test.YtpkdkkjdlhillaaDoorTie
import Derived.Test.YtpkdkkjdlhillaaDoorDrawFmt
import Derived.Test.YtpkdkkjdlhillaaDoorFmtLaw
import Derived.Deep.RegionHeld3
import Derived.ProofKit
import Derived.LaidMore
import Derived.OpenShut
import Derived.Stop.Joined
import Derived.Lib.LaidTab
import Derived.WalkSmall
import Derived.ShutString
import Derived.ChangeVars
import Derived.MakeChecks
import Derived.SevenTiedAt
import Derived.ChangeOld
import Derived.Below
namespace Go.Proofs.YtpkdkkjdlhillaaDoor.fnFormats
open Go.ChangeShapes Go.WideShapes Go.ChangeAt Go.RowKit
open Go.ChangeMaps (open_string shut_string)
open crc rd kinds ints txt

theorem laidOut : laidOutB Tryd.prog = true := by kernel_rfl
theorem own : ownKnob Tryd.prog.godebug = none := by kernel_rfl
def nm : String := Rows.fnFormatsSpec.vars.headD ""
theorem gTab : Tryd.prog.globalNamed nm = some 0 := by kernel_rfl
theorem tTab : (Tryd.prog.globals[0]?).map (·.type) = some 74 := by kernel_rfl
def zs : List Int := [0, 498536548, 997073096, 651767980, 1994146192, 1802195444, 1303535960, 1342533948, 3988292384, 4027552580, 3604390888, 3412177804, 2607071920, 2262029012, 2685067896, 3183342108]
def cs16 : Array Value := (zs.map fun z => Value.int .u32 z).toArray

theorem tab_of {W : World} (h : laidMetH Tryd.prog Rows.fnFormatsRow.laid W) : W.var? Tryd.prog nm = some cs16 := by
  rw [MakeChecks.laidMetH_plain _ _ _ (by kernel_rfl)] at h
  have h' : laidMet Tryd.prog ((nm, Lib.tabData .u32 zs) :: []) W := h
  exact Lib.tabIs_of_head gTab tTab Tryd.underlying74 Tryd.underlying73 (by kernel_rfl) (by kernel_rfl) h'
theorem tabAt_of {W : World} (h : W.var? Tryd.prog nm = some cs16) : TabAt W := by
  intro i hi
  rw [World.var?_cell gTab h i]
  have : ∀ i, i < 16 → cs16[i]? = some (Value.int .u32 (tab i)) := by
    intro i hi
    have hc : i = 0 ∨ i = 1 ∨ i = 2 ∨ i = 3 ∨ i = 4 ∨ i = 5 ∨ i = 6 ∨ i = 7 ∨ i = 8 ∨ i = 9 ∨ i = 10 ∨ i = 11 ∨ i = 12 ∨ i = 13 ∨ i = 14 ∨ i = 15 := by omega
    rcases hc with rfl | rfl | rfl | rfl | rfl | rfl | rfl | rfl | rfl | rfl | rfl | rfl | rfl | rfl | rfl | rfl <;> rfl
  exact this i hi
theorem reads_table {H : Type} (enc : TypeId × Value → H) (W : World) (sp : Nat → Bool) : DataW.trod enc Tryd.prog W 0 sp true 3 74 cs16.toList = some (Lib.tabData .u32 zs, []) := by kernel_rfl
theorem door_met (os : Os) (args : Array Value) : laidMetH Tryd.prog Rows.fnFormatsRow.laid ((World.doorLaid Tryd.prog 400 os).forCall (fun _ _ => 0) ⟨#[], args, []⟩).memory :=
  laidMetH_of_parts3 (fuel := 8) (laidMet_of_run' 8 (by kernel_rfl) (by kernel_rfl)) (by kernel_rfl) (by kernel_rfl)


def IsRow (k : IntKind) (w : World) (a : Option Addr) (len cap : Nat) (zs : List Int) : Prop :=
  (a = none ∧ len = 0 ∧ cap = 0 ∧ zs = []) ∨
  ∃ x, a = some x ∧ len ≤ cap ∧ cap ≤ maxLen ∧ zs.length = cap ∧ (∀ i, i < zs.length → w.cell? (x.add i) = some (.int k (zs.getD i 0))) ∧ ∀ n ∈ zs, (Lit.int k n).wf = true

set_option linter.unusedVariables false in
theorem walk (a0 : Option Addr) (len0 cap0 : Nat) (z0 : List Int) (w : World) (w0 : IsRow .u8 w a0 len0 cap0 z0) (htab : TabAt w) (hdeep : 0 < w.heap.size) :
    Calls Tryd.prog 4 #[.slice a0 len0 cap0] w fun e w' => e = .returned (.bool true) ∧ Below w.heap.size w w' := by
  have c0 := code_of w0
  clear w0
  have HT : Hid (TabAt w) := htab
  clear htab
  by_cases hb0 : 1048576 < len0
  · go_enter Tryd.func4, Tryd.ntmps4
    go_wp2_with fail
    refine (big_yes _ a0 len0 cap0 hb0).mono ?_
    rintro e w' ⟨rfl, rfl⟩
    go_wp2
    go_ret
    exact ⟨rfl, Below.refl _ _⟩
  have HC : Hid (RdCode w w.heap.size a0 len0) := c0
  clear c0
  have HTT : Hid (∀ w', Below w.heap.size w w' → TabAt w' ∧ 0 < w'.heap.size) := fun w' h => ⟨HT.out.below h hdeep, Nat.lt_of_lt_of_le hdeep h.size⟩
  go_enter Tryd.func4, Tryd.ntmps4
  go_wp2_with fail
  refine (big_no _ a0 len0 cap0 (by omega)).mono ?_
  rintro e w' ⟨rfl, rfl⟩
  go_wp2_with fail
  refine (draw_format _ a0 len0 cap0 (by omega) HC.out).mono ?_
  rintro e w1 ⟨n1, n2, n3, av, cv, ys, rfl, hw1, hw2, hw3, hyl, hyz, ⟨gv, hgv, htv⟩, hb⟩
  obtain ⟨n, hn⟩ : ∃ n, n = ys.length := ⟨_, rfl⟩
  rw [← hn]
  have HLN : Hid (ys.length = n) := hn.symm
  obtain ⟨C, hC⟩ : ∃ C, C = w1.alloc (.cells #[.int .i64 n1, .int .i64 n2, .int .i64 n3, .slice av n cv] 26) := ⟨_, rfl⟩
  obtain ⟨cb, hcb⟩ : ∃ c, c = w1.heap.size := ⟨_, rfl⟩
  have HCA : Hid (C = w1.alloc (.cells #[.int .i64 n1, .int .i64 n2, .int .i64 n3, .slice av n cv] 26)) := hC
  have HCB : Hid (cb = w1.heap.size) := hcb
  have HV0 : Hid (CVar cb n1 n2 n3 av gv n cv ys C) := by rw [hC, hcb]; exact CVar.start w1 n1 n2 n3 av gv n cv ys _ HLN.out htv
  have HB0 : Hid (Below w.heap.size w C) := by rw [hC]; exact hb.alloc hb.size _
  have hzz : ∀ i (hi : i < ys.length), ys[i].size ≤ 1048576 := fun i hi => by have := hyz ys[i] (List.getElem_mem hi); omega
  have HIF : Hid (∀ w, TabAt w → 0 < w.heap.size → Strs w av ys → Calls Tryd.prog 17 #[.agg #[.int .i64 n1, .int .i64 n2, .int .i64 n3, .slice av n cv]] w fun x w' => x = .returned (.string (formatStr n1 n2 n3 ys)) ∧ Below w.heap.size w w') := fun w q1 q2 q3 => by
    have h1 := impl_format w n1 n2 n3 av cv ys (by omega) q3 hzz q1 q2
    rw [HLN.out] at h1; exact h1
  have HSF : Hid (∀ w, Strs w av ys → Calls Tryd.prog 18 #[.agg #[.int .i64 n1, .int .i64 n2, .int .i64 n3, .slice av n cv]] w fun x w' => x = .returned (.string (formatStr n1 n2 n3 ys)) ∧ Below w.heap.size w w') := fun w q3 => by
    have h1 := spec_format w n1 n2 n3 av cv ys (by omega) q3 hzz
    rw [HLN.out] at h1; exact h1
  have HCO : Hid (∀ w, Strs w av ys → Calls Tryd.prog 14 #[.agg #[.int .i64 n1, .int .i64 n2, .int .i64 n3, .slice av n cv]] w fun x w' => x = .returned (.bool (configOk n1 n2 n3 ys)) ∧ Below w.heap.size w w') := fun w q3 => by
    have h1 := kinds.impl_conf w n1 n2 n3 av cv ys (by omega) q3 hzz
    rw [HLN.out] at h1; exact h1
  have HFD : Hid (∀ w, Strs w av ys → Calls Tryd.prog 20 #[.agg #[.int .i64 n1, .int .i64 n2, .int .i64 n3, .slice av n cv]] w fun x w' => x = .returned (.int .i64 (firstData n1 n2 n3 ys)) ∧ Below w.heap.size w w') := fun w q3 => by
    have h1 := impl_first w n1 n2 n3 av cv ys (by omega) q3 hzz
    rw [HLN.out] at h1; exact h1
  have HFM : Hid (configOk n1 n2 n3 ys = true → (formatStr n1 n2 n3 ys).extract 0 64 = superStr n1 n2 n3 ys ∧ (formatStr n1 n2 n3 ys).extract 64 128 = epochStr 0 ∧ ((formatStr n1 n2 n3 ys).size : Int) = 64 * n1 ∧ ∀ i (hi : i < (formatStr n1 n2 n3 ys).size), 128 ≤ i → (formatStr n1 n2 n3 ys)[i] = 0) := fmt_parts
  have HFN : Hid (configOk n1 n2 n3 ys = false → formatStr n1 n2 n3 ys = ⟨#[]⟩) := fmt_none
  have HNR : Hid (configOk n1 n2 n3 ys = true → (8 ≤ n1 ∧ n1 ≤ 128) ∧ (1 ≤ n2 ∧ n2 ≤ 32) ∧ firstData n1 n2 n3 ys = 4 + n2) := fun h => by
    have h1 := conf_in h
    exact ⟨h1.1, ⟨h1.2.1.1, h1.2.1.2.1⟩, by unfold firstData; exact if_pos h⟩
  have HRS : Hid (configOk n1 n2 n3 ys = true → ∀ w, TabAt w → 0 < w.heap.size → Calls Tryd.prog 10 #[.string (superStr n1 n2 n3 ys)] w fun e w' => RAns n1 n2 n3 ys true w e w') := fun h w q1 q2 => by
    obtain ⟨p0, p1, p2, p3, p4, p5⟩ := sup_back h
    have h1 := (impl_readsup (superStr n1 n2 n3 ys) w p0 q1 q2).mono fun _ _ q => rans_of q
    unfold supL at h1
    rw [p5, if_pos rfl, if_pos rfl, if_pos rfl, if_pos rfl, p1, p2, p3, p4] at h1
    exact h1
  have HRE : Hid (∀ w, TabAt w → 0 < w.heap.size → Calls Tryd.prog 19 #[.string (epochStr 0)] w fun x w' => x = .returned (.tuple #[.int .i64 0, .bool true]) ∧ Below w.heap.size w w') := fun w q1 q2 => by
    have h0 : (epochStr 0).size = 64 := epoch_size ⟨by omega, by omega⟩
    have h1 := impl_read_epoch (epochStr 0) w h0 q1 q2
    rw [(epoch_is (e := 0) ⟨by omega, by omega⟩).1, (epoch_is (e := 0) ⟨by omega, by omega⟩).2] at h1
    exact h1
  have HY13 : Hid (n ≤ 13) := by show n ≤ 13; omega
  clear hn hC hcb hb htv hgv hyl hyz hzz hw1 hw2 hw3
  generalize formatStr n1 n2 n3 ys = s at HIF HSF HFM HFN
  generalize superStr n1 n2 n3 ys = l1 at HFM HRS
  generalize epochStr 0 = l2 at HFM HRE
  have hss : (s.toList == s.toList) = true := by simp
  have hsn : (s.toList != s.toList) = false := by simp
  have m0 := HV0.out.c0
  have m1 := HV0.out.c1
  have m2 := HV0.out.c2
  have m3 := HV0.out.c3
  go_wp2_with (first | (rw [← HCA.out, ← HCB.out]) | (rw [← HCA.out]))
  refine (HIF.out _ (HTT.out _ HB0.out).1 (HTT.out _ HB0.out).2 HV0.out.tx.strs).mono ?_
  rintro e w2 ⟨rfl, hb⟩
  have HV1 : Hid (CVar cb n1 n2 n3 av gv n cv ys w2) := HV0.out.below hb
  have HB1 : Hid (Below w.heap.size w w2) := HB0.out.trans (hb.mono HB0.out.size)
  clear hb m0 m1 m2 m3
  have m0 := HV1.out.c0
  have m1 := HV1.out.c1
  have m2 := HV1.out.c2
  have m3 := HV1.out.c3
  go_wp2_with fail
  refine (HSF.out _ HV1.out.tx.strs).mono ?_
  rintro e w3 ⟨rfl, hb⟩
  have HV2 : Hid (CVar cb n1 n2 n3 av gv n cv ys w3) := HV1.out.below hb
  have HB2 : Hid (Below w.heap.size w w3) := HB1.out.trans (hb.mono HB1.out.size)
  clear hb m0 m1 m2 m3
  have m0 := HV2.out.c0
  have m1 := HV2.out.c1
  have m2 := HV2.out.c2
  have m3 := HV2.out.c3
  cases hok : configOk n1 n2 n3 ys with
  | false =>
    have hs0 := HFN.out hok
    rw [hok] at HCO
    subst hs0
    clear HFM HFN HNR HRS HRE hok
    go_wp2_with fail
    refine (HSF.out _ HV2.out.tx.strs).mono ?_
    rintro e w4 ⟨rfl, hb⟩
    have HV3 : Hid (CVar cb n1 n2 n3 av gv n cv ys w4) := HV2.out.below hb
    have HB3 : Hid (Below w.heap.size w w4) := HB2.out.trans (hb.mono HB2.out.size)
    clear hb m0 m1 m2 m3
    have m0 := HV3.out.c0
    have m1 := HV3.out.c1
    have m2 := HV3.out.c2
    have m3 := HV3.out.c3
    go_wp2_with fail
    refine (HCO.out _ HV3.out.tx.strs).mono ?_
    rintro e w5 ⟨rfl, hb⟩
    have HB4 : Hid (Below w.heap.size w w5) := HB3.out.trans (hb.mono HB3.out.size)
    clear hb m0 m1 m2 m3
    go_wp2
    go_ret
    exact ⟨rfl, HB4.out⟩
  | true =>
    obtain ⟨f1, f2, f3, f4⟩ := HFM.out hok
    obtain ⟨⟨g1, g2⟩, ⟨g3, g4⟩, g5⟩ := HNR.out hok
    have HRS1 : Hid (∀ w, TabAt w → 0 < w.heap.size → Calls Tryd.prog 10 #[.string (s.extract 0 64)] w fun e w' => RAns n1 n2 n3 ys true w e w') := by rw [f1]; exact HRS.out hok
    have HRE1 : Hid (∀ w, TabAt w → 0 < w.heap.size → Calls Tryd.prog 19 #[.string (s.extract 64 128)] w fun x w' => x = .returned (.tuple #[.int .i64 0, .bool true]) ∧ Below w.heap.size w w') := by rw [f2]; exact HRE.out
    rw [g5] at HFD
    have HF4 : Hid (∀ i (hi : i < s.size), 128 ≤ i → s[i] = 0) := f4
    have HSZ : Hid ((s.size : Int) = 64 * n1) := f3
    have hne : (s.toList == ([] : List UInt8)) = false := by
      rw [ByteArray.toList_eq]
      have : s.data.toList.length = s.size := by simp
      cases hl : s.data.toList with
      | nil => rw [hl] at this; simp at this; omega
      | cons _ _ => rfl
    have h64 : (64 : Int) ≤ (s.size : Int) := by omega
    have h128 : (128 : Int) ≤ (s.size : Int) := by omega
    have hmul : IntKind.i64.wrap (64 * n1) = 64 * n1 := by rw [IntKind.wrap_i64]; omega
    have hadd : IntKind.i64.wrap (4 + n2) = 4 + n2 := by rw [IntKind.wrap_i64]; omega
    have hsz8 : (s.size : Int) ≤ 8192 := by omega
    clear HFM HFN HNR HRS HRE hok f1 f2 f3 f4 g5 HCO
    go_wp2_with fail
    refine (HRS1.out _ (HTT.out _ HB2.out).1 (HTT.out _ HB2.out).2).mono ?_
    rintro e w4 ⟨ax, gx, cx, rfl, hgx, htx, hb⟩
    rw [HLN.out]
    obtain ⟨X, hX⟩ : ∃ X, X = w4.alloc (.cells #[.int .i64 n1, .int .i64 n2, .int .i64 n3, .slice ax n cx] 26) := ⟨_, rfl⟩
    obtain ⟨xb, hxb⟩ : ∃ x, x = w4.heap.size := ⟨_, rfl⟩
    have HX : Hid (X = w4.alloc (.cells #[.int .i64 n1, .int .i64 n2, .int .i64 n3, .slice ax n cx] 26)) := hX
    have HXB : Hid (xb = w4.heap.size) := hxb
    have hbx : Below w4.heap.size w4 X := by rw [hX]; exact (Below.refl _ _).alloc (Nat.le_refl _) _
    have HX0 : Hid (CVar xb n1 n2 n3 ax gx n cx ys X) := by rw [hX, hxb]; exact CVar.start w4 n1 n2 n3 ax gx n cx ys _ HLN.out htx
    have HV3 : Hid (CVar cb n1 n2 n3 av gv n cv ys X) := (HV2.out.below hb).below hbx
    have HB3 : Hid (Below w.heap.size w X) := (HB2.out.trans (hb.mono HB2.out.size)).trans (hbx.mono (Nat.le_trans HB2.out.size hb.size))
    clear hX hxb hbx htx hgx hb m0 m1 m2 m3
    go_wp2_with (first | (rw [← HX.out, ← HXB.out]) | (rw [← HX.out]))
    refine (HRE1.out _ (HTT.out _ HB3.out).1 (HTT.out _ HB3.out).2).mono ?_
    rintro e w5 ⟨rfl, hb⟩
    have HX1 : Hid (CVar xb n1 n2 n3 ax gx n cx ys w5) := HX0.out.below hb
    have HV4 : Hid (CVar cb n1 n2 n3 av gv n cv ys w5) := HV3.out.below hb
    have HB4 : Hid (Below w.heap.size w w5) := HB3.out.trans (hb.mono HB3.out.size)
    clear hb
    try rw [← HXB.out]
    go_wp2
    go_loop [9] (fun i => ∃ k : Nat, 128 ≤ k ∧ k ≤ s.size ∧ i = .int .i64 (k : Int)) (fun i => s.size - (intOf i).toNat)
    case atStart => exact ⟨128, Nat.le_refl _, by omega, rfl⟩
    case round =>
      obtain ⟨k, hk1, hk, rfl⟩ := hrel
      by_cases hlt : k < s.size
      · have hlti : (k : Int) < (s.size : Int) := by omega
        have hz : s[k] = 0 := HF4.out k hlt hk1
        have hb8 : ((s[k].toNat : Int) != 0) = false := by rw [hz]; rfl
        clear hz
        go_wp2
        refine ⟨⟨k + 1, by omega, by omega, by go_num⟩, by simp [intOf]; omega⟩
      · obtain rfl : k = s.size := by omega
        have hlti : ¬ (s.size : Int) < (s.size : Int) := by omega
        have hsq : ((s.size : Int) == 64 * n1) = true := by have := HSZ.out; simp; omega
        have hfq : ((4 + n2) == (4 + n2)) = true := by simp
        have hacc : Below w5.heap.size w5 w5.drew := (Below.refl _ _).drew
        have HCK : Hid (∀ w', Below w5.heap.size w5 w' → (w'.cell? ⟨xb, 0, none⟩ = some (.int .i64 n1) ∧ w'.cell? ⟨xb, 1, none⟩ = some (.int .i64 n2) ∧ w'.cell? ⟨xb, 2, none⟩ = some (.int .i64 n3) ∧ w'.cell? ⟨xb, 3, none⟩ = some (.slice ax n cx)) ∧ w'.cell? ⟨cb, 0, none⟩ = some (.int .i64 n1) ∧ w'.cell? ⟨cb, 1, none⟩ = some (.int .i64 n2) ∧ w'.cell? ⟨cb, 2, none⟩ = some (.int .i64 n3) ∧ w'.cell? ⟨cb, 3, none⟩ = some (.slice av n cv)) := fun w' h => ⟨⟨(HX1.out.below h).c0, (HX1.out.below h).c1, (HX1.out.below h).c2, (HX1.out.below h).c3⟩, (HV4.out.below h).c0, (HV4.out.below h).c1, (HV4.out.below h).c2, (HV4.out.below h).c3⟩
        obtain ⟨⟨j0, j1, j2, j3⟩, m0, m1, m2, m3⟩ := HCK.out w5 (Below.refl _ _)
        go_wp2
        go_region_held3 (fun w' => (w'.cell? ⟨xb, 0, none⟩ = some (.int .i64 n1) ∧ w'.cell? ⟨xb, 1, none⟩ = some (.int .i64 n2) ∧ w'.cell? ⟨xb, 2, none⟩ = some (.int .i64 n3) ∧ w'.cell? ⟨xb, 3, none⟩ = some (.slice ax n cx)) ∧ w'.cell? ⟨cb, 0, none⟩ = some (.int .i64 n1) ∧ w'.cell? ⟨cb, 1, none⟩ = some (.int .i64 n2) ∧ w'.cell? ⟨cb, 2, none⟩ = some (.int .i64 n3) ∧ w'.cell? ⟨cb, 3, none⟩ = some (.slice av n cv)) (first | with_reducible exact HCK.out _ hacc)
          (first | (go_at_call 13; refine (sameConfig_same _ n1 n2 n3 ax av n cx cv ys HLN.out (by have := HLN.out; have := HY13.out; omega) (HX1.out.below hacc).tx.strs (HV4.out.below hacc).tx.strs).mono ?_; rintro e wA ⟨rfl, hbX⟩; have hac2 : Below w5.heap.size w5 wA := hacc.trans (hbX.mono hacc.size); clear hacc hbX; have hacc := hac2; clear hac2) | (go_at_call 20; refine (HFD.out _ (HV4.out.below hacc).tx.strs).mono ?_; rintro e wB ⟨rfl, hbX⟩; have hac2 : Below w5.heap.size w5 wB := hacc.trans (hbX.mono hacc.size); clear hacc hbX; have hacc := hac2; clear hac2))
        all_goals
          have HBE : Hid (Below w.heap.size w wB) := HB4.out.trans (hacc.mono HB4.out.size)
          clear hacc
          go_wp2
          go_ret
          exact ⟨rfl, HBE.out⟩

set_option maxRecDepth 100000 in
theorem lifted (os : Os) (started : os.Started) (H : Type) (enc : TypeId × Value → H) :
    ReturnsInHanded {} Tryd.checked os 4 .any (fun w args => (Rows.fnFormatsSpec.pre enc Tryd.prog Tryd.f4 [] false w args ∧ laidMetH Tryd.prog Rows.fnFormatsRow.laid w) ∧ sizedMet enc Tryd.prog Tryd.f4 (OpenSpec.ofChange Rows.fnFormatsSpec) false w args)
      (Rows.fnFormatsSpec.post enc Tryd.prog Tryd.f4 false true false false) := by
  refine returnsInHanded_of_change_and (C := Tryd.checked) (X := fun w _ => laidMetH Tryd.prog Rows.fnFormatsRow.laid w) (fun _ _ _ hh h => h.of_heap hh) own started (by kernel_rfl) Tryd.func4
    (ChangeSpec.witness_shaped (enc := enc) (C := Tryd.checked) (os := os) (X := fun w _ => laidMetH Tryd.prog Rows.fnFormatsRow.laid w) false (World.doorLaid Tryd.prog 400 os) #[.slice none 0 0] 8 rfl (World.shaped_of_RefB (by kernel_rfl) (by kernel_rfl)) (by kernel_rfl) (by kernel_rfl) (by kernel_rfl) (door_met os _)) ?_
  intro W base args ds gs before hval0 hW _ _ hL _
  have hval : ∀ (j : Nat) t v, Tryd.f4.params[j]? = some t → args[j]? = some v → Value.okWide Tryd.prog W .any base t v := hval0
  have hW' := hW
  obtain ⟨p, q, hA0, hV0, rfl, hfz, hnd⟩ := hW
  have hA : DataW.TrodAll enc Tryd.prog W 0 (fun _ => true) true Tryd.f4.params.toList args.toList ds p := hA0
  have hV : DataW.TrodVars enc Tryd.prog W (fun _ => true) [nm] gs q := hV0
  rw [Tryd.params4] at hA hval
  obtain ⟨v0, d0, rfl, rfl, h0⟩ := trodAll_one hA
  obtain ⟨a0, len0, cap0, rfl⟩ := okWide_slice Tryd.underlying22 (hval 0 22 v0 rfl rfl)
  have k0 := h0
  have lt0 : ∀ x ∈ p, x.block < W.heap.size := by obtain ⟨m, hm⟩ := k0; exact DataW.trod_lt m _ _ _ hm
  obtain ⟨z0, w0⟩ : ∃ zs, IsRow .u8 W a0 len0 cap0 zs := by
    obtain ⟨fuel, hf⟩ := h0
    rcases open_ints Tryd.underlying22 Tryd.underlying5 (by kernel_rfl) hf with ⟨hcs, _⟩ | ⟨x, l, c, zs, hcs, _, hl, hm, hz, _, hcell, hwz⟩
    · simp [Value.cells] at hcs
      obtain ⟨rfl, rfl, rfl⟩ := hcs
      exact ⟨[], .inl ⟨rfl, rfl, rfl, rfl⟩⟩
    · simp [Value.cells] at hcs
      obtain ⟨rfl, rfl, rfl⟩ := hcs
      exact ⟨zs, .inr ⟨_, rfl, hl, hm, by simpa using hz, hcell, hwz⟩⟩
  obtain ⟨g, t, cs, fuel, d, p', rfl, hg, ht, hvar, hd, rfl⟩ := trodVars_one hV
  obtain rfl := Option.some.inj (gTab.symm.trans hg)
  obtain rfl := Option.some.inj (tTab.symm.trans ht)
  obtain rfl : cs = cs16 := Option.some.inj (hvar.symm.trans (tab_of hL))
  obtain ⟨rfl, rfl⟩ := DataW.Trod.unique (v := .agg cs16) ⟨fuel, hd⟩ ⟨3, reads_table enc W _⟩
  have hdeep : 0 < W.heap.size := by
    have := World.block_lt_of_cell? W _ (tabAt_of hvar 0 (by omega))
    simpa using this
  clear hA0 hV0 hval0
  refine (walk a0 len0 cap0 z0 W w0 (tabAt_of hvar) hdeep).mono fun e W' ⟨he, bel⟩ => ?_
  subst he
  exact ⟨_, rfl, _, _, _, [], p, MemPlace.row ⟨0, 0, none⟩ cs16.size ++ [], hW', trodAll_mk1 (shut_bool Tryd.underlying4 _), trodAll_mk1 (Below.trod laidOut (by kernel_rfl) (of_decide_eq_true (by kernel_rfl)) k0 bel lt0), trodVars_mk1 gTab tTab (var?_below bel gTab hdeep hvar) (reads_table enc W' _), bel.frame _, fun h => by cases h⟩

theorem over : Rows.FnFormatsSaid :=
  OpenClaim.holds_of_wide 4 Tryd.f4 rfl rfl rfl rfl rfl rfl rfl ⟨rfl, rfl, rfl, rfl, rfl⟩ rfl rfl rfl rfl rfl (by kernel_rfl) Tryd.func4 (by kernel_rfl)
    (of_decide_eq_true (by kernel_rfl)) (by unfold Func.isWrapper; first | (rw [if_pos (by decide +kernel)]; kernel_rfl) | (rw [if_neg (by decide +kernel)]; exact ⟨rfl, rfl⟩))
    (fun os started H enc _ => lifted os started H enc)

theorem card : Rows.FnFormatsCardSaid :=
  Claim7.holds_tied_plain_at .later [] [.data] true (true, "b2b06b05c342d3ddee78f45a75af2793beae5bd8ad94fbaf969a71f82222ca8f") false
    over (fun _ h => by cases h) (by kernel_rfl) (fun _ h => by cases h) fnFormats_row_tie rfl ⟨rfl, rfl⟩ (by kernel_rfl) rfl
    (fun f fn hf hfn => by
      obtain rfl : f = 4 := Option.some.inj ((show Tryd.prog.funcNamed Rows.fnFormatsRow.func = some 4 by kernel_rfl).symm.trans hf) |>.symm
      obtain rfl : fn = Tryd.f4 := (Option.some.inj (Tryd.func4.symm.trans hfn)).symm
      exact ⟨by kernel_rfl, fun j t ht => by
        rw [Tryd.params4] at ht
        have h3 : t = 22 := by
          rcases j with _ | j
          · simpa using ht.symm
          · simp at ht
        subst h3
        exact (show Tryd.prog.wantsStandIn 22 = false by kernel_rfl)⟩)
    (by kernel_rfl)
#print axioms card
end Go.Proofs.YtpkdkkjdlhillaaDoor.fnFormats
