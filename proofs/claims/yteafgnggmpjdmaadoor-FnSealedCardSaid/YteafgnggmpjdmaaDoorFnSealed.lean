/-
  FnSealed: at every code the law that what was sealed comes back, with its noughts, and with a byte turned does not, returns true, and the code and the program's table read as before; the table reads as the program's own text lays it (tied).
-/
import Derived.Test.YteafgnggmpjdmaaDoorCards
import Derived.Test.YteafgnggmpjdmaaDoorTie
import Derived.Test.YteafgnggmpjdmaaDoorSealMath
import Derived.Test.YteafgnggmpjdmaaDoorRd4
import Derived.Test.YteafgnggmpjdmaaDoorBb
import Derived.ProofKit
import Derived.LaidMore
import Derived.OpenShut
import Derived.Stop.Joined
import Derived.Lib.LaidTab
import Derived.WalkSmall
import Derived.ShutString
import Derived.ChangeVars
import Derived.MakeChecks
import Derived.SevenTiedAt
import Derived.ChangeOld
import Derived.Below
namespace Go.Proofs.YteafgnggmpjdmaaDoor.fnSealed
open Go.ChangeShapes Go.WideShapes Go.ChangeAt Go.RowKit
open Go.ChangeMaps (open_string shut_string)
open crc rd bb

theorem laidOut : laidOutB Tryd.prog = true := by kernel_rfl
theorem own : ownKnob Tryd.prog.godebug = none := by kernel_rfl
def nm : String := Rows.fnSealedSpec.vars.headD ""
theorem gTab : Tryd.prog.globalNamed nm = some 0 := by kernel_rfl
theorem tTab : (Tryd.prog.globals[0]?).map (·.type) = some 39 := by kernel_rfl
def zs : List Int := [0, 498536548, 997073096, 651767980, 1994146192, 1802195444, 1303535960, 1342533948, 3988292384, 4027552580, 3604390888, 3412177804, 2607071920, 2262029012, 2685067896, 3183342108]
def cs16 : Array Value := (zs.map fun z => Value.int .u32 z).toArray

theorem tab_of {W : World} (h : laidMetH Tryd.prog Rows.fnSealedRow.laid W) : W.var? Tryd.prog nm = some cs16 := by
  rw [MakeChecks.laidMetH_plain _ _ _ (by kernel_rfl)] at h
  have h' : laidMet Tryd.prog ((nm, Lib.tabData .u32 zs) :: []) W := h
  exact Lib.tabIs_of_head gTab tTab Tryd.underlying39 Tryd.underlying37 (by kernel_rfl) (by kernel_rfl) h'
theorem tabAt_of {W : World} (h : W.var? Tryd.prog nm = some cs16) : TabAt W := by
  intro i hi
  rw [World.var?_cell gTab h i]
  have : ∀ i, i < 16 → cs16[i]? = some (Value.int .u32 (tab i)) := by
    intro i hi
    have hc : i = 0 ∨ i = 1 ∨ i = 2 ∨ i = 3 ∨ i = 4 ∨ i = 5 ∨ i = 6 ∨ i = 7 ∨ i = 8 ∨ i = 9 ∨ i = 10 ∨ i = 11 ∨ i = 12 ∨ i = 13 ∨ i = 14 ∨ i = 15 := by omega
    rcases hc with rfl | rfl | rfl | rfl | rfl | rfl | rfl | rfl | rfl | rfl | rfl | rfl | rfl | rfl | rfl | rfl <;> rfl
  exact this i hi
theorem reads_table {H : Type} (enc : TypeId × Value → H) (W : World) (sp : Nat → Bool) : DataW.trod enc Tryd.prog W 0 sp true 3 39 cs16.toList = some (Lib.tabData .u32 zs, []) := by kernel_rfl
theorem door_met (os : Os) (args : Array Value) : laidMetH Tryd.prog Rows.fnSealedRow.laid ((World.doorLaid Tryd.prog 400 os).forCall (fun _ _ => 0) ⟨#[], args, []⟩).memory :=
  laidMetH_of_parts3 (fuel := 8) (laidMet_of_run' 8 (by kernel_rfl) (by kernel_rfl)) (by kernel_rfl) (by kernel_rfl)

theorem draw_sealed (w : World) (a : Option Addr) (len cap : Nat) (hs : len ≤ 1048576) (hc : RdCode w w.heap.size a len) :
    Calls Tryd.prog 5 #[.slice a len cap] w fun e w' => ∃ s : ByteArray, e = .returned (.string s) ∧ s.size ≤ 61 ∧ Below w.heap.size w w' := by
  have HC : Hid (RdCode w w.heap.size a len) := hc
  clear hc
  go_enter Tryd.func5, Tryd.ntmps5
  go_wp2_with fail
  refine (open_any _ a len cap hs HC.out).mono ?_
  rintro e w1 ⟨rfl, hr1, hb1⟩
  have HR1 : Hid (Rd w1 w.heap.size a len cap) := hr1
  have HB1 : Hid (Below w.heap.size w w1) := hb1
  clear hr1 hb1
  go_wp2_with fail
  refine (once_any _ _ a len cap HR1.out 6 (by omega) (by omega)).mono ?_
  rintro e w2 ⟨v, rfl, hr2, hb2⟩
  have HR2 : Hid (Rd w2 w.heap.size a len cap) := hr2
  have HB2 : Hid (Below w.heap.size w w2) := below_of HB1.out hb2 (Nat.le_refl _) HB1.out.size
  clear hr2 hb2
  cases v
  · go_wp2_with fail
    refine (bytes_any _ _ a len cap HR2.out 40 (by omega) (by omega)).mono ?_
    rintro e w3 ⟨t, rfl, ht, hr3, hb3⟩
    have HB3 : Hid (Below w.heap.size w w3) := below_of HB2.out hb3 (Nat.le_refl _) HB2.out.size
    clear hr3 hb3
    go_wp2
    go_ret
    exact ⟨t, rfl, by omega, HB3.out⟩
  · go_wp2_with fail
    refine (below_pos _ _ a len cap HR2.out 3 (by omega) (by omega)).mono ?_
    rintro e w3 ⟨u, rfl, hu, hr3, hb3⟩
    have HB3 : Hid (Below w.heap.size w w3) := below_of HB2.out hb3 (Nat.le_refl _) HB2.out.size
    clear hr3 hb3
    have HZ : Hid (∀ w, _) := fun w => zeros_any (59 + u) (by omega) w
    rw [show (((59 + u : Nat)) : Int) = 59 + (u : Int) by omega] at HZ
    have hz := zeroStr_size (59 + u)
    generalize zeroStr (59 + u) = z at HZ hz
    go_wp2_with fail
    refine (HZ.out _).mono ?_
    rintro e w4 ⟨rfl, hb4⟩
    go_wp2
    go_ret
    exact ⟨z, rfl, by omega, HB3.out.trans (hb4.mono HB3.out.size)⟩

theorem byteOf_any (w : World) (a : Option Addr) (len cap : Nat) (hs : len ≤ 1048576) (R : Nat) (hc : RdCode w R a len) (i : Int) (hi : 0 ≤ i) (hi2 : i ≤ 1000) :
    Calls Tryd.prog 9 #[.slice a len cap, .int .i64 i] w fun e w' => ∃ v : Nat, e = .returned (.int .i64 v) ∧ v < 256 ∧ w = w' := by
  by_cases h0 : len = 0
  · subst h0
    go_enter Tryd.func9, Tryd.ntmps9
    go_wp2
    go_ret
    exact ⟨0, rfl, by omega, rfl⟩
  · have hm0 := Int.emod_nonneg i (show (len : Int) ≠ 0 by omega)
    have hm1 := Int.emod_lt_of_pos i (show (0 : Int) < (len : Int) by omega)
    obtain ⟨b, off, v, rfl, hbR, hcell, hv⟩ := hc (i % (len : Int)).toNat (by omega)
    have hne : ((len : Int) == 0) = false := by simp; omega
    go_enter Tryd.func9, Tryd.ntmps9
    go_wp2
    go_ret
    exact ⟨v, rfl, hv, rfl⟩

theorem turned_val (xb : UInt8) (v2 : Nat) : ∃ b : UInt8, xb ≠ b ∧ Value.int .u8 (bits BinOp.xor IntKind.u8 (xb.toNat : Int) (IntKind.u8.wrap (IntKind.i64.wrap (1 + (v2 : Int).tmod 255)))) = .int .u8 (b.toNat : Int) := by
  have hnd : IntKind.u8.wrap (IntKind.i64.wrap (1 + (v2 : Int).tmod 255)) = ((1 + v2 % 255 : Nat) : Int) := by
    have h1 : (v2 : Int).tmod 255 = ((v2 % 255 : Nat) : Int) := by rw [Int.tmod_eq_emod_of_nonneg (by omega)]; omega
    rw [h1, IntKind.wrap_i64, IntKind.wrap_u8]
    omega
  have hb := xb.toNat_lt
  have hlt : 1 + v2 % 255 < 256 := by omega
  have hx : xb.toNat ^^^ (1 + v2 % 255) < 256 := Nat.xor_lt_two_pow (n := 8) hb hlt
  rw [hnd, u8_xor_nat xb.toNat (1 + v2 % 255) hb hlt]
  refine ⟨UInt8.ofNat (xb.toNat ^^^ (1 + v2 % 255)), fun e => ?_, ?_⟩
  · have h2 := congrArg UInt8.toNat e
    rw [UInt8.toNat_ofNat', Nat.mod_eq_of_lt hx] at h2
    have h3 : xb.toNat ^^^ 0 = xb.toNat ^^^ (1 + v2 % 255) := by rw [Nat.xor_zero]; exact h2
    have := xor_cancel_left h3
    omega
  · rw [UInt8.toNat_ofNat', Nat.mod_eq_of_lt hx]
def IsRow (k : IntKind) (w : World) (a : Option Addr) (len cap : Nat) (zs : List Int) : Prop :=
  (a = none ∧ len = 0 ∧ cap = 0 ∧ zs = []) ∨
  ∃ x, a = some x ∧ len ≤ cap ∧ cap ≤ maxLen ∧ zs.length = cap ∧ (∀ i, i < zs.length → w.cell? (x.add i) = some (.int k (zs.getD i 0))) ∧ ∀ n ∈ zs, (Lit.int k n).wf = true

set_option linter.unusedVariables false in
theorem walk (a0 : Option Addr) (len0 cap0 : Nat) (z0 : List Int) (w : World) (w0 : IsRow .u8 w a0 len0 cap0 z0) (htab : TabAt w) (hdeep : 0 < w.heap.size) :
    Calls Tryd.prog 3 #[.slice a0 len0 cap0] w fun e w' => e = .returned (.bool true) ∧ Below w.heap.size w w' := by
  have c0 := code_of w0
  clear w0
  have HT : Hid (TabAt w) := htab
  clear htab
  by_cases hb0 : 1048576 < len0
  · go_enter Tryd.func3, Tryd.ntmps3
    go_wp2_with fail
    refine (big_yes _ a0 len0 cap0 hb0).mono ?_
    rintro e w' ⟨rfl, rfl⟩
    go_wp2
    go_ret
    exact ⟨rfl, Below.refl _ _⟩
  have HC : Hid (RdCode w w.heap.size a0 len0) := c0
  clear c0
  go_enter Tryd.func3, Tryd.ntmps3
  go_wp2_with fail
  refine (big_no _ a0 len0 cap0 (by omega)).mono ?_
  rintro e w' ⟨rfl, rfl⟩
  go_wp2_with fail
  refine (draw_sealed _ a0 len0 cap0 (by omega) HC.out).mono ?_
  rintro e w1 ⟨s, rfl, hs, hb⟩
  have HB1 : Hid (Below w.heap.size w w1) := hb
  have HT1 : Hid (TabAt w1) := HT.out.below hb hdeep
  have hd1 : 0 < w1.heap.size := Nat.lt_of_lt_of_le hdeep hb.size
  clear hb
  by_cases hl : 60 < s.size
  · go_wp2_with fail
    refine (impl_sealed_long s _ hl).mono ?_
    rintro e w' ⟨rfl, rfl⟩
    go_wp2_with fail
    refine (spec_sealed_long s _ hl).mono ?_
    rintro e w' ⟨rfl, rfl⟩
    go_wp2_with fail
    refine (spec_sealed_long s _ hl).mono ?_
    rintro e w' ⟨rfl, rfl⟩
    have hl' : (60 : Int) < (s.size : Int) := by omega
    go_wp2
    go_ret
    exact ⟨rfl, HB1.out⟩
  have hl60 : s.size ≤ 60 := by omega
  have hsz := sealedStr_size s hl60
  have hok := sealed_ok s hl60
  have huo := unsealed_of s hl60
  have hp60 := padded_size s hl60
  have hfront := padded_front s
  have htw := sealed_twice s hl60
  have HI : Hid (∀ w, TabAt w → 0 < w.heap.size → _) := fun w ht hd => impl_sealed s w hl60 ht hd
  have HS : Hid (∀ w, _) := fun w => spec_sealed s w hl60
  have HP : Hid (∀ w, TabAt w → 0 < w.heap.size → _) := fun w ht hd => impl_sealed (padded s) w (by omega) ht hd
  have HU : Hid (∀ w, TabAt w → _) := fun w ht => impl_unsealed (sealedStr s) w hsz ht
  rw [htw] at HP
  rw [hok, huo] at HU
  have HNot : Hid (∀ (u : ByteArray) (i : Nat) (b : UInt8) (hi : i < (sealedStr s).data.toList.length), (sealedStr s).data.toList[i] ≠ b → u.data.toList = (sealedStr s).data.toList.set i b → sealedB u = false) :=
    fun u i b hi hne hu => turned_not (sealedStr s) u i b hsz hok hi hne hu
  clear hok huo htw
  generalize sealedStr s = t at HI HS HP HU HNot hsz
  generalize padded s = p at HP HU hp60 hfront
  have htt : (t.toList == t.toList) = true := by simp
  have hss : (s.toList == s.toList) = true := by simp
  have htn : t.toList.isEmpty = false := by
    rw [ByteArray.toList_eq]
    have : t.data.toList.length = 64 := by simpa using hsz
    cases h : t.data.toList with
    | nil => rw [h] at this; simp at this
    | cons _ _ => rfl
  have hz64 : ((t.size : Int) != 64) = false := by simp; omega
  have hz60 : ((p.size : Int) != 60) = false := by simp; omega
  have hsl : ∀ W, (Instr.slice 9 (.string p) none (some (.int .i64 (s.size : Int))) none).run Tryd.prog W = .ok (.string s) W := by
    intro W
    rw [run_slice_string_to_if W 9 p .i64 _ Tryd.underlying9, if_pos (by omega)]
    rw [show ((s.size : Int)).toNat = s.size by omega, hfront]
  have HSZ : Hid (t.size = 64) := hsz
  have HP60 : Hid (p.size = 60) := hp60
  clear hsz hp60 hfront
  go_wp2_with fail
  refine (HI.out _ HT1.out hd1).mono ?_
  rintro e w2 ⟨rfl, hb⟩
  have HB2 : Hid (Below w.heap.size w w2) := HB1.out.trans (hb.mono HB1.out.size)
  have HT2 : Hid (TabAt w2) := HT1.out.below hb hd1
  have hd2 : 0 < w2.heap.size := Nat.lt_of_lt_of_le hd1 hb.size
  clear hb
  go_wp2_with fail
  refine (HS.out _).mono ?_
  rintro e w3 ⟨rfl, hb⟩
  have HB3 : Hid (Below w.heap.size w w3) := HB2.out.trans (hb.mono HB2.out.size)
  have HT3 : Hid (TabAt w3) := HT2.out.below hb hd2
  have hd3 : 0 < w3.heap.size := Nat.lt_of_lt_of_le hd2 hb.size
  clear hb
  go_wp2_with fail
  refine (HU.out _ HT3.out).mono ?_
  rintro e w4 ⟨rfl, hb⟩
  have HB4 : Hid (Below w.heap.size w w4) := HB3.out.trans (hb.mono HB3.out.size)
  have HT4 : Hid (TabAt w4) := HT3.out.below hb hd3
  have hd4 : 0 < w4.heap.size := Nat.lt_of_lt_of_le hd3 hb.size
  clear hb
  go_wp2_with fail
  refine (HP.out _ HT4.out hd4).mono ?_
  rintro e w5 ⟨rfl, hb⟩
  have HB5 : Hid (Below w.heap.size w w5) := HB4.out.trans (hb.mono HB4.out.size)
  have HT5 : Hid (TabAt w5) := HT4.out.below hb hd4
  have hd5 : 0 < w5.heap.size := Nat.lt_of_lt_of_le hd4 hb.size
  clear hb hsl
  have hrt := run_told t
  have htb := told_below w5 t
  have hby := told_bytes w5 t
  have hts := told_size w5 t
  generalize hW : told w5 t = w6 at htb hby hts
  have HB6 : Hid (Below w.heap.size w w6) := HB5.out.trans (htb.mono HB5.out.size)
  have HT6 : Hid (TabAt w6) := HT5.out.below htb hd5
  have hd6 : 0 < w6.heap.size := by omega
  have hrt5 := hrt w5
  rw [hW] at hrt5
  generalize capOf w5 t = cp at hrt5
  have HBY : Hid (Bytes w6 w5.heap.size t.data.toList) := hby
  have HHS : Hid (w6.heap.size = w5.heap.size + 1) := hts
  clear hW hrt htb hby hts
  have h65 : w5.heap.size < w6.heap.size := by have := HHS.out; omega
  have HC6 : Hid (RdCode w6 w.heap.size a0 len0) := HC.out.below HB6.out (Nat.le_refl _)
  have hlen : t.data.toList.length = 64 := by have := HSZ.out; simpa using this
  go_wp2_with fail
  refine (byteOf_any _ a0 len0 cap0 (by omega) _ HC6.out 1 (by omega) (by omega)).mono ?_
  rintro e w' ⟨v1, rfl, hv1, rfl⟩
  have hi64 : v1 % 64 < 64 := Nat.mod_lt _ (by omega)
  obtain ⟨at1, hat⟩ : ∃ at1 : Nat, at1 = v1 % 64 := ⟨_, rfl⟩
  have hate : (v1 : Int) % 64 = (at1 : Int) := by omega
  rw [← hat] at hi64
  have hatl : at1 < t.size := by have := HSZ.out; omega
  have hla : at1 < t.data.toList.length := by omega
  have hb := HBY.out at1 hla
  obtain ⟨hcell, hfrz⟩ := hb
  have hxb := t.data.toList[at1].toNat_lt
  obtain ⟨xb, hxe⟩ : ∃ xb : UInt8, xb = t.data.toList[at1] := ⟨_, rfl⟩
  rw [← hxe] at hcell hxb
  have HXE : Hid (xb = t.data.toList[at1]) := hxe
  have HAT : Hid (at1 = v1 % 64) := hat
  clear hat hxe hlen
  have hatl' : (at1 : Int) < (t.size : Int) := by omega
  have HC7 : Hid (RdCode w6.drew w.heap.size a0 len0) := HC6.out
  go_wp2
  go_region_with (go_at_call 9; refine (byteOf_any w6.drew a0 len0 cap0 (by omega) _ HC7.out 2 (by omega) (by omega)).mono ?_; rintro e w' ⟨v2, rfl, hv2, rfl⟩)
  all_goals
    obtain ⟨b', hne, hval⟩ := turned_val xb v2
    rw [hval]
    have hby : Bytes (w6.setCell ⟨w5.heap.size, at1, none⟩ (.int .u8 (b'.toNat : Int))).drew w5.heap.size (t.data.toList.set at1 b') := HBY.out.set at1 hla b' _ rfl
    have hbl : Below w.heap.size w6 (w6.setCell ⟨w5.heap.size, at1, none⟩ (.int .u8 (b'.toNat : Int))).drew := ((Below.refl _ _).setCell (p := ⟨w5.heap.size, at1, none⟩) HB5.out.size _).drew
    have hb1 : Below 1 w6 (w6.setCell ⟨w5.heap.size, at1, none⟩ (.int .u8 (b'.toNat : Int))).drew := ((Below.refl _ _).setCell (p := ⟨w5.heap.size, at1, none⟩) hd5 _).drew
    generalize (w6.setCell ⟨w5.heap.size, at1, none⟩ (.int .u8 (b'.toNat : Int))).drew = w7 at hby hbl hb1
    have HB7 : Hid (Below w.heap.size w w7) := HB6.out.trans hbl
    have HT7 : Hid (TabAt w7) := fun i hi => by rw [hb1.cell (p := ⟨0, i, none⟩) (by show 0 < 1; omega)]; exact HT6.out i hi
    have hcv := hby.text cp
    have hl2 : (t.data.toList.set at1 b').length = t.size := by simp
    rw [hl2] at hcv
    have hnot := HNot.out ⟨(t.data.toList.set at1 b').toArray⟩ at1 b' hla (by rw [← HXE.out]; exact hne) rfl
    have hz7 : (ByteArray.mk (t.data.toList.set at1 b').toArray).size = 64 := by
      have := HSZ.out
      show (t.data.toList.set at1 b').toArray.size = 64
      simp; exact this
    generalize ByteArray.mk (t.data.toList.set at1 b').toArray = u at hcv hnot hz7
    have HQ : Hid (∀ w, TabAt w → _) := fun w ht => impl_unsealed u w hz7 ht
    rw [hnot] at HQ
    generalize unsealedOf u = q at HQ
    clear hby hbl hb1 hl2 hnot hz7 hval hcell hfrz hrt5
    go_wp2_with fail
    refine (HQ.out _ HT7.out).mono ?_
    rintro e w8 ⟨rfl, hb⟩
    have HB8 : Hid (Below w.heap.size w w8) := HB7.out.trans (hb.mono HB7.out.size)
    clear hb hcv
    go_wp2
    go_ret
    exact ⟨rfl, HB8.out⟩

set_option maxRecDepth 100000 in
theorem lifted (os : Os) (started : os.Started) (H : Type) (enc : TypeId × Value → H) :
    ReturnsInHanded {} Tryd.checked os 3 .any (fun w args => (Rows.fnSealedSpec.pre enc Tryd.prog Tryd.f3 [] false w args ∧ laidMetH Tryd.prog Rows.fnSealedRow.laid w) ∧ sizedMet enc Tryd.prog Tryd.f3 (OpenSpec.ofChange Rows.fnSealedSpec) false w args)
      (Rows.fnSealedSpec.post enc Tryd.prog Tryd.f3 false true false false) := by
  refine returnsInHanded_of_change_and (C := Tryd.checked) (X := fun w _ => laidMetH Tryd.prog Rows.fnSealedRow.laid w) (fun _ _ _ hh h => h.of_heap hh) own started (by kernel_rfl) Tryd.func3
    (ChangeSpec.witness_shaped (enc := enc) (C := Tryd.checked) (os := os) (X := fun w _ => laidMetH Tryd.prog Rows.fnSealedRow.laid w) false (World.doorLaid Tryd.prog 400 os) #[.slice none 0 0] 8 rfl (World.shaped_of_RefB (by kernel_rfl) (by kernel_rfl)) (by kernel_rfl) (by kernel_rfl) (by kernel_rfl) (door_met os _)) ?_
  intro W base args ds gs before hval0 hW _ _ hL _
  have hval : ∀ (j : Nat) t v, Tryd.f3.params[j]? = some t → args[j]? = some v → Value.okWide Tryd.prog W .any base t v := hval0
  have hW' := hW
  obtain ⟨p, q, hA0, hV0, rfl, hfz, hnd⟩ := hW
  have hA : DataW.TrodAll enc Tryd.prog W 0 (fun _ => true) true Tryd.f3.params.toList args.toList ds p := hA0
  have hV : DataW.TrodVars enc Tryd.prog W (fun _ => true) [nm] gs q := hV0
  rw [Tryd.params3] at hA hval
  obtain ⟨v0, d0, rfl, rfl, h0⟩ := trodAll_one hA
  obtain ⟨a0, len0, cap0, rfl⟩ := okWide_slice Tryd.underlying22 (hval 0 22 v0 rfl rfl)
  have k0 := h0
  have lt0 : ∀ x ∈ p, x.block < W.heap.size := by obtain ⟨m, hm⟩ := k0; exact DataW.trod_lt m _ _ _ hm
  obtain ⟨z0, w0⟩ : ∃ zs, IsRow .u8 W a0 len0 cap0 zs := by
    obtain ⟨fuel, hf⟩ := h0
    rcases open_ints Tryd.underlying22 Tryd.underlying5 (by kernel_rfl) hf with ⟨hcs, _⟩ | ⟨x, l, c, zs, hcs, _, hl, hm, hz, _, hcell, hwz⟩
    · simp [Value.cells] at hcs
      obtain ⟨rfl, rfl, rfl⟩ := hcs
      exact ⟨[], .inl ⟨rfl, rfl, rfl, rfl⟩⟩
    · simp [Value.cells] at hcs
      obtain ⟨rfl, rfl, rfl⟩ := hcs
      exact ⟨zs, .inr ⟨_, rfl, hl, hm, by simpa using hz, hcell, hwz⟩⟩
  obtain ⟨g, t, cs, fuel, d, p', rfl, hg, ht, hvar, hd, rfl⟩ := trodVars_one hV
  obtain rfl := Option.some.inj (gTab.symm.trans hg)
  obtain rfl := Option.some.inj (tTab.symm.trans ht)
  obtain rfl : cs = cs16 := Option.some.inj (hvar.symm.trans (tab_of hL))
  obtain ⟨rfl, rfl⟩ := DataW.Trod.unique (v := .agg cs16) ⟨fuel, hd⟩ ⟨3, reads_table enc W _⟩
  have hdeep : 0 < W.heap.size := by
    have := World.block_lt_of_cell? W _ (tabAt_of hvar 0 (by omega))
    simpa using this
  clear hA0 hV0 hval0
  refine (walk a0 len0 cap0 z0 W w0 (tabAt_of hvar) hdeep).mono fun e W' ⟨he, bel⟩ => ?_
  subst he
  exact ⟨_, rfl, _, _, _, [], p, MemPlace.row ⟨0, 0, none⟩ cs16.size ++ [], hW', trodAll_mk1 (shut_bool Tryd.underlying4 _), trodAll_mk1 (Below.trod laidOut (by kernel_rfl) (of_decide_eq_true (by kernel_rfl)) k0 bel lt0), trodVars_mk1 gTab tTab (var?_below bel gTab hdeep hvar) (reads_table enc W' _), bel.frame _, fun h => by cases h⟩

theorem over : Rows.FnSealedSaid :=
  OpenClaim.holds_of_wide 3 Tryd.f3 rfl rfl rfl rfl rfl rfl rfl ⟨rfl, rfl, rfl, rfl, rfl⟩ rfl rfl rfl rfl rfl (by kernel_rfl) Tryd.func3 (by kernel_rfl)
    (of_decide_eq_true (by kernel_rfl)) (by unfold Func.isWrapper; first | (rw [if_pos (by decide +kernel)]; kernel_rfl) | (rw [if_neg (by decide +kernel)]; exact ⟨rfl, rfl⟩))
    (fun os started H enc _ => lifted os started H enc)

theorem card : Rows.FnSealedCardSaid :=
  Claim7.holds_tied_plain_at .later [] [.data] true (true, "a879c3a855aed4681a00e0cafb5f2faabdce4c3fdc85ba351916a2e6b8b50832") false
    over (fun _ h => by cases h) (by kernel_rfl) (fun _ h => by cases h) fnSealed_row_tie rfl ⟨rfl, rfl⟩ (by kernel_rfl) rfl
    (fun f fn hf hfn => by
      obtain rfl : f = 3 := Option.some.inj ((show Tryd.prog.funcNamed Rows.fnSealedRow.func = some 3 by kernel_rfl).symm.trans hf) |>.symm
      obtain rfl : fn = Tryd.f3 := (Option.some.inj (Tryd.func3.symm.trans hfn)).symm
      exact ⟨by kernel_rfl, fun j t ht => by
        rw [Tryd.params3] at ht
        have h3 : t = 22 := by
          rcases j with _ | j
          · simpa using ht.symm
          · simp at ht
        subst h3
        exact (show Tryd.prog.wantsStandIn 22 = false by kernel_rfl)⟩)
    (by kernel_rfl)
#print axioms card
end Go.Proofs.YteafgnggmpjdmaaDoor.fnSealed
