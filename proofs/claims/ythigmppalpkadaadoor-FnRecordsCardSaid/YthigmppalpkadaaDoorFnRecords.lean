/-
  FnRecords: at every code the law that a record comes back from its line, and what is read, written again, has just its bytes, returns true for what is drawn of it, and the code and the program's table read as before; the table reads as the program's own text lays it (tied).
-/
import Derived.Test.YthigmppalpkadaaDoorCards
import Derived.Test.YthigmppalpkadaaDoorTie
import Derived.Test.YthigmppalpkadaaDoorRecMath
import Derived.ProofKit
import Derived.LaidMore
import Derived.OpenShut
import Derived.Stop.Joined
import Derived.Lib.LaidTab
import Derived.WalkSmall
import Derived.ShutString
import Derived.ChangeVars
import Derived.MakeChecks
import Derived.SevenTiedAt
import Derived.ChangeOld
import Derived.Below
namespace Go.Proofs.YthigmppalpkadaaDoor.fnRecords
open Go.ChangeShapes Go.WideShapes Go.ChangeAt Go.RowKit
open Go.ChangeMaps (open_string shut_string)
open crc rd

theorem laidOut : laidOutB Tryd.prog = true := by kernel_rfl
theorem own : ownKnob Tryd.prog.godebug = none := by kernel_rfl
def nm : String := Rows.fnRecordsSpec.vars.headD ""
theorem gTab : Tryd.prog.globalNamed nm = some 0 := by kernel_rfl
theorem tTab : (Tryd.prog.globals[0]?).map (·.type) = some 91 := by kernel_rfl
def zs : List Int := [0, 498536548, 997073096, 651767980, 1994146192, 1802195444, 1303535960, 1342533948, 3988292384, 4027552580, 3604390888, 3412177804, 2607071920, 2262029012, 2685067896, 3183342108]
def cs16 : Array Value := (zs.map fun z => Value.int .u32 z).toArray

theorem tab_of {W : World} (h : laidMetH Tryd.prog Rows.fnRecordsRow.laid W) : W.var? Tryd.prog nm = some cs16 := by
  rw [MakeChecks.laidMetH_plain _ _ _ (by kernel_rfl)] at h
  have h' : laidMet Tryd.prog ((nm, Lib.tabData .u32 zs) :: []) W := h
  exact Lib.tabIs_of_head gTab tTab Tryd.underlying91 Tryd.underlying90 (by kernel_rfl) (by kernel_rfl) h'
theorem tabAt_of {W : World} (h : W.var? Tryd.prog nm = some cs16) : TabAt W := by
  intro i hi
  rw [World.var?_cell gTab h i]
  have : ∀ i, i < 16 → cs16[i]? = some (Value.int .u32 (tab i)) := by
    intro i hi
    have hc : i = 0 ∨ i = 1 ∨ i = 2 ∨ i = 3 ∨ i = 4 ∨ i = 5 ∨ i = 6 ∨ i = 7 ∨ i = 8 ∨ i = 9 ∨ i = 10 ∨ i = 11 ∨ i = 12 ∨ i = 13 ∨ i = 14 ∨ i = 15 := by omega
    rcases hc with rfl | rfl | rfl | rfl | rfl | rfl | rfl | rfl | rfl | rfl | rfl | rfl | rfl | rfl | rfl | rfl <;> rfl
  exact this i hi
theorem reads_table {H : Type} (enc : TypeId × Value → H) (W : World) (sp : Nat → Bool) : DataW.trod enc Tryd.prog W 0 sp true 3 91 cs16.toList = some (Lib.tabData .u32 zs, []) := by kernel_rfl
theorem door_met (os : Os) (args : Array Value) : laidMetH Tryd.prog Rows.fnRecordsRow.laid ((World.doorLaid Tryd.prog 400 os).forCall (fun _ _ => 0) ⟨#[], args, []⟩).memory :=
  laidMetH_of_parts3 (fuel := 8) (laidMet_of_run' 8 (by kernel_rfl) (by kernel_rfl)) (by kernel_rfl) (by kernel_rfl)


def IsRow (k : IntKind) (w : World) (a : Option Addr) (len cap : Nat) (zs : List Int) : Prop :=
  (a = none ∧ len = 0 ∧ cap = 0 ∧ zs = []) ∨
  ∃ x, a = some x ∧ len ≤ cap ∧ cap ≤ maxLen ∧ zs.length = cap ∧ (∀ i, i < zs.length → w.cell? (x.add i) = some (.int k (zs.getD i 0))) ∧ ∀ n ∈ zs, (Lit.int k n).wf = true

set_option linter.unusedVariables false in
theorem walk (a0 : Option Addr) (len0 cap0 : Nat) (z0 : List Int) (w : World) (w0 : IsRow .u8 w a0 len0 cap0 z0) (htab : TabAt w) (hdeep : 0 < w.heap.size) :
    Calls Tryd.prog 4 #[.slice a0 len0 cap0] w fun e w' => e = .returned (.bool true) ∧ Below w.heap.size w w' := by
  have c0 := code_of w0
  clear w0
  have HT : Hid (TabAt w) := htab
  clear htab
  by_cases hb0 : 1048576 < len0
  · go_enter Tryd.func4, Tryd.ntmps4
    go_wp2_with fail
    refine (big_yes _ a0 len0 cap0 hb0).mono ?_
    rintro e w' ⟨rfl, rfl⟩
    go_wp2
    go_ret
    exact ⟨rfl, Below.refl _ _⟩
  have HC : Hid (RdCode w w.heap.size a0 len0) := c0
  clear c0
  have HTT : Hid (∀ w', Below w.heap.size w w' → TabAt w' ∧ 0 < w'.heap.size) := fun w' h => ⟨HT.out.below h hdeep, Nat.lt_of_lt_of_le hdeep h.size⟩
  go_enter Tryd.func4, Tryd.ntmps4
  go_wp2_with fail
  refine (big_no _ a0 len0 cap0 (by omega)).mono ?_
  rintro e w' ⟨rfl, rfl⟩
  go_wp2_with fail
  refine (draw_record _ a0 len0 cap0 (by omega) HC.out).mono ?_
  rintro x w1 ⟨e, s, h, o, rfl, ho, hb⟩
  obtain ⟨W1, hW⟩ : ∃ W, W = w1.alloc (.cells #[.int .i64 e, .int .i64 s, .int .i64 h, .string o] 35) := ⟨_, rfl⟩
  obtain ⟨b1, hb1⟩ : ∃ b, b = w1.heap.size := ⟨_, rfl⟩
  have HA1 : Hid (Rec W1 b1 e s h o) := by show Rec W1 b1 e s h o; rw [hW, hb1]; exact Rec.new _ _ _ _ _ _
  have HB1 : Hid (Below w.heap.size w W1) := by show Below w.heap.size w W1; rw [hW]; exact hb.alloc hb.size _
  have HW1 : Hid (W1 = w1.alloc (.cells #[.int .i64 e, .int .i64 s, .int .i64 h, .string o] 35)) := hW
  have HN1 : Hid (b1 = w1.heap.size) := hb1
  clear hW hb1 hb
  have HIR : Hid (∀ w, TabAt w → 0 < w.heap.size → Calls _ _ _ w _) := fun w q1 q2 => impl_record w e s h o (by omega) q1 q2
  have HSR : Hid (∀ w, Calls _ _ _ w _) := fun w => spec_record w e s h o (by omega)
  have HIN : Hid (recOk e s h o = true → (recStr e s h o).size = 64 ∧ rrB (recStr e s h o) = true ∧ rrV (recStr e s h o) = .agg #[.int .i64 e, .int .i64 s, .int .i64 h, .string o]) := rec_in
  have HOUT : Hid (recOk e s h o = false → recStr e s h o = ⟨#[]⟩ ∧ rrB (recStr e s h o) = false) := rec_out
  have HZR : Hid (∀ w, TabAt w → 0 < w.heap.size → Calls _ _ _ w _) := fun w q1 q2 => impl_rr (recStr e s h o) w q1 q2
  obtain ⟨ze, zs, zh, zo, hzv, _, _⟩ := rr_val (t := recStr e s h o)
  have HZV : Hid (rrV (recStr e s h o) = .agg #[.int .i64 ze, .int .i64 zs, .int .i64 zh, .string zo]) := hzv
  rw [hzv] at HZR
  clear hzv ho
  generalize recStr e s h o = l at HIR HSR HIN HOUT HZR HZV
  generalize rrB l = ok at HIN HOUT HZR
  have ⟨_, a0, a1, a2, a3, _⟩ := HA1.out
  go_wp2_with (rw [← HW1.out, ← HN1.out])
  refine (HIR.out _ (HTT.out _ HB1.out).1 (HTT.out _ HB1.out).2).mono ?_
  rintro x w2 ⟨rfl, hb⟩
  have HA2 : Hid (Rec w2 b1 e s h o) := HA1.out.below hb
  have HB2 : Hid (Below w.heap.size w w2) := HB1.out.trans (hb.mono HB1.out.size)
  clear hb HW1 HN1 HA1 HB1 HIR a0 a1 a2 a3
  go_wp2_with fail
  refine (draw_read_record _ a0 len0 cap0 (by omega) (HC.out.below HB2.out HB2.out.size)).mono ?_
  rintro x w3 ⟨t, rfl, ht, hb⟩
  have HA3 : Hid (Rec w3 b1 e s h o) := HA2.out.below hb
  have HB3 : Hid (Below w.heap.size w w3) := HB2.out.trans (hb.mono HB2.out.size)
  clear hb HA2 HB2 HC
  obtain ⟨xe, xs, xh, xo, hxv, hxs, hxt⟩ := rr_val (t := t)
  have HI : Hid (∀ w, TabAt w → 0 < w.heap.size → Calls _ _ _ w _) := fun w q1 q2 => impl_rr t w q1 q2
  have HS : Hid (∀ w, Calls _ _ _ w _) := fun w => spec_rr t w (by omega)
  have HXR : Hid (∀ w, TabAt w → 0 < w.heap.size → Calls _ _ _ w _) := fun w q1 q2 => impl_record w xe xs xh xo hxs q1 q2
  have HXT : Hid (rrB t = true → recStr xe xs xh xo = t) := hxt
  rw [hxv] at HI HS
  clear hxv hxs hxt ht
  generalize rrB t = is at HI HS HXT
  generalize recStr xe xs xh xo = xl at HXR HXT
  go_wp2_with fail
  refine (HI.out _ (HTT.out _ HB3.out).1 (HTT.out _ HB3.out).2).mono ?_
  rintro x w4 ⟨rfl, hb⟩
  have HA4 : Hid (Rec w4 b1 e s h o) := HA3.out.below hb
  have HB4 : Hid (Below w.heap.size w w4) := HB3.out.trans (hb.mono HB3.out.size)
  clear hb HA3 HB3
  obtain ⟨W4, hW⟩ : ∃ W, W = w4.alloc (.cells #[.int .i64 xe, .int .i64 xs, .int .i64 xh, .string xo] 35) := ⟨_, rfl⟩
  obtain ⟨b2, hb2⟩ : ∃ b, b = w4.heap.size := ⟨_, rfl⟩
  have hbl : Below w4.heap.size w4 W4 := by rw [hW]; exact (Below.refl _ _).alloc (Nat.le_refl _) _
  have HX5 : Hid (Rec W4 b2 xe xs xh xo) := by show Rec W4 b2 xe xs xh xo; rw [hW, hb2]; exact Rec.new _ _ _ _ _ _
  have HA5 : Hid (Rec W4 b1 e s h o) := HA4.out.below hbl
  have HB5 : Hid (Below w.heap.size w W4) := HB4.out.trans (hbl.mono HB4.out.size)
  have HW4 : Hid (W4 = w4.alloc (.cells #[.int .i64 xe, .int .i64 xs, .int .i64 xh, .string xo] 35)) := hW
  have HN2 : Hid (b2 = w4.heap.size) := hb2
  clear hW hb2 hbl HA4 HB4
  go_wp2_with (rw [← HW4.out, ← HN2.out])
  refine (HS.out _).mono ?_
  rintro x w5 ⟨rfl, hb⟩
  have HA6 : Hid (Rec w5 b1 e s h o) := HA5.out.below hb
  have HX6 : Hid (Rec w5 b2 xe xs xh xo) := HX5.out.below hb
  have HB6 : Hid (Below w.heap.size w w5) := HB5.out.trans (hb.mono HB5.out.size)
  clear hb HA5 HX5 HB5 HW4 HN2 HI HS
  obtain ⟨W5, hW⟩ : ∃ W, W = w5.alloc (.cells #[.int .i64 xe, .int .i64 xs, .int .i64 xh, .string xo] 35) := ⟨_, rfl⟩
  obtain ⟨b3, hb3⟩ : ∃ b, b = w5.heap.size := ⟨_, rfl⟩
  have hbl : Below w5.heap.size w5 W5 := by rw [hW]; exact (Below.refl _ _).alloc (Nat.le_refl _) _
  have HY7 : Hid (Rec W5 b3 xe xs xh xo) := by show Rec W5 b3 xe xs xh xo; rw [hW, hb3]; exact Rec.new _ _ _ _ _ _
  have HA7 : Hid (Rec W5 b1 e s h o) := HA6.out.below hbl
  have HX7 : Hid (Rec W5 b2 xe xs xh xo) := HX6.out.below hbl
  have HB7 : Hid (Below w.heap.size w W5) := HB6.out.trans (hbl.mono HB6.out.size)
  have HW5 : Hid (W5 = w5.alloc (.cells #[.int .i64 xe, .int .i64 xs, .int .i64 xh, .string xo] 35)) := hW
  have HN3 : Hid (b3 = w5.heap.size) := hb3
  clear hW hb3 hbl
  have s3 : (l.toList == l.toList) = true := by simp
  have s4 : (is != is) = false := by simp
  have ⟨_, a0, a1, a2, a3, _⟩ := HA7.out
  clear HA6 HX6 HB6
  go_wp2_with (rw [← HW5.out, ← HN3.out])
  refine (HSR.out _).mono ?_
  rintro x w6 ⟨rfl, hb⟩
  have HA8 : Hid (Rec w6 b1 e s h o) := HA7.out.below hb
  have HX8 : Hid (Rec w6 b2 xe xs xh xo) := HX7.out.below hb
  have HY8 : Hid (Rec w6 b3 xe xs xh xo) := HY7.out.below hb
  have HB8 : Hid (Below w.heap.size w w6) := HB7.out.trans (hb.mono HB7.out.size)
  clear hb HA7 HX7 HY7 HB7 HW5 HN3 HSR a0 a1 a2 a3
  have ⟨_, x0, x1, x2, x3, _⟩ := HX8.out
  have ⟨_, y0, y1, y2, y3, _⟩ := HY8.out
  cases is with
  | true =>
    have hxl : xl = t := HXT.out rfl
    subst hxl
    have s5 : (xl.toList == xl.toList) = true := by simp
    go_wp2_with fail
    refine (HXR.out _ (HTT.out _ HB8.out).1 (HTT.out _ HB8.out).2).mono ?_
    rintro x w7 ⟨rfl, hb⟩
    have HA9 : Hid (Rec w7 b1 e s h o) := HA8.out.below hb
    have HB9 : Hid (Below w.heap.size w w7) := HB8.out.trans (hb.mono HB8.out.size)
    clear hb HA8 HB8 HX8 HY8 x0 x1 x2 x3 y0 y1 y2 y3 HXR HXT
    go_wp2_with fail
    refine (HZR.out _ (HTT.out _ HB9.out).1 (HTT.out _ HB9.out).2).mono ?_
    rintro x w8 ⟨rfl, hb⟩
    have HA10 : Hid (Rec w8 b1 e s h o) := HA9.out.below hb
    have HB10 : Hid (Below w.heap.size w w8) := HB9.out.trans (hb.mono HB9.out.size)
    clear hb HA9 HB9
    have HB11 : Hid (∀ q, Below w.heap.size w (w8.alloc q)) := fun q => HB10.out.alloc HB10.out.size q
    have ⟨hlt, a0, a1, a2, a3, _⟩ := HA10.out
    have hne8 : w8.heap.size ≠ b1 := by omega
    cases hr : recOk e s h o with
    | true =>
      obtain ⟨k1, k2, k3⟩ := HIN.out hr
      rw [HZV.out] at k3
      injection k3 with k3
      injection k3 with k3
      simp only [List.cons.injEq, Value.int.injEq, Value.string.injEq, true_and, and_true] at k3
      obtain ⟨rfl, rfl, rfl, rfl⟩ := k3
      subst k2
      have hme : (l.toList == ([] : List UInt8)) = false := by
        rw [ByteArray.toList_eq]
        have : l.data.toList.length = 64 := by simpa using k1
        cases hl : l.data.toList with
        | nil => rw [hl] at this; cases this
        | cons _ _ => rfl
      have hls : ((l.size : Int) == 64) = true := by simp; omega
      clear HIN HOUT HZV hr k1 HZR
      go_wp2
      go_ret
      exact ⟨rfl, HB11.out _⟩
    | false =>
      obtain ⟨k1, k2⟩ := HOUT.out hr
      subst k1
      subst k2
      clear HIN HOUT HZV hr HZR
      go_wp2
      go_ret
      exact ⟨rfl, HB11.out _⟩
  | false =>
    clear HXT HXR
    have HA9 : Hid (Rec w6 b1 e s h o) := HA8.out
    have HB9 : Hid (Below w.heap.size w w6) := HB8.out
    clear HA8 HB8 HX8 HY8
    go_wp2_with fail
    refine (HZR.out _ (HTT.out _ HB9.out).1 (HTT.out _ HB9.out).2).mono ?_
    rintro x w8 ⟨rfl, hb⟩
    have HA10 : Hid (Rec w8 b1 e s h o) := HA9.out.below hb
    have HB10 : Hid (Below w.heap.size w w8) := HB9.out.trans (hb.mono HB9.out.size)
    clear hb HA9 HB9
    have HB11 : Hid (∀ q, Below w.heap.size w (w8.alloc q)) := fun q => HB10.out.alloc HB10.out.size q
    have ⟨hlt, a0, a1, a2, a3, _⟩ := HA10.out
    have hne8 : w8.heap.size ≠ b1 := by omega
    cases hr : recOk e s h o with
    | true =>
      obtain ⟨k1, k2, k3⟩ := HIN.out hr
      rw [HZV.out] at k3
      injection k3 with k3
      injection k3 with k3
      simp only [List.cons.injEq, Value.int.injEq, Value.string.injEq, true_and, and_true] at k3
      obtain ⟨rfl, rfl, rfl, rfl⟩ := k3
      subst k2
      have hme : (l.toList == ([] : List UInt8)) = false := by
        rw [ByteArray.toList_eq]
        have : l.data.toList.length = 64 := by simpa using k1
        cases hl : l.data.toList with
        | nil => rw [hl] at this; cases this
        | cons _ _ => rfl
      have hls : ((l.size : Int) == 64) = true := by simp; omega
      clear HIN HOUT HZV hr k1 HZR
      go_wp2
      go_ret
      exact ⟨rfl, HB11.out _⟩
    | false =>
      obtain ⟨k1, k2⟩ := HOUT.out hr
      subst k1
      subst k2
      clear HIN HOUT HZV hr HZR
      go_wp2
      go_ret
      exact ⟨rfl, HB11.out _⟩

set_option maxRecDepth 100000 in
theorem lifted (os : Os) (started : os.Started) (H : Type) (enc : TypeId × Value → H) :
    ReturnsInHanded {} Tryd.checked os 4 .any (fun w args => (Rows.fnRecordsSpec.pre enc Tryd.prog Tryd.f4 [] false w args ∧ laidMetH Tryd.prog Rows.fnRecordsRow.laid w) ∧ sizedMet enc Tryd.prog Tryd.f4 (OpenSpec.ofChange Rows.fnRecordsSpec) false w args)
      (Rows.fnRecordsSpec.post enc Tryd.prog Tryd.f4 false true false false) := by
  refine returnsInHanded_of_change_and (C := Tryd.checked) (X := fun w _ => laidMetH Tryd.prog Rows.fnRecordsRow.laid w) (fun _ _ _ hh h => h.of_heap hh) own started (by kernel_rfl) Tryd.func4
    (ChangeSpec.witness_shaped (enc := enc) (C := Tryd.checked) (os := os) (X := fun w _ => laidMetH Tryd.prog Rows.fnRecordsRow.laid w) false (World.doorLaid Tryd.prog 400 os) #[.slice none 0 0] 8 rfl (World.shaped_of_RefB (by kernel_rfl) (by kernel_rfl)) (by kernel_rfl) (by kernel_rfl) (by kernel_rfl) (door_met os _)) ?_
  intro W base args ds gs before hval0 hW _ _ hL _
  have hval : ∀ (j : Nat) t v, Tryd.f4.params[j]? = some t → args[j]? = some v → Value.okWide Tryd.prog W .any base t v := hval0
  have hW' := hW
  obtain ⟨p, q, hA0, hV0, rfl, hfz, hnd⟩ := hW
  have hA : DataW.TrodAll enc Tryd.prog W 0 (fun _ => true) true Tryd.f4.params.toList args.toList ds p := hA0
  have hV : DataW.TrodVars enc Tryd.prog W (fun _ => true) [nm] gs q := hV0
  rw [Tryd.params4] at hA hval
  obtain ⟨v0, d0, rfl, rfl, h0⟩ := trodAll_one hA
  obtain ⟨a0, len0, cap0, rfl⟩ := okWide_slice Tryd.underlying22 (hval 0 22 v0 rfl rfl)
  have k0 := h0
  have lt0 : ∀ x ∈ p, x.block < W.heap.size := by obtain ⟨m, hm⟩ := k0; exact DataW.trod_lt m _ _ _ hm
  obtain ⟨z0, w0⟩ : ∃ zs, IsRow .u8 W a0 len0 cap0 zs := by
    obtain ⟨fuel, hf⟩ := h0
    rcases open_ints Tryd.underlying22 Tryd.underlying5 (by kernel_rfl) hf with ⟨hcs, _⟩ | ⟨x, l, c, zs, hcs, _, hl, hm, hz, _, hcell, hwz⟩
    · simp [Value.cells] at hcs
      obtain ⟨rfl, rfl, rfl⟩ := hcs
      exact ⟨[], .inl ⟨rfl, rfl, rfl, rfl⟩⟩
    · simp [Value.cells] at hcs
      obtain ⟨rfl, rfl, rfl⟩ := hcs
      exact ⟨zs, .inr ⟨_, rfl, hl, hm, by simpa using hz, hcell, hwz⟩⟩
  obtain ⟨g, t, cs, fuel, d, p', rfl, hg, ht, hvar, hd, rfl⟩ := trodVars_one hV
  obtain rfl := Option.some.inj (gTab.symm.trans hg)
  obtain rfl := Option.some.inj (tTab.symm.trans ht)
  obtain rfl : cs = cs16 := Option.some.inj (hvar.symm.trans (tab_of hL))
  obtain ⟨rfl, rfl⟩ := DataW.Trod.unique (v := .agg cs16) ⟨fuel, hd⟩ ⟨3, reads_table enc W _⟩
  have hdeep : 0 < W.heap.size := by
    have := World.block_lt_of_cell? W _ (tabAt_of hvar 0 (by omega))
    simpa using this
  clear hA0 hV0 hval0
  refine (walk a0 len0 cap0 z0 W w0 (tabAt_of hvar) hdeep).mono fun e W' ⟨he, bel⟩ => ?_
  subst he
  exact ⟨_, rfl, _, _, _, [], p, MemPlace.row ⟨0, 0, none⟩ cs16.size ++ [], hW', trodAll_mk1 (shut_bool Tryd.underlying4 _), trodAll_mk1 (Below.trod laidOut (by kernel_rfl) (of_decide_eq_true (by kernel_rfl)) k0 bel lt0), trodVars_mk1 gTab tTab (var?_below bel gTab hdeep hvar) (reads_table enc W' _), bel.frame _, fun h => by cases h⟩

theorem over : Rows.FnRecordsSaid :=
  OpenClaim.holds_of_wide 4 Tryd.f4 rfl rfl rfl rfl rfl rfl rfl ⟨rfl, rfl, rfl, rfl, rfl⟩ rfl rfl rfl rfl rfl (by kernel_rfl) Tryd.func4 (by kernel_rfl)
    (of_decide_eq_true (by kernel_rfl)) (by unfold Func.isWrapper; first | (rw [if_pos (by decide +kernel)]; kernel_rfl) | (rw [if_neg (by decide +kernel)]; exact ⟨rfl, rfl⟩))
    (fun os started H enc _ => lifted os started H enc)

theorem card : Rows.FnRecordsCardSaid :=
  Claim7.holds_tied_plain_at .later [] [.data] true (true, "d7643585128180887773e83689b4c1ca6d83783bd392defb41d17d5a3e758b34") false
    over (fun _ h => by cases h) (by kernel_rfl) (fun _ h => by cases h) fnRecords_row_tie rfl ⟨rfl, rfl⟩ (by kernel_rfl) rfl
    (fun f fn hf hfn => by
      obtain rfl : f = 4 := Option.some.inj ((show Tryd.prog.funcNamed Rows.fnRecordsRow.func = some 4 by kernel_rfl).symm.trans hf) |>.symm
      obtain rfl : fn = Tryd.f4 := (Option.some.inj (Tryd.func4.symm.trans hfn)).symm
      exact ⟨by kernel_rfl, fun j t ht => by
        rw [Tryd.params4] at ht
        have h3 : t = 22 := by
          rcases j with _ | j
          · simpa using ht.symm
          · simp at ht
        subst h3
        exact (show Tryd.prog.wantsStandIn 22 = false by kernel_rfl)⟩)
    (by kernel_rfl)
#print axioms card
end Go.Proofs.YthigmppalpkadaaDoor.fnRecords
