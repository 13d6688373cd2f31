/-
  FnSupers: at every code the law that a right config comes back from its line, and what is read, written again, has just its bytes, returns true for what is drawn of it, and the code and the program's table read as before; the table reads as the program's own text lays it (tied).
-/
import Derived.Test.YtpkdkkjdlhillaaDoorCards
import Derived.Test.YtpkdkkjdlhillaaDoorTie
import Derived.Test.YtpkdkkjdlhillaaDoorDrawSup
import Derived.ProofKit
import Derived.LaidMore
import Derived.OpenShut
import Derived.Stop.Joined
import Derived.Lib.LaidTab
import Derived.WalkSmall
import Derived.ShutString
import Derived.ChangeVars
import Derived.MakeChecks
import Derived.SevenTiedAt
import Derived.ChangeOld
import Derived.Below
namespace Go.Proofs.YtpkdkkjdlhillaaDoor.fnSupers
open Go.ChangeShapes Go.WideShapes Go.ChangeAt Go.RowKit
open Go.ChangeMaps (open_string shut_string)
open crc rd kinds ints txt

theorem laidOut : laidOutB Tryd.prog = true := by kernel_rfl
theorem own : ownKnob Tryd.prog.godebug = none := by kernel_rfl
def nm : String := Rows.fnSupersSpec.vars.headD ""
theorem gTab : Tryd.prog.globalNamed nm = some 0 := by kernel_rfl
theorem tTab : (Tryd.prog.globals[0]?).map (·.type) = some 74 := by kernel_rfl
def zs : List Int := [0, 498536548, 997073096, 651767980, 1994146192, 1802195444, 1303535960, 1342533948, 3988292384, 4027552580, 3604390888, 3412177804, 2607071920, 2262029012, 2685067896, 3183342108]
def cs16 : Array Value := (zs.map fun z => Value.int .u32 z).toArray

theorem tab_of {W : World} (h : laidMetH Tryd.prog Rows.fnSupersRow.laid W) : W.var? Tryd.prog nm = some cs16 := by
  rw [MakeChecks.laidMetH_plain _ _ _ (by kernel_rfl)] at h
  have h' : laidMet Tryd.prog ((nm, Lib.tabData .u32 zs) :: []) W := h
  exact Lib.tabIs_of_head gTab tTab Tryd.underlying74 Tryd.underlying73 (by kernel_rfl) (by kernel_rfl) h'
theorem tabAt_of {W : World} (h : W.var? Tryd.prog nm = some cs16) : TabAt W := by
  intro i hi
  rw [World.var?_cell gTab h i]
  have : ∀ i, i < 16 → cs16[i]? = some (Value.int .u32 (tab i)) := by
    intro i hi
    have hc : i = 0 ∨ i = 1 ∨ i = 2 ∨ i = 3 ∨ i = 4 ∨ i = 5 ∨ i = 6 ∨ i = 7 ∨ i = 8 ∨ i = 9 ∨ i = 10 ∨ i = 11 ∨ i = 12 ∨ i = 13 ∨ i = 14 ∨ i = 15 := by omega
    rcases hc with rfl | rfl | rfl | rfl | rfl | rfl | rfl | rfl | rfl | rfl | rfl | rfl | rfl | rfl | rfl | rfl <;> rfl
  exact this i hi
theorem reads_table {H : Type} (enc : TypeId × Value → H) (W : World) (sp : Nat → Bool) : DataW.trod enc Tryd.prog W 0 sp true 3 74 cs16.toList = some (Lib.tabData .u32 zs, []) := by kernel_rfl
theorem door_met (os : Os) (args : Array Value) : laidMetH Tryd.prog Rows.fnSupersRow.laid ((World.doorLaid Tryd.prog 400 os).forCall (fun _ _ => 0) ⟨#[], args, []⟩).memory :=
  laidMetH_of_parts3 (fuel := 8) (laidMet_of_run' 8 (by kernel_rfl) (by kernel_rfl)) (by kernel_rfl) (by kernel_rfl)

set_option maxRecDepth 20000 in
/-- What is known of a config that is read of a line. -/
theorem readsup_known (t : ByteArray) (hs : t.size ≤ 1048576) : ∃ n1 n2 n3 xs b, xs.length ≤ 12 ∧ (∀ w, Calls Tryd.prog 11 #[.string t] w fun e w' => RAns n1 n2 n3 xs b w e w') ∧ (∀ w, TabAt w → 0 < w.heap.size → Calls Tryd.prog 10 #[.string t] w fun e w' => RAns n1 n2 n3 xs b w e w') ∧
    (b = true → configOk n1 n2 n3 xs = true ∧ superStr n1 n2 n3 xs = t) := by
  by_cases h : t.size = 64
  · refine ⟨_, _, _, _, _, supL_len t, fun w => (spec_readsup t w h).mono fun _ _ q => rans_of q, fun w q1 q2 => (impl_readsup t w h q1 q2).mono fun _ _ q => rans_of q, fun hb => ?_⟩
    unfold supL
    rw [if_pos hb, if_pos hb, if_pos hb, if_pos hb]
    exact ⟨supB_conf hb h, supB_eq hb⟩
  · refine ⟨0, 0, 0, [], false, by simp, fun w => (spec_readsup_no t w h hs).mono ?_, fun w _ _ => (impl_readsup_no t w h).mono ?_, fun q => by cases q⟩
    · rintro e w' ⟨rfl, hb⟩
      exact ⟨none, w.heap.size, 0, rfl, Nat.le_refl _, (fun i hi => by cases hi), hb⟩
    · rintro e w' ⟨rfl, hb⟩
      exact ⟨none, w.heap.size, 0, rfl, Nat.le_refl _, (fun i hi => by cases hi), hb⟩
/-- A config's own line is read back just when it is right. -/
theorem readsup_own (n1 n2 n3 : Int) (ys : List ByteArray) : ∃ m1 m2 m3 zs, zs.length ≤ 12 ∧ (∀ w, TabAt w → 0 < w.heap.size → Calls Tryd.prog 10 #[.string (superStr n1 n2 n3 ys)] w fun e w' => RAns m1 m2 m3 zs (configOk n1 n2 n3 ys) w e w') ∧
    (configOk n1 n2 n3 ys = true → (m1 = n1 ∧ m2 = n2 ∧ m3 = n3 ∧ zs = ys) ∧ (superStr n1 n2 n3 ys).size = 64) := by
  cases hok : configOk n1 n2 n3 ys with
  | true =>
    obtain ⟨p0, p1, p2, p3, p4, p5⟩ := sup_back hok
    refine ⟨n1, n2, n3, ys, (conf_in hok).2.2.2.1, fun w q1 q2 => ?_, fun _ => ⟨⟨rfl, rfl, rfl, rfl⟩, p0⟩⟩
    have h1 := (impl_readsup (superStr n1 n2 n3 ys) w p0 q1 q2).mono fun _ _ q => rans_of q
    unfold supL at h1
    rw [p5, if_pos rfl, if_pos rfl, if_pos rfl, if_pos rfl, p1, p2, p3, p4] at h1
    exact h1
  | false =>
    have h0 := sup_none hok
    rw [h0]
    refine ⟨0, 0, 0, [], by simp, fun w _ _ => (impl_readsup_no ⟨#[]⟩ w (by show (0 : Nat) ≠ 64; omega)).mono ?_, fun q => by cases q⟩
    rintro e w' ⟨rfl, hb⟩
    exact ⟨none, w.heap.size, 0, rfl, Nat.le_refl _, (fun i hi => by cases hi), hb⟩
def IsRow (k : IntKind) (w : World) (a : Option Addr) (len cap : Nat) (zs : List Int) : Prop :=
  (a = none ∧ len = 0 ∧ cap = 0 ∧ zs = []) ∨
  ∃ x, a = some x ∧ len ≤ cap ∧ cap ≤ maxLen ∧ zs.length = cap ∧ (∀ i, i < zs.length → w.cell? (x.add i) = some (.int k (zs.getD i 0))) ∧ ∀ n ∈ zs, (Lit.int k n).wf = true

set_option linter.unusedVariables false in
theorem walk (a0 : Option Addr) (len0 cap0 : Nat) (z0 : List Int) (w : World) (w0 : IsRow .u8 w a0 len0 cap0 z0) (htab : TabAt w) (hdeep : 0 < w.heap.size) :
    Calls Tryd.prog 3 #[.slice a0 len0 cap0] w fun e w' => e = .returned (.bool true) ∧ Below w.heap.size w w' := by
  have c0 := code_of w0
  clear w0
  have HT : Hid (TabAt w) := htab
  clear htab
  by_cases hb0 : 1048576 < len0
  · go_enter Tryd.func3, Tryd.ntmps3
    go_wp2_with fail
    refine (big_yes _ a0 len0 cap0 hb0).mono ?_
    rintro e w' ⟨rfl, rfl⟩
    go_wp2
    go_ret
    exact ⟨rfl, Below.refl _ _⟩
  have HC : Hid (RdCode w w.heap.size a0 len0) := c0
  clear c0
  have HTT : Hid (∀ w', Below w.heap.size w w' → TabAt w' ∧ 0 < w'.heap.size) := fun w' h => ⟨HT.out.below h hdeep, Nat.lt_of_lt_of_le hdeep h.size⟩
  go_enter Tryd.func3, Tryd.ntmps3
  go_wp2_with fail
  refine (big_no _ a0 len0 cap0 (by omega)).mono ?_
  rintro e w' ⟨rfl, rfl⟩
  go_wp2_with fail
  have HCD : Hid (∀ w', Below w.heap.size w w' → RdCode w' w'.heap.size a0 len0) := fun w' h => HC.out.below h h.size
  refine (draw_superline _ a0 len0 cap0 (by omega) HC.out).mono ?_
  rintro e w1 ⟨n1, n2, n3, av, cv, ys, rfl, hw1, hw2, hw3, hyl, hyz, ⟨gv, hgv, htv⟩, hb⟩
  obtain ⟨n, hn⟩ : ∃ n, n = ys.length := ⟨_, rfl⟩
  rw [← hn]
  have HLN : Hid (ys.length = n) := hn.symm
  obtain ⟨Yc, hYc⟩ : ∃ Y, Y = w1.alloc (.cells #[.int .i64 n1, .int .i64 n2, .int .i64 n3, .slice av n cv] 26) := ⟨_, rfl⟩
  obtain ⟨Bc, hBc⟩ : ∃ b, b = w1.heap.size := ⟨_, rfl⟩
  have HYc : Hid (Yc = w1.alloc (.cells #[.int .i64 n1, .int .i64 n2, .int .i64 n3, .slice av n cv] 26)) := hYc
  have HEc : Hid (Bc = w1.heap.size) := hBc
  have cv0 : Hid (CVar Bc n1 n2 n3 av gv n cv ys Yc) := by rw [hYc, hBc]; exact CVar.start w1 n1 n2 n3 av gv n cv ys _ HLN.out htv
  have hbYc : Below w1.heap.size w1 Yc := by rw [hYc]; exact (Below.refl _ _).alloc (Nat.le_refl _) _
  have HB_Yc : Hid (Below w.heap.size w Yc) := hb.trans (hbYc.mono hb.size)
  have hzz : ∀ i (hi : i < ys.length), ys[i].size ≤ 1048576 := fun i hi => by have := hyz ys[i] (List.getElem_mem hi); omega
  have HIS : Hid (∀ w, TabAt w → 0 < w.heap.size → Strs w av ys → Calls Tryd.prog 8 #[.agg #[.int .i64 n1, .int .i64 n2, .int .i64 n3, .slice av n cv]] w fun x w' => x = .returned (.string (superStr n1 n2 n3 ys)) ∧ Below w.heap.size w w') := fun w q1 q2 q3 => by
    have h1 := impl_super w n1 n2 n3 av cv ys (by omega) q3 hzz q1 q2
    rw [HLN.out] at h1; exact h1
  have HSS : Hid (∀ w, Strs w av ys → Calls Tryd.prog 12 #[.agg #[.int .i64 n1, .int .i64 n2, .int .i64 n3, .slice av n cv]] w fun x w' => x = .returned (.string (superStr n1 n2 n3 ys)) ∧ Below w.heap.size w w') := fun w q3 => by
    have h1 := spec_super w n1 n2 n3 av cv ys (by omega) q3 hzz
    rw [HLN.out] at h1; exact h1
  have HCI : Hid (∀ w, Strs w av ys → Calls Tryd.prog 14 #[.agg #[.int .i64 n1, .int .i64 n2, .int .i64 n3, .slice av n cv]] w fun x w' => x = .returned (.bool (configOk n1 n2 n3 ys)) ∧ Below w.heap.size w w') := fun w q3 => by
    have h1 := kinds.impl_conf w n1 n2 n3 av cv ys (by omega) q3 hzz
    rw [HLN.out] at h1; exact h1
  have HCS : Hid (∀ w, Strs w av ys → Calls Tryd.prog 15 #[.agg #[.int .i64 n1, .int .i64 n2, .int .i64 n3, .slice av n cv]] w fun x w' => x = .returned (.bool (configOk n1 n2 n3 ys)) ∧ Below w.heap.size w w') := fun w q3 => by
    have h1 := kinds.spec_conf w n1 n2 n3 av cv ys (by omega) q3 hzz
    rw [HLN.out] at h1; exact h1
  obtain ⟨m1, m2, m3, zs, hz12, hZR, hZO⟩ := readsup_own n1 n2 n3 ys
  have HZR : Hid (∀ w, TabAt w → 0 < w.heap.size → Calls _ _ _ w _) := hZR
  have HZO : Hid (configOk n1 n2 n3 ys = true → (m1 = n1 ∧ m2 = n2 ∧ m3 = n3 ∧ zs = ys) ∧ (superStr n1 n2 n3 ys).size = 64) := hZO
  have HN13 : Hid (n ≤ 13 ∧ zs.length ≤ 12) := ⟨by omega, hz12⟩
  generalize superStr n1 n2 n3 ys = s at HIS HSS HZR HZO
  generalize configOk n1 n2 n3 ys = ok at HCI HCS HZR HZO
  have hsn : (s.toList != s.toList) = false := by simp
  clear hn hw1 hw2 hw3 hyl hyz hgv htv hb hYc hBc hbYc hzz hz12 hZR hZO
  have qc0 := cv0.out.c0; have qc1 := cv0.out.c1; have qc2 := cv0.out.c2; have qc3 := cv0.out.c3
  go_wp2_with (first | (rw [← HYc.out, ← HEc.out]) | (rw [← HYc.out]))
  try rw [← HYc.out]
  try rw [← HEc.out]
  refine (HIS.out _ (HTT.out _ HB_Yc.out).1 (HTT.out _ HB_Yc.out).2 cv0.out.tx.strs).mono ?_
  rintro e w2 ⟨rfl, hb⟩
  have cv1 : Hid (CVar Bc n1 n2 n3 av gv n cv ys w2) := cv0.out.below hb
  have HB_w2 : Hid (Below w.heap.size w w2) := HB_Yc.out.trans (hb.mono HB_Yc.out.size)
  clear hb qc0 qc1 qc2 qc3 cv0 HB_Yc
  go_wp2_with fail
  refine (draw_read_super _ a0 len0 cap0 (by omega) (HCD.out _ HB_w2.out)).mono ?_
  rintro e w3 ⟨t, rfl, ht, hb⟩
  have cv2 : Hid (CVar Bc n1 n2 n3 av gv n cv ys w3) := cv1.out.below hb
  have HB_w3 : Hid (Below w.heap.size w w3) := HB_w2.out.trans (hb.mono HB_w2.out.size)
  obtain ⟨k1, k2, k3, xs, b, hx12, hXS, hXI, hXK⟩ := readsup_known t (by omega)
  obtain ⟨m, hm⟩ : ∃ m, m = xs.length := ⟨_, rfl⟩
  have HLM : Hid (xs.length = m) := hm.symm
  unfold RAns at hXS hXI
  rw [← hm] at hXS hXI
  have HXS : Hid (∀ w, Calls _ _ _ w _) := hXS
  have HXI : Hid (∀ w, TabAt w → 0 < w.heap.size → Calls _ _ _ w _) := hXI
  have HXK : Hid (b = true → configOk k1 k2 k3 xs = true ∧ superStr k1 k2 k3 xs = t) := hXK
  have HM12 : Hid (m ≤ 12) := by show m ≤ 12; omega
  have hbb : (b != b) = false := by simp
  have htn : (t.toList != t.toList) = false := by simp
  clear hb hm hx12 hXS hXI hXK ht cv1 HB_w2
  go_wp2_with fail
  refine (HXI.out _ (HTT.out _ HB_w3.out).1 (HTT.out _ HB_w3.out).2).mono ?_
  rintro e w4 ⟨ax, gx, cx, rfl, _, htx, hb⟩
  have cv3 : Hid (CVar Bc n1 n2 n3 av gv n cv ys w4) := cv2.out.below hb
  have HB_w4 : Hid (Below w.heap.size w w4) := HB_w3.out.trans (hb.mono HB_w3.out.size)
  clear hb cv2 HB_w3
  obtain ⟨Yx, hYx⟩ : ∃ Y, Y = w4.alloc (.cells #[.int .i64 k1, .int .i64 k2, .int .i64 k3, .slice ax m cx] 26) := ⟨_, rfl⟩
  obtain ⟨Bx, hBx⟩ : ∃ b, b = w4.heap.size := ⟨_, rfl⟩
  have HYx : Hid (Yx = w4.alloc (.cells #[.int .i64 k1, .int .i64 k2, .int .i64 k3, .slice ax m cx] 26)) := hYx
  have HEx : Hid (Bx = w4.heap.size) := hBx
  have xv0 : Hid (CVar Bx k1 k2 k3 ax gx m cx xs Yx) := by rw [hYx, hBx]; exact CVar.start w4 k1 k2 k3 ax gx m cx xs _ HLM.out htx
  have hbYx : Below w4.heap.size w4 Yx := by rw [hYx]; exact (Below.refl _ _).alloc (Nat.le_refl _) _
  have cv4 : Hid (CVar Bc n1 n2 n3 av gv n cv ys Yx) := cv3.out.below hbYx
  have HB_Yx : Hid (Below w.heap.size w Yx) := HB_w4.out.trans (hbYx.mono HB_w4.out.size)
  clear hYx hBx hbYx htx cv3 HB_w4
  go_wp2_with (first | (rw [← HYx.out, ← HEx.out]) | (rw [← HYx.out]))
  try rw [← HYx.out]
  try rw [← HEx.out]
  refine (HXS.out _).mono ?_
  rintro e w5 ⟨ay, gy, cy, rfl, _, hty, hb⟩
  have cv5 : Hid (CVar Bc n1 n2 n3 av gv n cv ys w5) := cv4.out.below hb
  have xv1 : Hid (CVar Bx k1 k2 k3 ax gx m cx xs w5) := xv0.out.below hb
  have HB_w5 : Hid (Below w.heap.size w w5) := HB_Yx.out.trans (hb.mono HB_Yx.out.size)
  clear hb cv4 xv0 HB_Yx
  obtain ⟨Yy, hYy⟩ : ∃ Y, Y = w5.alloc (.cells #[.int .i64 k1, .int .i64 k2, .int .i64 k3, .slice ay m cy] 26) := ⟨_, rfl⟩
  obtain ⟨By, hBy⟩ : ∃ b, b = w5.heap.size := ⟨_, rfl⟩
  have HYy : Hid (Yy = w5.alloc (.cells #[.int .i64 k1, .int .i64 k2, .int .i64 k3, .slice ay m cy] 26)) := hYy
  have HEy : Hid (By = w5.heap.size) := hBy
  have yv0 : Hid (CVar By k1 k2 k3 ay gy m cy xs Yy) := by rw [hYy, hBy]; exact CVar.start w5 k1 k2 k3 ay gy m cy xs _ HLM.out hty
  have hbYy : Below w5.heap.size w5 Yy := by rw [hYy]; exact (Below.refl _ _).alloc (Nat.le_refl _) _
  have cv6 : Hid (CVar Bc n1 n2 n3 av gv n cv ys Yy) := cv5.out.below hbYy
  have xv2 : Hid (CVar Bx k1 k2 k3 ax gx m cx xs Yy) := xv1.out.below hbYy
  have HB_Yy : Hid (Below w.heap.size w Yy) := HB_w5.out.trans (hbYy.mono HB_w5.out.size)
  clear hYy hBy hbYy hty cv5 xv1 HB_w5
  have qc0 := cv6.out.c0; have qc1 := cv6.out.c1; have qc2 := cv6.out.c2; have qc3 := cv6.out.c3
  have qx0 := xv2.out.c0; have qx1 := xv2.out.c1; have qx2 := xv2.out.c2; have qx3 := xv2.out.c3
  have qy0 := yv0.out.c0; have qy1 := yv0.out.c1; have qy2 := yv0.out.c2; have qy3 := yv0.out.c3
  go_wp2_with (first | (rw [← HYy.out, ← HEy.out]) | (rw [← HYy.out]))
  try rw [← HYy.out]
  try rw [← HEy.out]
  refine (HSS.out _ cv6.out.tx.strs).mono ?_
  rintro e w6 ⟨rfl, hb⟩
  have cv7 : Hid (CVar Bc n1 n2 n3 av gv n cv ys w6) := cv6.out.below hb
  have xv3 : Hid (CVar Bx k1 k2 k3 ax gx m cx xs w6) := xv2.out.below hb
  have yv1 : Hid (CVar By k1 k2 k3 ay gy m cy xs w6) := yv0.out.below hb
  have HB_w6 : Hid (Below w.heap.size w w6) := HB_Yy.out.trans (hb.mono HB_Yy.out.size)
  clear hb qc0 qc1 qc2 qc3 qx0 qx1 qx2 qx3 qy0 qy1 qy2 qy3 cv6 xv2 yv0 HB_Yy
  have qc0 := cv7.out.c0; have qc1 := cv7.out.c1; have qc2 := cv7.out.c2; have qc3 := cv7.out.c3
  have qx0 := xv3.out.c0; have qx1 := xv3.out.c1; have qx2 := xv3.out.c2; have qx3 := xv3.out.c3
  have qy0 := yv1.out.c0; have qy1 := yv1.out.c1; have qy2 := yv1.out.c2; have qy3 := yv1.out.c3
  go_wp2_with fail
  refine (sameConfig_same _ k1 k2 k3 ax ay m cx cy xs HLM.out (by have := HLM.out; have := HM12.out; omega) xv3.out.tx.strs yv1.out.tx.strs).mono ?_
  rintro e w7 ⟨rfl, hb⟩
  have cv8 : Hid (CVar Bc n1 n2 n3 av gv n cv ys w7) := cv7.out.below hb
  have xv4 : Hid (CVar Bx k1 k2 k3 ax gx m cx xs w7) := xv3.out.below hb
  have yv2 : Hid (CVar By k1 k2 k3 ay gy m cy xs w7) := yv1.out.below hb
  have HB_w7 : Hid (Below w.heap.size w w7) := HB_w6.out.trans (hb.mono HB_w6.out.size)
  clear hb qc0 qc1 qc2 qc3 qx0 qx1 qx2 qx3 qy0 qy1 qy2 qy3 cv7 xv3 yv1 HB_w6
  cases b with
  | false =>
    clear HXK
    go_wp2_with fail
    refine (HZR.out _ (HTT.out _ HB_w7.out).1 (HTT.out _ HB_w7.out).2).mono ?_
    rintro e w9 ⟨az, gz, cz, rfl, _, htz, hb⟩
    have cv9 : Hid (CVar Bc n1 n2 n3 av gv n cv ys w9) := cv8.out.below hb
    have xv5 : Hid (CVar Bx k1 k2 k3 ax gx m cx xs w9) := xv4.out.below hb
    have HB_w9 : Hid (Below w.heap.size w w9) := HB_w7.out.trans (hb.mono HB_w7.out.size)
    clear hb cv8 xv4 HB_w7
    obtain ⟨q, hq⟩ : ∃ q, q = zs.length := ⟨_, rfl⟩
    rw [← hq]
    have HLQ : Hid (zs.length = q) := hq.symm
    clear hq
    obtain ⟨Yz, hYz⟩ : ∃ Y, Y = w9.alloc (.cells #[.int .i64 m1, .int .i64 m2, .int .i64 m3, .slice az q cz] 26) := ⟨_, rfl⟩
    obtain ⟨Bz, hBz⟩ : ∃ b, b = w9.heap.size := ⟨_, rfl⟩
    have HYz : Hid (Yz = w9.alloc (.cells #[.int .i64 m1, .int .i64 m2, .int .i64 m3, .slice az q cz] 26)) := hYz
    have HEz : Hid (Bz = w9.heap.size) := hBz
    have zv0 : Hid (CVar Bz m1 m2 m3 az gz q cz zs Yz) := by rw [hYz, hBz]; exact CVar.start w9 m1 m2 m3 az gz q cz zs _ HLQ.out htz
    have hbYz : Below w9.heap.size w9 Yz := by rw [hYz]; exact (Below.refl _ _).alloc (Nat.le_refl _) _
    have cv10 : Hid (CVar Bc n1 n2 n3 av gv n cv ys Yz) := cv9.out.below hbYz
    have xv6 : Hid (CVar Bx k1 k2 k3 ax gx m cx xs Yz) := xv5.out.below hbYz
    have HB_Yz : Hid (Below w.heap.size w Yz) := HB_w9.out.trans (hbYz.mono HB_w9.out.size)
    clear hYz hBz hbYz htz cv9 xv5 HB_w9
    have qc0 := cv10.out.c0; have qc1 := cv10.out.c1; have qc2 := cv10.out.c2; have qc3 := cv10.out.c3
    have qz0 := zv0.out.c0; have qz1 := zv0.out.c1; have qz2 := zv0.out.c2; have qz3 := zv0.out.c3
    go_wp2_with (first | (rw [← HYz.out, ← HEz.out]) | (rw [← HYz.out]))
    try rw [← HYz.out]
    try rw [← HEz.out]
    refine (HCS.out _ cv10.out.tx.strs).mono ?_
    rintro e w10 ⟨rfl, hb⟩
    have cv11 : Hid (CVar Bc n1 n2 n3 av gv n cv ys w10) := cv10.out.below hb
    have xv7 : Hid (CVar Bx k1 k2 k3 ax gx m cx xs w10) := xv6.out.below hb
    have zv1 : Hid (CVar Bz m1 m2 m3 az gz q cz zs w10) := zv0.out.below hb
    have HB_w10 : Hid (Below w.heap.size w w10) := HB_Yz.out.trans (hb.mono HB_Yz.out.size)
    clear hb qc0 qc1 qc2 qc3 qz0 qz1 qz2 qz3 cv10 xv6 zv0 HB_Yz
    have hoo : (ok == ok) = true := by simp
    have qc0 := cv11.out.c0; have qc1 := cv11.out.c1; have qc2 := cv11.out.c2; have qc3 := cv11.out.c3
    have qz0 := zv1.out.c0; have qz1 := zv1.out.c1; have qz2 := zv1.out.c2; have qz3 := zv1.out.c3
    go_wp2_with fail
    refine (HCI.out _ cv11.out.tx.strs).mono ?_
    rintro e w11 ⟨rfl, hb⟩
    have cv12 : Hid (CVar Bc n1 n2 n3 av gv n cv ys w11) := cv11.out.below hb
    have xv8 : Hid (CVar Bx k1 k2 k3 ax gx m cx xs w11) := xv7.out.below hb
    have zv2 : Hid (CVar Bz m1 m2 m3 az gz q cz zs w11) := zv1.out.below hb
    have HB_w11 : Hid (Below w.heap.size w w11) := HB_w10.out.trans (hb.mono HB_w10.out.size)
    clear hb qc0 qc1 qc2 qc3 qz0 qz1 qz2 qz3 cv11 xv7 zv1 HB_w10
    have qc0 := cv12.out.c0; have qc1 := cv12.out.c1; have qc2 := cv12.out.c2; have qc3 := cv12.out.c3
    have qz0 := zv2.out.c0; have qz1 := zv2.out.c1; have qz2 := zv2.out.c2; have qz3 := zv2.out.c3
    cases ok with
    | false =>
      clear HZO
      go_wp2
      go_ret
      exact ⟨rfl, HB_w11.out⟩
    | true =>
      obtain ⟨⟨rfl, rfl, rfl, rfl⟩, h64⟩ := HZO.out rfl
      have hs64 : ((s.size : Int) == 64) = true := by simp; omega
      have HQN : Hid (q = n) := by have h1 := HLQ.out; have h2 := HLN.out; show q = n; omega
      have HSC : Hid (∀ w, Strs w az zs → Strs w av zs → Calls Tryd.prog 13 #[.agg #[.int .i64 m1, .int .i64 m2, .int .i64 m3, .slice az q cz], .agg #[.int .i64 m1, .int .i64 m2, .int .i64 m3, .slice av n cv]] w fun e w' => e = .returned (.bool true) ∧ Below w.heap.size w w') := fun w h1 h2 => by
        rw [HQN.out]
        exact sameConfig_same w m1 m2 m3 az av n cz cv zs HLN.out (by have := HN13.out; omega) h1 h2
      clear HZO
      go_wp2_with fail
      refine (HSC.out _ zv2.out.tx.strs cv12.out.tx.strs).mono ?_
      rintro e w12 ⟨rfl, hb⟩
      have HE : Hid (Below w.heap.size w w12) := HB_w11.out.trans (hb.mono HB_w11.out.size)
      clear hb qc0 qc1 qc2 qc3 qz0 qz1 qz2 qz3
      go_wp2
      go_ret
      exact ⟨rfl, HE.out⟩
  | true =>
    obtain ⟨hck, hst⟩ := HXK.out rfl
    have hxz : ∀ i (hi : i < xs.length), xs[i].size ≤ 1048576 := fun i hi => by have := isType_size ((conf_in hck).2.2.2.2 i hi); omega
    have HXL : Hid (∀ w, TabAt w → 0 < w.heap.size → Strs w ax xs → Calls Tryd.prog 8 #[.agg #[.int .i64 k1, .int .i64 k2, .int .i64 k3, .slice ax m cx]] w fun x w' => x = .returned (.string t) ∧ Below w.heap.size w w') := fun w q1 q2 q3 => by
      have h1 := impl_super w k1 k2 k3 ax cx xs (by have := HLM.out; have := HM12.out; omega) q3 hxz q1 q2
      rw [HLM.out, hst] at h1; exact h1
    have HXC : Hid (∀ w, Strs w ax xs → Calls Tryd.prog 14 #[.agg #[.int .i64 k1, .int .i64 k2, .int .i64 k3, .slice ax m cx]] w fun x w' => x = .returned (.bool true) ∧ Below w.heap.size w w') := fun w q3 => by
      have h1 := kinds.impl_conf w k1 k2 k3 ax cx xs (by have := HLM.out; have := HM12.out; omega) q3 hxz
      rw [HLM.out, hck] at h1; exact h1
    clear HXK hck hst hxz
    have qx0 := xv4.out.c0; have qx1 := xv4.out.c1; have qx2 := xv4.out.c2; have qx3 := xv4.out.c3
    go_wp2_with fail
    refine (HXL.out _ (HTT.out _ HB_w7.out).1 (HTT.out _ HB_w7.out).2 xv4.out.tx.strs).mono ?_
    rintro e w7a ⟨rfl, hb⟩
    have cv9 : Hid (CVar Bc n1 n2 n3 av gv n cv ys w7a) := cv8.out.below hb
    have xv5 : Hid (CVar Bx k1 k2 k3 ax gx m cx xs w7a) := xv4.out.below hb
    have HB_w7a : Hid (Below w.heap.size w w7a) := HB_w7.out.trans (hb.mono HB_w7.out.size)
    clear hb qx0 qx1 qx2 qx3 cv8 xv4 HB_w7
    have qx0 := xv5.out.c0; have qx1 := xv5.out.c1; have qx2 := xv5.out.c2; have qx3 := xv5.out.c3
    go_wp2_with fail
    refine (HXC.out _ xv5.out.tx.strs).mono ?_
    rintro e w8 ⟨rfl, hb⟩
    have cv10 : Hid (CVar Bc n1 n2 n3 av gv n cv ys w8) := cv9.out.below hb
    have xv6 : Hid (CVar Bx k1 k2 k3 ax gx m cx xs w8) := xv5.out.below hb
    have HB_w8 : Hid (Below w.heap.size w w8) := HB_w7a.out.trans (hb.mono HB_w7a.out.size)
    clear hb qx0 qx1 qx2 qx3 cv9 xv5 HB_w7a
    go_wp2_with fail
    refine (HZR.out _ (HTT.out _ HB_w8.out).1 (HTT.out _ HB_w8.out).2).mono ?_
    rintro e w9 ⟨az, gz, cz, rfl, _, htz, hb⟩
    have cv11 : Hid (CVar Bc n1 n2 n3 av gv n cv ys w9) := cv10.out.below hb
    have xv7 : Hid (CVar Bx k1 k2 k3 ax gx m cx xs w9) := xv6.out.below hb
    have HB_w9 : Hid (Below w.heap.size w w9) := HB_w8.out.trans (hb.mono HB_w8.out.size)
    clear hb cv10 xv6 HB_w8
    obtain ⟨q, hq⟩ : ∃ q, q = zs.length := ⟨_, rfl⟩
    rw [← hq]
    have HLQ : Hid (zs.length = q) := hq.symm
    clear hq
    obtain ⟨Yz, hYz⟩ : ∃ Y, Y = w9.alloc (.cells #[.int .i64 m1, .int .i64 m2, .int .i64 m3, .slice az q cz] 26) := ⟨_, rfl⟩
    obtain ⟨Bz, hBz⟩ : ∃ b, b = w9.heap.size := ⟨_, rfl⟩
    have HYz : Hid (Yz = w9.alloc (.cells #[.int .i64 m1, .int .i64 m2, .int .i64 m3, .slice az q cz] 26)) := hYz
    have HEz : Hid (Bz = w9.heap.size) := hBz
    have zv0 : Hid (CVar Bz m1 m2 m3 az gz q cz zs Yz) := by rw [hYz, hBz]; exact CVar.start w9 m1 m2 m3 az gz q cz zs _ HLQ.out htz
    have hbYz : Below w9.heap.size w9 Yz := by rw [hYz]; exact (Below.refl _ _).alloc (Nat.le_refl _) _
    have cv12 : Hid (CVar Bc n1 n2 n3 av gv n cv ys Yz) := cv11.out.below hbYz
    have xv8 : Hid (CVar Bx k1 k2 k3 ax gx m cx xs Yz) := xv7.out.below hbYz
    have HB_Yz : Hid (Below w.heap.size w Yz) := HB_w9.out.trans (hbYz.mono HB_w9.out.size)
    clear hYz hBz hbYz htz cv11 xv7 HB_w9
    have qc0 := cv12.out.c0; have qc1 := cv12.out.c1; have qc2 := cv12.out.c2; have qc3 := cv12.out.c3
    have qz0 := zv0.out.c0; have qz1 := zv0.out.c1; have qz2 := zv0.out.c2; have qz3 := zv0.out.c3
    go_wp2_with (first | (rw [← HYz.out, ← HEz.out]) | (rw [← HYz.out]))
    try rw [← HYz.out]
    try rw [← HEz.out]
    refine (HCS.out _ cv12.out.tx.strs).mono ?_
    rintro e w10 ⟨rfl, hb⟩
    have cv13 : Hid (CVar Bc n1 n2 n3 av gv n cv ys w10) := cv12.out.below hb
    have xv9 : Hid (CVar Bx k1 k2 k3 ax gx m cx xs w10) := xv8.out.below hb
    have zv1 : Hid (CVar Bz m1 m2 m3 az gz q cz zs w10) := zv0.out.below hb
    have HB_w10 : Hid (Below w.heap.size w w10) := HB_Yz.out.trans (hb.mono HB_Yz.out.size)
    clear hb qc0 qc1 qc2 qc3 qz0 qz1 qz2 qz3 cv12 xv8 zv0 HB_Yz
    have hoo : (ok == ok) = true := by simp
    have qc0 := cv13.out.c0; have qc1 := cv13.out.c1; have qc2 := cv13.out.c2; have qc3 := cv13.out.c3
    have qz0 := zv1.out.c0; have qz1 := zv1.out.c1; have qz2 := zv1.out.c2; have qz3 := zv1.out.c3
    go_wp2_with fail
    refine (HCI.out _ cv13.out.tx.strs).mono ?_
    rintro e w11 ⟨rfl, hb⟩
    have cv14 : Hid (CVar Bc n1 n2 n3 av gv n cv ys w11) := cv13.out.below hb
    have xv10 : Hid (CVar Bx k1 k2 k3 ax gx m cx xs w11) := xv9.out.below hb
    have zv2 : Hid (CVar Bz m1 m2 m3 az gz q cz zs w11) := zv1.out.below hb
    have HB_w11 : Hid (Below w.heap.size w w11) := HB_w10.out.trans (hb.mono HB_w10.out.size)
    clear hb qc0 qc1 qc2 qc3 qz0 qz1 qz2 qz3 cv13 xv9 zv1 HB_w10
    have qc0 := cv14.out.c0; have qc1 := cv14.out.c1; have qc2 := cv14.out.c2; have qc3 := cv14.out.c3
    have qz0 := zv2.out.c0; have qz1 := zv2.out.c1; have qz2 := zv2.out.c2; have qz3 := zv2.out.c3
    cases ok with
    | false =>
      clear HZO
      go_wp2
      go_ret
      exact ⟨rfl, HB_w11.out⟩
    | true =>
      obtain ⟨⟨rfl, rfl, rfl, rfl⟩, h64⟩ := HZO.out rfl
      have hs64 : ((s.size : Int) == 64) = true := by simp; omega
      have HQN : Hid (q = n) := by have h1 := HLQ.out; have h2 := HLN.out; show q = n; omega
      have HSC : Hid (∀ w, Strs w az zs → Strs w av zs → Calls Tryd.prog 13 #[.agg #[.int .i64 m1, .int .i64 m2, .int .i64 m3, .slice az q cz], .agg #[.int .i64 m1, .int .i64 m2, .int .i64 m3, .slice av n cv]] w fun e w' => e = .returned (.bool true) ∧ Below w.heap.size w w') := fun w h1 h2 => by
        rw [HQN.out]
        exact sameConfig_same w m1 m2 m3 az av n cz cv zs HLN.out (by have := HN13.out; omega) h1 h2
      clear HZO
      go_wp2_with fail
      refine (HSC.out _ zv2.out.tx.strs cv14.out.tx.strs).mono ?_
      rintro e w12 ⟨rfl, hb⟩
      have HE : Hid (Below w.heap.size w w12) := HB_w11.out.trans (hb.mono HB_w11.out.size)
      clear hb qc0 qc1 qc2 qc3 qz0 qz1 qz2 qz3
      go_wp2
      go_ret
      exact ⟨rfl, HE.out⟩

set_option maxRecDepth 100000 in
theorem lifted (os : Os) (started : os.Started) (H : Type) (enc : TypeId × Value → H) :
    ReturnsInHanded {} Tryd.checked os 3 .any (fun w args => (Rows.fnSupersSpec.pre enc Tryd.prog Tryd.f3 [] false w args ∧ laidMetH Tryd.prog Rows.fnSupersRow.laid w) ∧ sizedMet enc Tryd.prog Tryd.f3 (OpenSpec.ofChange Rows.fnSupersSpec) false w args)
      (Rows.fnSupersSpec.post enc Tryd.prog Tryd.f3 false true false false) := by
  refine returnsInHanded_of_change_and (C := Tryd.checked) (X := fun w _ => laidMetH Tryd.prog Rows.fnSupersRow.laid w) (fun _ _ _ hh h => h.of_heap hh) own started (by kernel_rfl) Tryd.func3
    (ChangeSpec.witness_shaped (enc := enc) (C := Tryd.checked) (os := os) (X := fun w _ => laidMetH Tryd.prog Rows.fnSupersRow.laid w) false (World.doorLaid Tryd.prog 400 os) #[.slice none 0 0] 8 rfl (World.shaped_of_RefB (by kernel_rfl) (by kernel_rfl)) (by kernel_rfl) (by kernel_rfl) (by kernel_rfl) (door_met os _)) ?_
  intro W base args ds gs before hval0 hW _ _ hL _
  have hval : ∀ (j : Nat) t v, Tryd.f3.params[j]? = some t → args[j]? = some v → Value.okWide Tryd.prog W .any base t v := hval0
  have hW' := hW
  obtain ⟨p, q, hA0, hV0, rfl, hfz, hnd⟩ := hW
  have hA : DataW.TrodAll enc Tryd.prog W 0 (fun _ => true) true Tryd.f3.params.toList args.toList ds p := hA0
  have hV : DataW.TrodVars enc Tryd.prog W (fun _ => true) [nm] gs q := hV0
  rw [Tryd.params3] at hA hval
  obtain ⟨v0, d0, rfl, rfl, h0⟩ := trodAll_one hA
  obtain ⟨a0, len0, cap0, rfl⟩ := okWide_slice Tryd.underlying22 (hval 0 22 v0 rfl rfl)
  have k0 := h0
  have lt0 : ∀ x ∈ p, x.block < W.heap.size := by obtain ⟨m, hm⟩ := k0; exact DataW.trod_lt m _ _ _ hm
  obtain ⟨z0, w0⟩ : ∃ zs, IsRow .u8 W a0 len0 cap0 zs := by
    obtain ⟨fuel, hf⟩ := h0
    rcases open_ints Tryd.underlying22 Tryd.underlying5 (by kernel_rfl) hf with ⟨hcs, _⟩ | ⟨x, l, c, zs, hcs, _, hl, hm, hz, _, hcell, hwz⟩
    · simp [Value.cells] at hcs
      obtain ⟨rfl, rfl, rfl⟩ := hcs
      exact ⟨[], .inl ⟨rfl, rfl, rfl, rfl⟩⟩
    · simp [Value.cells] at hcs
      obtain ⟨rfl, rfl, rfl⟩ := hcs
      exact ⟨zs, .inr ⟨_, rfl, hl, hm, by simpa using hz, hcell, hwz⟩⟩
  obtain ⟨g, t, cs, fuel, d, p', rfl, hg, ht, hvar, hd, rfl⟩ := trodVars_one hV
  obtain rfl := Option.some.inj (gTab.symm.trans hg)
  obtain rfl := Option.some.inj (tTab.symm.trans ht)
  obtain rfl : cs = cs16 := Option.some.inj (hvar.symm.trans (tab_of hL))
  obtain ⟨rfl, rfl⟩ := DataW.Trod.unique (v := .agg cs16) ⟨fuel, hd⟩ ⟨3, reads_table enc W _⟩
  have hdeep : 0 < W.heap.size := by
    have := World.block_lt_of_cell? W _ (tabAt_of hvar 0 (by omega))
    simpa using this
  clear hA0 hV0 hval0
  refine (walk a0 len0 cap0 z0 W w0 (tabAt_of hvar) hdeep).mono fun e W' ⟨he, bel⟩ => ?_
  subst he
  exact ⟨_, rfl, _, _, _, [], p, MemPlace.row ⟨0, 0, none⟩ cs16.size ++ [], hW', trodAll_mk1 (shut_bool Tryd.underlying4 _), trodAll_mk1 (Below.trod laidOut (by kernel_rfl) (of_decide_eq_true (by kernel_rfl)) k0 bel lt0), trodVars_mk1 gTab tTab (var?_below bel gTab hdeep hvar) (reads_table enc W' _), bel.frame _, fun h => by cases h⟩

theorem over : Rows.FnSupersSaid :=
  OpenClaim.holds_of_wide 3 Tryd.f3 rfl rfl rfl rfl rfl rfl rfl ⟨rfl, rfl, rfl, rfl, rfl⟩ rfl rfl rfl rfl rfl (by kernel_rfl) Tryd.func3 (by kernel_rfl)
    (of_decide_eq_true (by kernel_rfl)) (by unfold Func.isWrapper; first | (rw [if_pos (by decide +kernel)]; kernel_rfl) | (rw [if_neg (by decide +kernel)]; exact ⟨rfl, rfl⟩))
    (fun os started H enc _ => lifted os started H enc)

theorem card : Rows.FnSupersCardSaid :=
  Claim7.holds_tied_plain_at .later [] [.data] true (true, "b2b06b05c342d3ddee78f45a75af2793beae5bd8ad94fbaf969a71f82222ca8f") false
    over (fun _ h => by cases h) (by kernel_rfl) (fun _ h => by cases h) fnSupers_row_tie rfl ⟨rfl, rfl⟩ (by kernel_rfl) rfl
    (fun f fn hf hfn => by
      obtain rfl : f = 3 := Option.some.inj ((show Tryd.prog.funcNamed Rows.fnSupersRow.func = some 3 by kernel_rfl).symm.trans hf) |>.symm
      obtain rfl : fn = Tryd.f3 := (Option.some.inj (Tryd.func3.symm.trans hfn)).symm
      exact ⟨by kernel_rfl, fun j t ht => by
        rw [Tryd.params3] at ht
        have h3 : t = 22 := by
          rcases j with _ | j
          · simpa using ht.symm
          · simp at ht
        subst h3
        exact (show Tryd.prog.wantsStandIn 22 = false by kernel_rfl)⟩)
    (by kernel_rfl)
#print axioms card
end Go.Proofs.YtpkdkkjdlhillaaDoor.fnSupers
