/-
  FnObjects: for every code the law that a drawn object comes back from its bytes, which are whole lines, and that what is read, written again, has just its bytes, returns true, and the code reads as before; no condition.
-/
import Derived.Test.YtnacdfoejmjlgaaRows
import Derived.WalkKit
import Derived.Test.YtnacdfoejmjlgaaObjLaw
import Derived.Test.YtnacdfoejmjlgaaObjVar
import Derived.Test.YtnacdfoejmjlgaaDrawObjC
import Derived.ProofKit
import Derived.OpenShut
import Derived.ShutString
import Derived.ChangeOld
import Derived.Below
namespace Go.Proofs.Ytnacdfoejmjlgaa.fnObjects
open Go.ChangeShapes Go.WideShapes Go.ChangeAt Go.RowKit
open Go.ChangeMaps (open_string shut_string)
set_option linter.unusedVariables false
open rd txt ints kinds ref obj

theorem own : ownKnob Try.prog.godebug = none := by kernel_rfl
theorem laidOut : laidOutB Try.prog = true := by kernel_rfl

/-- WHAT THE WALK IS TOLD OF A SLICE OF INTEGERS THAT CAME IN: it is nil; or it leads to a row of 'cap' cells, the numbers 'zs' (the first 'len' are its elements, the rest its spare room), each fitting its kind. -/
def IsRow (k : IntKind) (w : World) (a : Option Addr) (len cap : Nat) (zs : List Int) : Prop :=
  (a = none ∧ len = 0 ∧ cap = 0 ∧ zs = []) ∨
  ∃ x, a = some x ∧ len ≤ cap ∧ cap ≤ maxLen ∧ zs.length = cap ∧ (∀ i, i < zs.length → w.cell? (x.add i) = some (.int k (zs.getD i 0))) ∧ ∀ n ∈ zs, (Lit.int k n).wf = true

/-- An object's own bytes are read back just when it is right. -/
theorem readobj_own (ts : List ByteArray) (t : Int) (os : List Int) (hv : ∀ x ∈ os, -9223372036854775808 ≤ x ∧ x ≤ 9223372036854775807) (hn : ts.length ≤ 1048576) (hz : ∀ i (hi : i < ts.length), ts[i].size ≤ 1048576) : ∃ zt zv, zv.length ≤ 1048576 ∧ (∀ W a cap, Strs W a ts → Calls Try.prog 9 #[.slice a ts.length cap, .string (objStr ts t os)] W fun e w' => ROut zt zv.length zv (objOkB ts t os) W e w') ∧
    (objOkB ts t os = true → zt = t ∧ zv = os ∧ ((objStr ts t os).size : Int) = 64 * runOf (kd ts t) ∧ ∃ p : Nat, ∃ hp : p < ts.length, t = (p : Int) ∧ kd ts t = ts[p]) := by
  have hsl := objStr_le ts t os
  refine ⟨roT ts (objStr ts t os), roV ts (objStr ts t os), roV_len ts _ (by omega), fun W a cap h => ?_, fun h => ?_⟩
  · have h1 := (impl_readobj W a cap ts (objStr ts t os) hn hz h (by omega)).mono fun _ _ q => rout_of q
    have h2 : roB ts (objStr ts t os) = objOkB ts t os := by
      cases hok : objOkB ts t os with
      | true => exact (obj_back hok hv).2.1
      | false => rw [obj_none hok]; exact ro_empty ts
    rw [h2] at h1
    exact h1
  · obtain ⟨q1, _, q3, q4⟩ := obj_back h hv
    obtain ⟨p, hp, hpl, _, hkd, _⟩ := objOk_in h
    exact ⟨q3, q4, q1, p, hpl, hp, hkd⟩
theorem walk (a0 : Option Addr) (len0 cap0 : Nat) (z0 : List Int) (w : World) (w0 : IsRow .u8 w a0 len0 cap0 z0) :
    Calls Try.prog 3 #[.slice a0 len0 cap0] w fun e w' => e = .returned (.bool true) ∧ Below w.heap.size w w' := by
  have c0 := code_of w0
  clear w0
  by_cases hb0 : 1048576 < len0
  · go_enter Try.func3, Try.ntmps3
    go_wp2_with fail
    refine (big_yes _ a0 len0 cap0 hb0).mono ?_
    rintro e w' ⟨rfl, rfl⟩
    go_wp2
    go_ret
    exact ⟨rfl, Below.refl _ _⟩
  have HC : Hid (RdCode w w.heap.size a0 len0) := c0
  clear c0
  go_enter Try.func3, Try.ntmps3
  go_wp2_with fail
  refine (big_no _ a0 len0 cap0 (by omega)).mono ?_
  rintro e w' ⟨rfl, rfl⟩
  go_wp2_with fail
  have HCD : Hid (∀ w', Below w.heap.size w w' → RdCode w' w'.heap.size a0 len0) := fun w' h => HC.out.below h h.size
  refine (draw_objectbytes _ a0 len0 cap0 (by omega) HC.out).mono ?_
  rintro e w1 ⟨tv, t, ov, rfl, hwt, ts, os, ⟨htl, htz⟩, ⟨hol, how⟩, rt, ro, hb⟩
  obtain ⟨at1, gt, ct, rfl, hgt, htx⟩ := txts_of_row rt
  obtain ⟨ao, go, co, rfl, hgo, hio⟩ := ints_of_row ro
  have hzz : ∀ i (hi : i < ts.length), ts[i].size ≤ 1048576 := fun i hi => by have := htz ts[i] (List.getElem_mem hi); omega
  have hO64 : ∀ x ∈ os, -9223372036854775808 ≤ x ∧ x ≤ 9223372036854775807 := fun x hx => by have := how x hx; simp only [Lit.wf, IntKind.min, IntKind.max, IntKind.signed, IntKind.bits, Bool.and_eq_true, decide_eq_true_eq, if_true] at this; omega
  have hO63 : ∀ x ∈ os, x < 9223372036854775808 := fun x hx => by have := hO64 x hx; omega
  have HIO : Hid (∀ W, Strs W at1 ts → Nums W ao os → Calls Try.prog 7 #[.slice at1 ts.length ct, .agg #[.int .i64 t, .slice ao os.length co]] W fun e w' => e = .returned (.string (objStr ts t os)) ∧ Below W.heap.size W w') := fun W q1 q2 => impl_objbytes W at1 ct ts t ao co os (by omega) hzz q1 q2 hO63
  have HSO : Hid (∀ W, Strs W at1 ts → Nums W ao os → Calls Try.prog 11 #[.slice at1 ts.length ct, .agg #[.int .i64 t, .slice ao os.length co]] W fun e w' => e = .returned (.string (objStr ts t os)) ∧ Below W.heap.size W w') := fun W q1 q2 => spec_objbytes W at1 ct ts t ao co os (by omega) hzz q1 q2 hO63
  have HIK : Hid (∀ W, Strs W at1 ts → Nums W ao os → Calls Try.prog 14 #[.slice at1 ts.length ct, .agg #[.int .i64 t, .slice ao os.length co]] W fun e w' => e = .returned (.bool (objOkB ts t os)) ∧ Below W.heap.size W w') := fun W q1 q2 => impl_objok W at1 ct ts t ao co os (by omega) hzz q1 q2 hO63
  have HSK : Hid (∀ W, Strs W at1 ts → Nums W ao os → Calls Try.prog 13 #[.slice at1 ts.length ct, .agg #[.int .i64 t, .slice ao os.length co]] W fun e w' => e = .returned (.bool (objOkB ts t os)) ∧ Below W.heap.size W w') := fun W q1 q2 => spec_objok W at1 ct ts t ao co os (by omega) hzz q1 q2
  obtain ⟨zt, zv, hzl, hZR, hZO⟩ := readobj_own ts t os hO64 (by omega) hzz
  have HZR : Hid (∀ W, Strs W at1 ts → Calls _ _ _ W _) := fun W h => hZR W at1 ct h
  have HZO : Hid (objOkB ts t os = true → zt = t ∧ zv = os ∧ ((objStr ts t os).size : Int) = 64 * runOf (kd ts t) ∧ ∃ p : Nat, ∃ hp : p < ts.length, t = (p : Int) ∧ kd ts t = ts[p]) := hZO
  have HZT : Hid (∀ i (hi : i < ts.length), ts[i].size ≤ 1048576) := hzz
  have hTSL : ts.length ≤ 13 := htl
  have hsl := objStr_le ts t os
  generalize objStr ts t os = s at HIO HSO HZR HZO hsl
  generalize objOkB ts t os = ok at HIK HSK HZR HZO
  have HSL : Hid (s.size ≤ 192) := hsl
  obtain ⟨no, hno⟩ : ∃ n, n = os.length := ⟨_, rfl⟩
  rw [← hno] at HIO HSO HIK HSK ⊢
  have HNO : Hid (os.length = no) := hno.symm
  obtain ⟨nt, hnt⟩ : ∃ n, n = ts.length := ⟨_, rfl⟩
  rw [← hnt] at HIO HSO HIK HSK HZR ⊢
  have HNT : Hid (ts.length = nt) := hnt.symm
  have HNB : Hid (nt ≤ 13 ∧ no ≤ 23 ∧ zv.length ≤ 1048576) := ⟨by omega, by omega, hzl⟩
  obtain ⟨Yo, hYo⟩ : ∃ Y, Y = w1.alloc (.cells #[.int .i64 t, .slice ao no co] 27) := ⟨_, rfl⟩
  obtain ⟨Bo, hBo⟩ : ∃ b, b = w1.heap.size := ⟨_, rfl⟩
  have HYo : Hid (Yo = w1.alloc (.cells #[.int .i64 t, .slice ao no co] 27)) := hYo
  have HEo : Hid (Bo = w1.heap.size) := hBo
  have ov0 : Hid (OVar Bo t ao go no co os Yo) := by rw [hYo, hBo]; exact OVar.start w1 t ao go no co os _ HNO.out hio
  have hbYo : Below w1.heap.size w1 Yo := by rw [hYo]; exact (Below.refl _ _).alloc (Nat.le_refl _) _
  have HB_Yo : Hid (Below w.heap.size w Yo) := hb.trans (hbYo.mono hb.size)
  have Tv0 : Hid (Txts Yo at1 gt ts) := htx.below hbYo
  have hsn : (s.toList != s.toList) = false := by simp
  clear hno hnt hwt htl htz hol how rt ro hb hgt htx hgo hio hYo hBo hbYo hzz hO64 hO63 hzl hZR hZO hTSL hsl
  have qo0 := ov0.out.c0; have qo1 := ov0.out.c1
  go_wp2_with (first | (rw [← HYo.out, ← HEo.out]) | (rw [← HYo.out]))
  try rw [← HYo.out]
  try rw [← HEo.out]
  refine (HIO.out _ Tv0.out.strs ov0.out.tx.nums).mono ?_
  rintro e w2 ⟨rfl, hb⟩
  have ov1 : Hid (OVar Bo t ao go no co os w2) := ov0.out.below hb
  have Tv1 : Hid (Txts w2 at1 gt ts) := Tv0.out.below hb
  have HB_w2 : Hid (Below w.heap.size w w2) := HB_Yo.out.trans (hb.mono HB_Yo.out.size)
  clear hb qo0 qo1 ov0 Tv0 HB_Yo
  go_wp2_with fail
  refine (draw_readobject _ a0 len0 cap0 (by omega) (HCD.out _ HB_w2.out)).mono ?_
  rintro e w3 ⟨au, gu, cu, us, b, rfl, ⟨hul, huz⟩, hbs, hux, hb⟩
  have ov2 : Hid (OVar Bo t ao go no co os w3) := ov1.out.below hb
  have Tv2 : Hid (Txts w3 at1 gt ts) := Tv1.out.below hb
  have HB_w3 : Hid (Below w.heap.size w w3) := HB_w2.out.trans (hb.mono HB_w2.out.size)
  have hzz : ∀ i (hi : i < us.length), us[i].size ≤ 1048576 := fun i hi => by have := huz us[i] (List.getElem_mem hi); omega
  have HXI : Hid (∀ W, Strs W au us → Calls Try.prog 9 #[.slice au us.length cu, .string b] W fun e w' => ROut (roT us b) (roV us b).length (roV us b) (roB us b) W e w') := fun W q => (impl_readobj W au cu us b (by omega) hzz q (by omega)).mono fun _ _ q => rout_of q
  have HXS : Hid (∀ W, Strs W au us → Calls Try.prog 10 #[.slice au us.length cu, .string b] W fun e w' => ROut (roT us b) (roV us b).length (roV us b) (roB us b) W e w') := fun W q => (spec_readobj W au cu us b (by omega) hzz q (by omega)).mono fun _ _ q => rout_of q
  have HXL : Hid (roB us b = true → ∀ W ax cx, Strs W au us → Nums W ax (roV us b) → Calls Try.prog 7 #[.slice au us.length cu, .agg #[.int .i64 (roT us b), .slice ax (roV us b).length cx]] W fun e w' => e = .returned (.string b) ∧ Below W.heap.size W w') := fun h W ax cx q1 q2 => by
    have h1 := impl_objbytes W au cu us (roT us b) ax cx (roV us b) (by omega) hzz q1 q2 (roV_wf us b)
    rw [ro_again h] at h1
    exact h1
  have hvl := roV_len us b (by omega)
  generalize roT us b = k at HXI HXS HXL
  generalize roV us b = vx at HXI HXS HXL hvl
  generalize roB us b = rb at HXI HXS HXL
  obtain ⟨m, hm⟩ : ∃ m, m = vx.length := ⟨_, rfl⟩
  have HLM : Hid (vx.length = m) := hm.symm
  unfold ROut at HXI HXS
  rw [← hm] at HXI HXS HXL hvl
  have HMB : Hid (m ≤ 1048576) := hvl
  obtain ⟨nu, hnu⟩ : ∃ n, n = us.length := ⟨_, rfl⟩
  rw [← hnu] at HXI HXS HXL ⊢
  have HNU : Hid (us.length = nu) := hnu.symm
  have Uv0 : Hid (Txts w3 au gu us) := hux
  have hbb : (rb != rb) = false := by simp
  have hbn : (b.toList != b.toList) = false := by simp
  clear hb hm hvl hnu hzz hul huz hbs hux ov1 Tv1 HB_w2
  go_wp2_with fail
  refine (HXI.out _ Uv0.out.strs).mono ?_
  rintro e w4 ⟨ax, gx, cx, rfl, _, htx, hb⟩
  have ov3 : Hid (OVar Bo t ao go no co os w4) := ov2.out.below hb
  have Tv3 : Hid (Txts w4 at1 gt ts) := Tv2.out.below hb
  have Uv1 : Hid (Txts w4 au gu us) := Uv0.out.below hb
  have HB_w4 : Hid (Below w.heap.size w w4) := HB_w3.out.trans (hb.mono HB_w3.out.size)
  clear hb ov2 Tv2 Uv0 HB_w3
  obtain ⟨Yx, hYx⟩ : ∃ Y, Y = w4.alloc (.cells #[.int .i64 k, .slice ax m cx] 27) := ⟨_, rfl⟩
  obtain ⟨Bx, hBx⟩ : ∃ b, b = w4.heap.size := ⟨_, rfl⟩
  have HYx : Hid (Yx = w4.alloc (.cells #[.int .i64 k, .slice ax m cx] 27)) := hYx
  have HEx : Hid (Bx = w4.heap.size) := hBx
  have xv0 : Hid (OVar Bx k ax gx m cx vx Yx) := by rw [hYx, hBx]; exact OVar.start w4 k ax gx m cx vx _ HLM.out htx
  have hbYx : Below w4.heap.size w4 Yx := by rw [hYx]; exact (Below.refl _ _).alloc (Nat.le_refl _) _
  have ov4 : Hid (OVar Bo t ao go no co os Yx) := ov3.out.below hbYx
  have Tv4 : Hid (Txts Yx at1 gt ts) := Tv3.out.below hbYx
  have Uv2 : Hid (Txts Yx au gu us) := Uv1.out.below hbYx
  have HB_Yx : Hid (Below w.heap.size w Yx) := HB_w4.out.trans (hbYx.mono HB_w4.out.size)
  clear hYx hBx hbYx htx ov3 Tv3 Uv1 HB_w4
  go_wp2_with (first | (rw [← HYx.out, ← HEx.out]) | (rw [← HYx.out]))
  try rw [← HYx.out]
  try rw [← HEx.out]
  refine (HXS.out _ Uv2.out.strs).mono ?_
  rintro e w5 ⟨ay, gy, cy, rfl, _, hty, hb⟩
  have ov5 : Hid (OVar Bo t ao go no co os w5) := ov4.out.below hb
  have Tv5 : Hid (Txts w5 at1 gt ts) := Tv4.out.below hb
  have Uv3 : Hid (Txts w5 au gu us) := Uv2.out.below hb
  have xv1 : Hid (OVar Bx k ax gx m cx vx w5) := xv0.out.below hb
  have HB_w5 : Hid (Below w.heap.size w w5) := HB_Yx.out.trans (hb.mono HB_Yx.out.size)
  clear hb ov4 Tv4 Uv2 xv0 HB_Yx
  obtain ⟨Yy, hYy⟩ : ∃ Y, Y = w5.alloc (.cells #[.int .i64 k, .slice ay m cy] 27) := ⟨_, rfl⟩
  obtain ⟨By, hBy⟩ : ∃ b, b = w5.heap.size := ⟨_, rfl⟩
  have HYy : Hid (Yy = w5.alloc (.cells #[.int .i64 k, .slice ay m cy] 27)) := hYy
  have HEy : Hid (By = w5.heap.size) := hBy
  have yv0 : Hid (OVar By k ay gy m cy vx Yy) := by rw [hYy, hBy]; exact OVar.start w5 k ay gy m cy vx _ HLM.out hty
  have hbYy : Below w5.heap.size w5 Yy := by rw [hYy]; exact (Below.refl _ _).alloc (Nat.le_refl _) _
  have ov6 : Hid (OVar Bo t ao go no co os Yy) := ov5.out.below hbYy
  have Tv6 : Hid (Txts Yy at1 gt ts) := Tv5.out.below hbYy
  have Uv4 : Hid (Txts Yy au gu us) := Uv3.out.below hbYy
  have xv2 : Hid (OVar Bx k ax gx m cx vx Yy) := xv1.out.below hbYy
  have HB_Yy : Hid (Below w.heap.size w Yy) := HB_w5.out.trans (hbYy.mono HB_w5.out.size)
  clear hYy hBy hbYy hty ov5 Tv5 Uv3 xv1 HB_w5
  have qo0 := ov6.out.c0; have qo1 := ov6.out.c1
  have qx0 := xv2.out.c0; have qx1 := xv2.out.c1
  have qy0 := yv0.out.c0; have qy1 := yv0.out.c1
  go_wp2_with (first | (rw [← HYy.out, ← HEy.out]) | (rw [← HYy.out]))
  try rw [← HYy.out]
  try rw [← HEy.out]
  refine (HSO.out _ Tv6.out.strs ov6.out.tx.nums).mono ?_
  rintro e w6 ⟨rfl, hb⟩
  have ov7 : Hid (OVar Bo t ao go no co os w6) := ov6.out.below hb
  have Tv7 : Hid (Txts w6 at1 gt ts) := Tv6.out.below hb
  have Uv5 : Hid (Txts w6 au gu us) := Uv4.out.below hb
  have xv3 : Hid (OVar Bx k ax gx m cx vx w6) := xv2.out.below hb
  have yv1 : Hid (OVar By k ay gy m cy vx w6) := yv0.out.below hb
  have HB_w6 : Hid (Below w.heap.size w w6) := HB_Yy.out.trans (hb.mono HB_Yy.out.size)
  clear hb qo0 qo1 qx0 qx1 qy0 qy1 ov6 Tv6 Uv4 xv2 yv0 HB_Yy
  have qo0 := ov7.out.c0; have qo1 := ov7.out.c1
  have qx0 := xv3.out.c0; have qx1 := xv3.out.c1
  have qy0 := yv1.out.c0; have qy1 := yv1.out.c1
  go_wp2_with fail
  refine (sameObj_same _ k ax ay gx gy m cx cy vx HLM.out HMB.out xv3.out.tx yv1.out.tx).mono ?_
  rintro e w7 ⟨rfl, hb⟩
  have ov8 : Hid (OVar Bo t ao go no co os w7) := ov7.out.below hb
  have Tv8 : Hid (Txts w7 at1 gt ts) := Tv7.out.below hb
  have Uv6 : Hid (Txts w7 au gu us) := Uv5.out.below hb
  have xv4 : Hid (OVar Bx k ax gx m cx vx w7) := xv3.out.below hb
  have yv2 : Hid (OVar By k ay gy m cy vx w7) := yv1.out.below hb
  have HB_w7 : Hid (Below w.heap.size w w7) := HB_w6.out.trans (hb.mono HB_w6.out.size)
  clear hb qo0 qo1 qx0 qx1 qy0 qy1 ov7 Tv7 Uv5 xv3 yv1 HB_w6
  cases rb with
  | false =>
    clear HXL
    go_wp2_with fail
    refine (HZR.out _ Tv8.out.strs).mono ?_
    rintro e w9 ⟨az, gz, cz, rfl, _, htz, hb⟩
    have ov9 : Hid (OVar Bo t ao go no co os w9) := ov8.out.below hb
    have Tv9 : Hid (Txts w9 at1 gt ts) := Tv8.out.below hb
    have Uv7 : Hid (Txts w9 au gu us) := Uv6.out.below hb
    have xv5 : Hid (OVar Bx k ax gx m cx vx w9) := xv4.out.below hb
    have HB_w9 : Hid (Below w.heap.size w w9) := HB_w7.out.trans (hb.mono HB_w7.out.size)
    clear hb ov8 Tv8 Uv6 xv4 HB_w7
    obtain ⟨q, hq⟩ : ∃ q, q = zv.length := ⟨_, rfl⟩
    rw [← hq]
    have HLQ : Hid (zv.length = q) := hq.symm
    clear hq
    obtain ⟨Yz, hYz⟩ : ∃ Y, Y = w9.alloc (.cells #[.int .i64 zt, .slice az q cz] 27) := ⟨_, rfl⟩
    obtain ⟨Bz, hBz⟩ : ∃ b, b = w9.heap.size := ⟨_, rfl⟩
    have HYz : Hid (Yz = w9.alloc (.cells #[.int .i64 zt, .slice az q cz] 27)) := hYz
    have HEz : Hid (Bz = w9.heap.size) := hBz
    have zv0 : Hid (OVar Bz zt az gz q cz zv Yz) := by rw [hYz, hBz]; exact OVar.start w9 zt az gz q cz zv _ HLQ.out htz
    have hbYz : Below w9.heap.size w9 Yz := by rw [hYz]; exact (Below.refl _ _).alloc (Nat.le_refl _) _
    have ov10 : Hid (OVar Bo t ao go no co os Yz) := ov9.out.below hbYz
    have Tv10 : Hid (Txts Yz at1 gt ts) := Tv9.out.below hbYz
    have Uv8 : Hid (Txts Yz au gu us) := Uv7.out.below hbYz
    have xv6 : Hid (OVar Bx k ax gx m cx vx Yz) := xv5.out.below hbYz
    have HB_Yz : Hid (Below w.heap.size w Yz) := HB_w9.out.trans (hbYz.mono HB_w9.out.size)
    clear hYz hBz hbYz htz ov9 Tv9 Uv7 xv5 HB_w9
    have qo0 := ov10.out.c0; have qo1 := ov10.out.c1
    have qz0 := zv0.out.c0; have qz1 := zv0.out.c1
    go_wp2_with (first | (rw [← HYz.out, ← HEz.out]) | (rw [← HYz.out]))
    try rw [← HYz.out]
    try rw [← HEz.out]
    refine (HSK.out _ Tv10.out.strs ov10.out.tx.nums).mono ?_
    rintro e w10 ⟨rfl, hb⟩
    have ov11 : Hid (OVar Bo t ao go no co os w10) := ov10.out.below hb
    have Tv11 : Hid (Txts w10 at1 gt ts) := Tv10.out.below hb
    have Uv9 : Hid (Txts w10 au gu us) := Uv8.out.below hb
    have xv7 : Hid (OVar Bx k ax gx m cx vx w10) := xv6.out.below hb
    have zv1 : Hid (OVar Bz zt az gz q cz zv w10) := zv0.out.below hb
    have HB_w10 : Hid (Below w.heap.size w w10) := HB_Yz.out.trans (hb.mono HB_Yz.out.size)
    clear hb qo0 qo1 qz0 qz1 ov10 Tv10 Uv8 xv6 zv0 HB_Yz
    have hoo : (ok == ok) = true := by simp
    have qo0 := ov11.out.c0; have qo1 := ov11.out.c1
    have qz0 := zv1.out.c0; have qz1 := zv1.out.c1
    go_wp2_with fail
    refine (HIK.out _ Tv11.out.strs ov11.out.tx.nums).mono ?_
    rintro e w11 ⟨rfl, hb⟩
    have ov12 : Hid (OVar Bo t ao go no co os w11) := ov11.out.below hb
    have Tv12 : Hid (Txts w11 at1 gt ts) := Tv11.out.below hb
    have Uv10 : Hid (Txts w11 au gu us) := Uv9.out.below hb
    have xv8 : Hid (OVar Bx k ax gx m cx vx w11) := xv7.out.below hb
    have zv2 : Hid (OVar Bz zt az gz q cz zv w11) := zv1.out.below hb
    have HB_w11 : Hid (Below w.heap.size w w11) := HB_w10.out.trans (hb.mono HB_w10.out.size)
    clear hb qo0 qo1 qz0 qz1 ov11 Tv11 Uv9 xv7 zv1 HB_w10
    cases ok with
    | false =>
      clear HZO
      have qo0 := ov12.out.c0; have qo1 := ov12.out.c1
      have qz0 := zv2.out.c0; have qz1 := zv2.out.c1
      go_wp2
      go_ret
      exact ⟨rfl, HB_w11.out⟩
    | true =>
      obtain ⟨rfl, rfl, hsz, p, hp, rfl, hkd⟩ := HZO.out rfl
      rw [hkd] at hsz
      obtain ⟨htp, hcp, _⟩ : at1 = some ⟨gt, 0, none⟩ ∧ _ ∧ _ := Tv12.out p hp
      subst htp
      have HQN : Hid (q = no) := by have h1 := HLQ.out; have h2 := HNO.out; show q = no; omega
      have HSC : Hid (∀ W, Ints W az gz zv → Ints W ao go zv → Calls Try.prog 12 #[.agg #[.int .i64 (p : Int), .slice az q cz], .agg #[.int .i64 (p : Int), .slice ao no co]] W fun e w' => e = .returned (.bool true) ∧ Below W.heap.size W w') := fun W h1 h2 => by
        rw [HQN.out]
        exact sameObj_same W (p : Int) az ao gz go no cz co zv HNO.out (by have := HNB.out; omega) h1 h2
      have qo0 := ov12.out.c0; have qo1 := ov12.out.c1
      have qz0 := zv2.out.c0; have qz1 := zv2.out.c1
      clear HZO hkd
      go_wp2_with fail
      refine (HSC.out _ zv2.out.tx ov12.out.tx).mono ?_
      rintro e w12 ⟨rfl, hb⟩
      have ov13 : Hid (OVar Bo (p : Int) ao go no co zv w12) := ov12.out.below hb
      have Tv13 : Hid (Txts w12 (some ⟨gt, 0, none⟩) gt ts) := Tv12.out.below hb
      have Uv11 : Hid (Txts w12 au gu us) := Uv10.out.below hb
      have xv9 : Hid (OVar Bx k ax gx m cx vx w12) := xv8.out.below hb
      have zv3 : Hid (OVar Bz (p : Int) az gz q cz zv w12) := zv2.out.below hb
      have HB_w12 : Hid (Below w.heap.size w w12) := HB_w11.out.trans (hb.mono HB_w11.out.size)
      clear hcp hb qo0 qo1 qz0 qz1 ov12 Tv12 Uv10 xv8 zv2 HB_w11
      obtain ⟨_, hcp, _⟩ := Tv13.out p hp
      have hpt : (p : Int) < (nt : Int) := by have := HNT.out; omega
      have hp0 : (0 : Int) ≤ (p : Int) := by omega
      have HRO : Hid (∀ W, Calls Try.prog 15 #[.string ts[p]] W _) := fun W => kinds.impl_run ts[p] W (HZT.out p hp)
      generalize ts[p] = kx at hcp hsz HRO
      obtain ⟨r, hr⟩ : ∃ r, r = runOf kx := ⟨_, rfl⟩
      rw [← hr] at hsz HRO
      have hw64 : IntKind.i64.wrap (64 * r) = 64 * r := by rw [IntKind.wrap_i64]; have := HSL.out; omega
      have hsr : ((s.size : Int) == 64 * r) = true := by simp; omega
      clear hsz hr
      have qo0 := ov13.out.c0; have qo1 := ov13.out.c1
      go_wp2_with fail
      refine (HRO.out _).mono ?_
      rintro e w13 ⟨rfl, rfl⟩
      go_wp2
      go_ret
      exact ⟨rfl, HB_w12.out⟩
  | true =>
    have qx0 := xv4.out.c0; have qx1 := xv4.out.c1
    go_wp2_with fail
    refine (HXL.out (by trivial) _ ax cx Uv6.out.strs xv4.out.tx.nums).mono ?_
    rintro e w8 ⟨rfl, hb⟩
    have ov9 : Hid (OVar Bo t ao go no co os w8) := ov8.out.below hb
    have Tv9 : Hid (Txts w8 at1 gt ts) := Tv8.out.below hb
    have Uv7 : Hid (Txts w8 au gu us) := Uv6.out.below hb
    have xv5 : Hid (OVar Bx k ax gx m cx vx w8) := xv4.out.below hb
    have HB_w8 : Hid (Below w.heap.size w w8) := HB_w7.out.trans (hb.mono HB_w7.out.size)
    clear hb qx0 qx1 ov8 Tv8 Uv6 xv4 HB_w7
    go_wp2_with fail
    refine (HZR.out _ Tv9.out.strs).mono ?_
    rintro e w9 ⟨az, gz, cz, rfl, _, htz, hb⟩
    have ov10 : Hid (OVar Bo t ao go no co os w9) := ov9.out.below hb
    have Tv10 : Hid (Txts w9 at1 gt ts) := Tv9.out.below hb
    have Uv8 : Hid (Txts w9 au gu us) := Uv7.out.below hb
    have xv6 : Hid (OVar Bx k ax gx m cx vx w9) := xv5.out.below hb
    have HB_w9 : Hid (Below w.heap.size w w9) := HB_w8.out.trans (hb.mono HB_w8.out.size)
    clear hb ov9 Tv9 Uv7 xv5 HB_w8
    obtain ⟨q, hq⟩ : ∃ q, q = zv.length := ⟨_, rfl⟩
    rw [← hq]
    have HLQ : Hid (zv.length = q) := hq.symm
    clear hq
    obtain ⟨Yz, hYz⟩ : ∃ Y, Y = w9.alloc (.cells #[.int .i64 zt, .slice az q cz] 27) := ⟨_, rfl⟩
    obtain ⟨Bz, hBz⟩ : ∃ b, b = w9.heap.size := ⟨_, rfl⟩
    have HYz : Hid (Yz = w9.alloc (.cells #[.int .i64 zt, .slice az q cz] 27)) := hYz
    have HEz : Hid (Bz = w9.heap.size) := hBz
    have zv0 : Hid (OVar Bz zt az gz q cz zv Yz) := by rw [hYz, hBz]; exact OVar.start w9 zt az gz q cz zv _ HLQ.out htz
    have hbYz : Below w9.heap.size w9 Yz := by rw [hYz]; exact (Below.refl _ _).alloc (Nat.le_refl _) _
    have ov11 : Hid (OVar Bo t ao go no co os Yz) := ov10.out.below hbYz
    have Tv11 : Hid (Txts Yz at1 gt ts) := Tv10.out.below hbYz
    have Uv9 : Hid (Txts Yz au gu us) := Uv8.out.below hbYz
    have xv7 : Hid (OVar Bx k ax gx m cx vx Yz) := xv6.out.below hbYz
    have HB_Yz : Hid (Below w.heap.size w Yz) := HB_w9.out.trans (hbYz.mono HB_w9.out.size)
    clear hYz hBz hbYz htz ov10 Tv10 Uv8 xv6 HB_w9
    have qo0 := ov11.out.c0; have qo1 := ov11.out.c1
    have qz0 := zv0.out.c0; have qz1 := zv0.out.c1
    go_wp2_with (first | (rw [← HYz.out, ← HEz.out]) | (rw [← HYz.out]))
    try rw [← HYz.out]
    try rw [← HEz.out]
    refine (HSK.out _ Tv11.out.strs ov11.out.tx.nums).mono ?_
    rintro e w10 ⟨rfl, hb⟩
    have ov12 : Hid (OVar Bo t ao go no co os w10) := ov11.out.below hb
    have Tv12 : Hid (Txts w10 at1 gt ts) := Tv11.out.below hb
    have Uv10 : Hid (Txts w10 au gu us) := Uv9.out.below hb
    have xv8 : Hid (OVar Bx k ax gx m cx vx w10) := xv7.out.below hb
    have zv1 : Hid (OVar Bz zt az gz q cz zv w10) := zv0.out.below hb
    have HB_w10 : Hid (Below w.heap.size w w10) := HB_Yz.out.trans (hb.mono HB_Yz.out.size)
    clear hb qo0 qo1 qz0 qz1 ov11 Tv11 Uv9 xv7 zv0 HB_Yz
    have hoo : (ok == ok) = true := by simp
    have qo0 := ov12.out.c0; have qo1 := ov12.out.c1
    have qz0 := zv1.out.c0; have qz1 := zv1.out.c1
    go_wp2_with fail
    refine (HIK.out _ Tv12.out.strs ov12.out.tx.nums).mono ?_
    rintro e w11 ⟨rfl, hb⟩
    have ov13 : Hid (OVar Bo t ao go no co os w11) := ov12.out.below hb
    have Tv13 : Hid (Txts w11 at1 gt ts) := Tv12.out.below hb
    have Uv11 : Hid (Txts w11 au gu us) := Uv10.out.below hb
    have xv9 : Hid (OVar Bx k ax gx m cx vx w11) := xv8.out.below hb
    have zv2 : Hid (OVar Bz zt az gz q cz zv w11) := zv1.out.below hb
    have HB_w11 : Hid (Below w.heap.size w w11) := HB_w10.out.trans (hb.mono HB_w10.out.size)
    clear hb qo0 qo1 qz0 qz1 ov12 Tv12 Uv10 xv8 zv1 HB_w10
    cases ok with
    | false =>
      clear HZO
      have qo0 := ov13.out.c0; have qo1 := ov13.out.c1
      have qz0 := zv2.out.c0; have qz1 := zv2.out.c1
      go_wp2
      go_ret
      exact ⟨rfl, HB_w11.out⟩
    | true =>
      obtain ⟨rfl, rfl, hsz, p, hp, rfl, hkd⟩ := HZO.out rfl
      rw [hkd] at hsz
      obtain ⟨htp, hcp, _⟩ : at1 = some ⟨gt, 0, none⟩ ∧ _ ∧ _ := Tv13.out p hp
      subst htp
      have HQN : Hid (q = no) := by have h1 := HLQ.out; have h2 := HNO.out; show q = no; omega
      have HSC : Hid (∀ W, Ints W az gz zv → Ints W ao go zv → Calls Try.prog 12 #[.agg #[.int .i64 (p : Int), .slice az q cz], .agg #[.int .i64 (p : Int), .slice ao no co]] W fun e w' => e = .returned (.bool true) ∧ Below W.heap.size W w') := fun W h1 h2 => by
        rw [HQN.out]
        exact sameObj_same W (p : Int) az ao gz go no cz co zv HNO.out (by have := HNB.out; omega) h1 h2
      have qo0 := ov13.out.c0; have qo1 := ov13.out.c1
      have qz0 := zv2.out.c0; have qz1 := zv2.out.c1
      clear HZO hkd
      go_wp2_with fail
      refine (HSC.out _ zv2.out.tx ov13.out.tx).mono ?_
      rintro e w12 ⟨rfl, hb⟩
      have ov14 : Hid (OVar Bo (p : Int) ao go no co zv w12) := ov13.out.below hb
      have Tv14 : Hid (Txts w12 (some ⟨gt, 0, none⟩) gt ts) := Tv13.out.below hb
      have Uv12 : Hid (Txts w12 au gu us) := Uv11.out.below hb
      have xv10 : Hid (OVar Bx k ax gx m cx vx w12) := xv9.out.below hb
      have zv3 : Hid (OVar Bz (p : Int) az gz q cz zv w12) := zv2.out.below hb
      have HB_w12 : Hid (Below w.heap.size w w12) := HB_w11.out.trans (hb.mono HB_w11.out.size)
      clear hcp hb qo0 qo1 qz0 qz1 ov13 Tv13 Uv11 xv9 zv2 HB_w11
      obtain ⟨_, hcp, _⟩ := Tv14.out p hp
      have hpt : (p : Int) < (nt : Int) := by have := HNT.out; omega
      have hp0 : (0 : Int) ≤ (p : Int) := by omega
      have HRO : Hid (∀ W, Calls Try.prog 15 #[.string ts[p]] W _) := fun W => kinds.impl_run ts[p] W (HZT.out p hp)
      generalize ts[p] = kx at hcp hsz HRO
      obtain ⟨r, hr⟩ : ∃ r, r = runOf kx := ⟨_, rfl⟩
      rw [← hr] at hsz HRO
      have hw64 : IntKind.i64.wrap (64 * r) = 64 * r := by rw [IntKind.wrap_i64]; have := HSL.out; omega
      have hsr : ((s.size : Int) == 64 * r) = true := by simp; omega
      clear hsz hr
      have qo0 := ov14.out.c0; have qo1 := ov14.out.c1
      go_wp2_with fail
      refine (HRO.out _).mono ?_
      rintro e w13 ⟨rfl, rfl⟩
      go_wp2
      go_ret
      exact ⟨rfl, HB_w12.out⟩

set_option maxRecDepth 100000 in
theorem lifted (os : Os) (started : os.Started) (H : Type) (enc : TypeId × Value → H) :
    ReturnsInHanded {} Try.checked os 3 .any (Rows.fnObjectsSpec.pre6 enc Try.prog Try.f3 Rows.fnObjectsRow.domain false) (Rows.fnObjectsSpec.post enc Try.prog Try.f3 false true false false) := by
  refine returnsInHanded_of_change (C := Try.checked) own started (by kernel_rfl) Try.func3
    (ChangeSpec.witness6 (enc := enc) (C := Try.checked) false ⟨#[], #[.slice none 0 0], []⟩ 8 (by kernel_rfl) (by kernel_rfl) (by kernel_rfl) (by kernel_rfl)) ?_
  intro W base args ds gs before hval0 hW hcnd _
  have hval : ∀ (j : Nat) t v, Try.f3.params[j]? = some t → args[j]? = some v → Value.okWide Try.prog W .any base t v := hval0
  have hW' := hW
  obtain ⟨p, q, hA0, hV, rfl, hfz, hnd⟩ := hW
  have hA : DataW.TrodAll enc Try.prog W 0 (fun _ => true) true Try.f3.params.toList args.toList ds p := hA0
  rw [Try.params3] at hA hval
  obtain ⟨v0, vs0, d0, ds0, p0, q0, hargs, rfl, rfl, h0, r0⟩ := trodAll_cons hA
  obtain ⟨rfl, rfl, rfl⟩ := trodAll_nil r0
  obtain rfl : args = #[v0] := by cases args; simp_all
  obtain ⟨rfl, rfl⟩ := trodVars_none hV
  obtain ⟨a0, len0, cap0, rfl⟩ := okWide_slice Try.underlying22 (hval 0 22 v0 rfl rfl)
  have k0 := h0
  have lt0 : ∀ x ∈ p0, x.block < W.heap.size := by obtain ⟨m, hm⟩ := k0; exact DataW.trod_lt m _ _ _ hm
  obtain ⟨z0, w0⟩ : ∃ zs, IsRow .u8 W a0 len0 cap0 zs := by
    obtain ⟨fuel, hf⟩ := h0
    rcases open_ints Try.underlying22 Try.underlying5 (by kernel_rfl) hf with ⟨hcs, _⟩ | ⟨x, l, c, zs, hcs, _, hl, hm, hz, _, hcell, hwz⟩
    · simp [Value.cells] at hcs
      obtain ⟨rfl, rfl, rfl⟩ := hcs
      exact ⟨[], .inl ⟨rfl, rfl, rfl, rfl⟩⟩
    · simp [Value.cells] at hcs
      obtain ⟨rfl, rfl, rfl⟩ := hcs
      exact ⟨zs, .inr ⟨_, rfl, hl, hm, by simpa using hz, hcell, hwz⟩⟩
  clear hA0 hval0
  refine (walk a0 len0 cap0 z0 W w0).mono fun e W' ⟨he, bel⟩ => ?_
  subst he
  exact ⟨_, rfl, _, _, _, [], _, [], hW', trodAll_mk1 (shut_bool Try.underlying4 _), (trodAll_cons_mk (Below.trod laidOut (by kernel_rfl) (of_decide_eq_true (by kernel_rfl)) k0 bel lt0) trodAll_mk0), rfl, bel.frame _, fun h => by cases h⟩

theorem over : Rows.fnObjectsRow.holds Try.pinned (OpenSpec.ofChange Rows.fnObjectsSpec) :=
  OpenClaim.holds_of_wide 3 Try.f3 rfl rfl rfl rfl rfl rfl rfl ⟨rfl, rfl, rfl, rfl, rfl⟩ rfl rfl rfl rfl rfl (by kernel_rfl) Try.func3 (by kernel_rfl)
    (of_decide_eq_true (by kernel_rfl)) (by unfold Func.isWrapper; first | (rw [if_pos (by decide +kernel)]; kernel_rfl) | (rw [if_neg (by decide +kernel)]; exact ⟨rfl, rfl⟩))
    (fun os started H enc _ => lifted os started H enc)

theorem proved : Rows.FnObjectsSaid := over
#print axioms proved
end Go.Proofs.Ytnacdfoejmjlgaa.fnObjects
