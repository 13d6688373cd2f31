/-
  FnFlushes: at every two codes the law that two lines of a drawn device may be flushed in any order, and that flushing makes nothing safe, returns true, and the codes read as before; no condition.
-/
import Derived.Test.YtgpmpijaggnocaaRows
import Derived.WalkKit
import Derived.WalkSpells
import Derived.WalkLawsBesides
import Derived.Handy
import Derived.Test.YtgpmpijaggnocaaDBox
import Derived.Lib.Strings
import Derived.ProofKit
import Derived.OpenShut
import Derived.ShutString
import Derived.ChangeOld
import Derived.Below
namespace Go.Proofs.Ytgpmpijaggnocaa.fnFlushes
open Go.ChangeShapes Go.WideShapes Go.ChangeAt Go.RowKit
open Go.ChangeMaps (open_string shut_string)
set_option linter.unusedVariables false
open wmath rd dev later

theorem own : ownKnob Try.prog.godebug = none := by kernel_rfl
theorem laidOut : laidOutB Try.prog = true := by kernel_rfl

/-- WHAT THE WALK IS TOLD OF A SLICE OF INTEGERS THAT CAME IN: it is nil; or it leads to a row of 'cap' cells, the numbers 'zs' (the first 'len' are its elements, the rest its spare room), each fitting its kind. -/
def IsRow (k : IntKind) (w : World) (a : Option Addr) (len cap : Nat) (zs : List Int) : Prop :=
  (a = none ∧ len = 0 ∧ cap = 0 ∧ zs = []) ∨
  ∃ x, a = some x ∧ len ≤ cap ∧ cap ≤ maxLen ∧ zs.length = cap ∧ (∀ i, i < zs.length → w.cell? (x.add i) = some (.int k (zs.getD i 0))) ∧ ∀ n ∈ zs, (Lit.int k n).wf = true

theorem walk (a0 : Option Addr) (len0 cap0 : Nat) (z0 : List Int) (a1 : Option Addr) (len1 cap1 : Nat) (z1 : List Int) (w : World) (w0 : IsRow .u8 w a0 len0 cap0 z0) (w1 : IsRow .u8 w a1 len1 cap1 z1) :
    Calls Try.prog 7 #[.slice a0 len0 cap0, .slice a1 len1 cap1] w fun e w' => e = .returned (.bool true) ∧ Below w.heap.size w w' := by
  have c0 := code_of w0
  have c1 := code_of w1
  clear w0 w1
  by_cases hb0 : 1048576 < len0
  · go_enter Try.func7, Try.ntmps7
    go_wp2_with fail
    refine (big_yes _ a0 len0 cap0 hb0).mono ?_
    rintro e w' ⟨rfl, rfl⟩
    go_wp2
    go_ret
    exact ⟨rfl, Below.refl _ _⟩
  by_cases hb1 : 1048576 < len1
  · go_enter Try.func7, Try.ntmps7
    go_wp2_with fail
    refine (big_no _ a0 len0 cap0 (by omega)).mono ?_
    rintro e w' ⟨rfl, rfl⟩
    go_wp2_with fail
    refine (big_yes _ a1 len1 cap1 hb1).mono ?_
    rintro e w' ⟨rfl, rfl⟩
    go_wp2
    go_ret
    exact ⟨rfl, Below.refl _ _⟩
  have HC0 : Hid (RdCode w w.heap.size a0 len0) := c0
  have HC1 : Hid (RdCode w w.heap.size a1 len1) := c1
  clear c0 c1
  go_enter Try.func7, Try.ntmps7
  go_wp2_with fail
  refine (big_no _ a0 len0 cap0 (by omega)).mono ?_
  rintro e w' ⟨rfl, rfl⟩
  go_wp2_with fail
  refine (big_no _ a1 len1 cap1 (by omega)).mono ?_
  rintro e w' ⟨rfl, rfl⟩
  have HBelw : Hid (Below w.heap.size w w) := Below.refl _ _
  go_wp2_with fail
  refine (draw_flush w a0 len0 cap0 (by omega) HC0.out).mono ?_
  rintro e v1 ⟨safe, ls, aa, cp, n, rfl, hnw, hsz, hl, hf, hb⟩
  have HBelv1 : Hid (Below w.heap.size w v1) := hb
  clear hb
  have HSZ : Hid (Sized safe ls) := hsz
  clear hnw hsz hf
  obtain ⟨v2, hX⟩ : ∃ X, X = v1.alloc (.cells #[.string safe, .slice aa ls.length cp] 26) := ⟨_, rfl⟩
  have HXv2 : Hid (v2 = v1.alloc (.cells #[.string safe, .slice aa ls.length cp] 26)) := hX
  have hb : Below v1.heap.size v1 v2 := by rw [hX]; exact (Below.refl _ _).alloc (Nat.le_refl _) _
  have HBelv2 : Hid (Below w.heap.size w v2) := HBelv1.out.trans (hb.mono HBelv1.out.size)
  have Hd : Hid (DBox v2 v1.heap.size safe aa cp ls) := by
    have h1 : DBox v2 v1.heap.size safe aa cp ls := by rw [hX]; exact .new safe cp _ hl
    exact h1
  clear hX hb hl
  have HC1' : Hid (RdCode v2 v2.heap.size a1 len1) := HC1.out.below HBelv2.out HBelv2.out.size
  have d0 := Hd.out.c0
  have d1 := Hd.out.c1
  go_wp2_with (rw [← HXv2.out])
  refine (draw_flush v2 a1 len1 cap1 (by omega) HC1'.out).mono ?_
  rintro e v3 ⟨safe2, ls2, aa2, cp2, m, rfl, hmw, hsz2, hl2, hf2, hb⟩
  clear d0 d1
  have HBelv3 : Hid (Below w.heap.size w v3) := HBelv2.out.trans (hb.mono HBelv2.out.size)
  have Hd : Hid (DBox v3 v1.heap.size safe aa cp ls) := Hd.out.below hb
  clear hb
  clear hmw hsz2 hf2 HC0 HC1 HC1'
  obtain ⟨v4, hX⟩ : ∃ X, X = v3.alloc (.cells #[.string safe2, .slice aa2 ls2.length cp2] 26) := ⟨_, rfl⟩
  have HXv4 : Hid (v4 = v3.alloc (.cells #[.string safe2, .slice aa2 ls2.length cp2] 26)) := hX
  have hb : Below v3.heap.size v3 v4 := by rw [hX]; exact (Below.refl _ _).alloc (Nat.le_refl _) _
  have HBelv4 : Hid (Below w.heap.size w v4) := HBelv3.out.trans (hb.mono HBelv3.out.size)
  have Hd : Hid (DBox v4 v1.heap.size safe aa cp ls) := Hd.out.below hb
  have Hq : Hid (DBox v4 v3.heap.size safe2 aa2 cp2 ls2) := by
    have h1 : DBox v4 v3.heap.size safe2 aa2 cp2 ls2 := by rw [hX]; exact .new safe2 cp2 _ hl2
    exact h1
  clear hX hb hl2
  by_cases hok : DevOk safe ls ∧ 0 ≤ n ∧ n < ((safe.size / 64 : Nat) : Int)
  · obtain ⟨hdo, hn0, hn1⟩ := hok
    have HDO : Hid (DevOk safe ls) := hdo
    have HNR : Hid (0 ≤ n ∧ n < ((safe.size / 64 : Nat) : Int)) := ⟨hn0, hn1⟩
    have HLE : Hid (∀ p, (flushL ls p).length ≤ 1048576) := fun p => by rw [flushL_len]; have := HSZ.out.2.1; omega
    have HLE2 : Hid (∀ p q, (flushL (flushL ls p) q).length ≤ 1048576) := fun p q => by rw [flushL_len, flushL_len]; have := HSZ.out.2.1; omega
    clear hdo hn0 hn1
    obtain ⟨le, hle⟩ : ∃ L, L = flushL ls n := ⟨_, rfl⟩
    have HLE3 : Hid (le = flushL ls n) := hle
    have hlen3 : le.length ≤ 1048576 := by rw [hle]; exact HLE.out n
    have HDOe : Hid (DevOk safe le) := by
      have h1 : DevOk safe le := by rw [hle]; exact flush_ok HDO.out n
      exact h1
    clear hle
    have d0 := Hd.out.c0
    have d1 := Hd.out.c1
    have q0 := Hq.out.c0
    have q1 := Hq.out.c1
    go_wp2_with (rw [← HXv4.out])
    refine ((by have h := iFlush v4 safe aa cp ls n Hd.out.lines HDO.out HNR.out.1 HNR.out.2; rw [← HLE3.out] at h; exact h : Calls Try.prog 19 #[.agg #[.string safe, .slice aa ls.length cp], .int .i64 n] v4 (Back safe le true v4))).mono ?_
    rintro e v5 ⟨aa3, cp3, rfl, hl3, hb⟩
    clear d0 d1 q0 q1
    have HBelv5 : Hid (Below w.heap.size w v5) := HBelv4.out.trans (hb.mono HBelv4.out.size)
    have Hd : Hid (DBox v5 v1.heap.size safe aa cp ls) := Hd.out.below hb
    have Hq : Hid (DBox v5 v3.heap.size safe2 aa2 cp2 ls2) := Hq.out.below hb
    clear hb
    obtain ⟨v6, hX⟩ : ∃ X, X = v5.alloc (.cells #[.string safe, .slice aa3 le.length cp3] 26) := ⟨_, rfl⟩
    have HXv6 : Hid (v6 = v5.alloc (.cells #[.string safe, .slice aa3 le.length cp3] 26)) := hX
    have hb : Below v5.heap.size v5 v6 := by rw [hX]; exact (Below.refl _ _).alloc (Nat.le_refl _) _
    have HBelv6 : Hid (Below w.heap.size w v6) := HBelv5.out.trans (hb.mono HBelv5.out.size)
    have Hd : Hid (DBox v6 v1.heap.size safe aa cp ls) := Hd.out.below hb
    have Hq : Hid (DBox v6 v3.heap.size safe2 aa2 cp2 ls2) := Hq.out.below hb
    have He : Hid (DBox v6 v5.heap.size safe aa3 cp3 le) := by
      have h1 : DBox v6 v5.heap.size safe aa3 cp3 le := by rw [hX]; exact .new safe cp3 _ hl3
      exact h1
    clear hX hb hl3
    have d0 := Hd.out.c0
    have d1 := Hd.out.c1
    have q0 := Hq.out.c0
    have q1 := Hq.out.c1
    have e0 := He.out.c0
    have e1 := He.out.c1
    go_wp2_with (rw [← HXv6.out])
    refine ((by have h := sFlush v6 safe aa cp ls n Hd.out.lines HDO.out HNR.out.1 HNR.out.2; rw [← HLE3.out] at h; exact h : Calls Try.prog 31 #[.agg #[.string safe, .slice aa ls.length cp], .int .i64 n] v6 (Back safe le true v6))).mono ?_
    rintro e v7 ⟨aa4, cp4, rfl, hl4, hb⟩
    clear d0 d1 q0 q1 e0 e1
    have HBelv7 : Hid (Below w.heap.size w v7) := HBelv6.out.trans (hb.mono HBelv6.out.size)
    have Hd : Hid (DBox v7 v1.heap.size safe aa cp ls) := Hd.out.below hb
    have Hq : Hid (DBox v7 v3.heap.size safe2 aa2 cp2 ls2) := Hq.out.below hb
    have He : Hid (DBox v7 v5.heap.size safe aa3 cp3 le) := He.out.below hb
    clear hb
    obtain ⟨v8, hX⟩ : ∃ X, X = v7.alloc (.cells #[.string safe, .slice aa4 le.length cp4] 26) := ⟨_, rfl⟩
    have HXv8 : Hid (v8 = v7.alloc (.cells #[.string safe, .slice aa4 le.length cp4] 26)) := hX
    have hb : Below v7.heap.size v7 v8 := by rw [hX]; exact (Below.refl _ _).alloc (Nat.le_refl _) _
    have HBelv8 : Hid (Below w.heap.size w v8) := HBelv7.out.trans (hb.mono HBelv7.out.size)
    have Hd : Hid (DBox v8 v1.heap.size safe aa cp ls) := Hd.out.below hb
    have Hq : Hid (DBox v8 v3.heap.size safe2 aa2 cp2 ls2) := Hq.out.below hb
    have He : Hid (DBox v8 v5.heap.size safe aa3 cp3 le) := He.out.below hb
    have Hx : Hid (DBox v8 v7.heap.size safe aa4 cp4 le) := by
      have h1 : DBox v8 v7.heap.size safe aa4 cp4 le := by rw [hX]; exact .new safe cp4 _ hl4
      exact h1
    clear hX hb hl4
    have d0 := Hd.out.c0
    have d1 := Hd.out.c1
    have q0 := Hq.out.c0
    have q1 := Hq.out.c1
    have e0 := He.out.c0
    have e1 := He.out.c1
    have x0 := Hx.out.c0
    have x1 := Hx.out.c1
    go_wp2_with (rw [← HXv8.out])
    refine (sameDev_same v8 safe aa3 aa4 cp3 cp4 le hlen3 He.out.lines Hx.out.lines).mono ?_
    rintro e v9 ⟨rfl, hb⟩
    clear d0 d1 q0 q1 e0 e1 x0 x1
    have HBelv9 : Hid (Below w.heap.size w v9) := HBelv8.out.trans (hb.mono HBelv8.out.size)
    have Hd : Hid (DBox v9 v1.heap.size safe aa cp ls) := Hd.out.below hb
    have Hq : Hid (DBox v9 v3.heap.size safe2 aa2 cp2 ls2) := Hq.out.below hb
    have He : Hid (DBox v9 v5.heap.size safe aa3 cp3 le) := He.out.below hb
    have Hx : Hid (DBox v9 v7.heap.size safe aa4 cp4 le) := Hx.out.below hb
    clear hb
    by_cases hm : 0 ≤ m ∧ m < ((safe.size / 64 : Nat) : Int)
    · have HMR : Hid (0 ≤ m ∧ m < ((safe.size / 64 : Nat) : Int)) := hm
      clear hm
      obtain ⟨lf, hlf⟩ : ∃ L, L = flushL ls m := ⟨_, rfl⟩
      have HLF : Hid (lf = flushL ls m) := hlf
      have HDOf : Hid (DevOk safe lf) := by
        have h1 : DevOk safe lf := by rw [hlf]; exact flush_ok HDO.out m
        exact h1
      clear hlf
      have d0 := Hd.out.c0
      have d1 := Hd.out.c1
      have q0 := Hq.out.c0
      have q1 := Hq.out.c1
      have e0 := He.out.c0
      have e1 := He.out.c1
      have x0 := Hx.out.c0
      have x1 := Hx.out.c1
      go_wp2_with fail
      refine ((by have h := iFlush v9 safe aa cp ls m Hd.out.lines HDO.out HMR.out.1 HMR.out.2; rw [← HLF.out] at h; exact h : Calls Try.prog 19 #[.agg #[.string safe, .slice aa ls.length cp], .int .i64 m] v9 (Back safe lf true v9))).mono ?_
      rintro e v10 ⟨aa5, cp5, rfl, hl5, hb⟩
      clear d0 d1 q0 q1 e0 e1 x0 x1
      have HBelv10 : Hid (Below w.heap.size w v10) := HBelv9.out.trans (hb.mono HBelv9.out.size)
      have Hd : Hid (DBox v10 v1.heap.size safe aa cp ls) := Hd.out.below hb
      have Hq : Hid (DBox v10 v3.heap.size safe2 aa2 cp2 ls2) := Hq.out.below hb
      have He : Hid (DBox v10 v5.heap.size safe aa3 cp3 le) := He.out.below hb
      have Hx : Hid (DBox v10 v7.heap.size safe aa4 cp4 le) := Hx.out.below hb
      clear hb
      obtain ⟨v11, hX⟩ : ∃ X, X = v10.alloc (.cells #[.string safe, .slice aa5 lf.length cp5] 26) := ⟨_, rfl⟩
      have HXv11 : Hid (v11 = v10.alloc (.cells #[.string safe, .slice aa5 lf.length cp5] 26)) := hX
      have hb : Below v10.heap.size v10 v11 := by rw [hX]; exact (Below.refl _ _).alloc (Nat.le_refl _) _
      have HBelv11 : Hid (Below w.heap.size w v11) := HBelv10.out.trans (hb.mono HBelv10.out.size)
      have Hd : Hid (DBox v11 v1.heap.size safe aa cp ls) := Hd.out.below hb
      have Hq : Hid (DBox v11 v3.heap.size safe2 aa2 cp2 ls2) := Hq.out.below hb
      have He : Hid (DBox v11 v5.heap.size safe aa3 cp3 le) := He.out.below hb
      have Hx : Hid (DBox v11 v7.heap.size safe aa4 cp4 le) := Hx.out.below hb
      have Hf : Hid (DBox v11 v10.heap.size safe aa5 cp5 lf) := by
        have h1 : DBox v11 v10.heap.size safe aa5 cp5 lf := by rw [hX]; exact .new safe cp5 _ hl5
        exact h1
      clear hX hb hl5
      obtain ⟨lx, hlx⟩ : ∃ L, L = flushL le m := ⟨_, rfl⟩
      have HLX1 : Hid (lx = flushL le m) := hlx
      have HLX2 : Hid (lx = flushL lf n) := by
        have h1 : lx = flushL lf n := by rw [hlx, HLE3.out, HLF.out, flush_swap]
        exact h1
      have HDOx : Hid (DevOk safe lx) := by
        have h1 : DevOk safe lx := by rw [hlx]; exact flush_ok HDOe.out m
        exact h1
      have hlenx : lx.length ≤ 1048576 := by rw [hlx, HLE3.out]; exact HLE2.out n m
      have HSEE : Hid (seenStr safe lx = seenStr safe ls) := by
        have h1 : seenStr safe lx = seenStr safe ls := by rw [hlx, flush_seen, HLE3.out, flush_seen]
        exact h1
      clear hlx
      have d0 := Hd.out.c0
      have d1 := Hd.out.c1
      have q0 := Hq.out.c0
      have q1 := Hq.out.c1
      have e0 := He.out.c0
      have e1 := He.out.c1
      have x0 := Hx.out.c0
      have x1 := Hx.out.c1
      have f0 := Hf.out.c0
      have f1 := Hf.out.c1
      go_wp2_with (rw [← HXv11.out])
      refine ((by have h := iFlush v11 safe aa3 cp3 le m He.out.lines HDOe.out HMR.out.1 HMR.out.2; rw [← HLX1.out] at h; exact h : Calls Try.prog 19 #[.agg #[.string safe, .slice aa3 le.length cp3], .int .i64 m] v11 (Back safe lx true v11))).mono ?_
      rintro e v12 ⟨aa6, cp6, rfl, hl6, hb⟩
      clear d0 d1 q0 q1 e0 e1 x0 x1 f0 f1
      have HBelv12 : Hid (Below w.heap.size w v12) := HBelv11.out.trans (hb.mono HBelv11.out.size)
      have Hd : Hid (DBox v12 v1.heap.size safe aa cp ls) := Hd.out.below hb
      have Hq : Hid (DBox v12 v3.heap.size safe2 aa2 cp2 ls2) := Hq.out.below hb
      have He : Hid (DBox v12 v5.heap.size safe aa3 cp3 le) := He.out.below hb
      have Hx : Hid (DBox v12 v7.heap.size safe aa4 cp4 le) := Hx.out.below hb
      have Hf : Hid (DBox v12 v10.heap.size safe aa5 cp5 lf) := Hf.out.below hb
      clear hb
      obtain ⟨v13, hX⟩ : ∃ X, X = v12.alloc (.cells #[.string safe, .slice aa6 lx.length cp6] 26) := ⟨_, rfl⟩
      have HXv13 : Hid (v13 = v12.alloc (.cells #[.string safe, .slice aa6 lx.length cp6] 26)) := hX
      have hb : Below v12.heap.size v12 v13 := by rw [hX]; exact (Below.refl _ _).alloc (Nat.le_refl _) _
      have HBelv13 : Hid (Below w.heap.size w v13) := HBelv12.out.trans (hb.mono HBelv12.out.size)
      have Hd : Hid (DBox v13 v1.heap.size safe aa cp ls) := Hd.out.below hb
      have Hq : Hid (DBox v13 v3.heap.size safe2 aa2 cp2 ls2) := Hq.out.below hb
      have He : Hid (DBox v13 v5.heap.size safe aa3 cp3 le) := He.out.below hb
      have Hx : Hid (DBox v13 v7.heap.size safe aa4 cp4 le) := Hx.out.below hb
      have Hf : Hid (DBox v13 v10.heap.size safe aa5 cp5 lf) := Hf.out.below hb
      have Hy : Hid (DBox v13 v12.heap.size safe aa6 cp6 lx) := by
        have h1 : DBox v13 v12.heap.size safe aa6 cp6 lx := by rw [hX]; exact .new safe cp6 _ hl6
        exact h1
      clear hX hb hl6
      have d0 := Hd.out.c0
      have d1 := Hd.out.c1
      have q0 := Hq.out.c0
      have q1 := Hq.out.c1
      have e0 := He.out.c0
      have e1 := He.out.c1
      have x0 := Hx.out.c0
      have x1 := Hx.out.c1
      have f0 := Hf.out.c0
      have f1 := Hf.out.c1
      have y0 := Hy.out.c0
      have y1 := Hy.out.c1
      go_wp2_with (rw [← HXv13.out])
      refine ((by have h := iFlush v13 safe aa5 cp5 lf n Hf.out.lines HDOf.out HNR.out.1 HNR.out.2; rw [← HLX2.out] at h; exact h : Calls Try.prog 19 #[.agg #[.string safe, .slice aa5 lf.length cp5], .int .i64 n] v13 (Back safe lx true v13))).mono ?_
      rintro e v14 ⟨aa7, cp7, rfl, hl7, hb⟩
      clear d0 d1 q0 q1 e0 e1 x0 x1 f0 f1 y0 y1
      have HBelv14 : Hid (Below w.heap.size w v14) := HBelv13.out.trans (hb.mono HBelv13.out.size)
      have Hd : Hid (DBox v14 v1.heap.size safe aa cp ls) := Hd.out.below hb
      have Hq : Hid (DBox v14 v3.heap.size safe2 aa2 cp2 ls2) := Hq.out.below hb
      have He : Hid (DBox v14 v5.heap.size safe aa3 cp3 le) := He.out.below hb
      have Hx : Hid (DBox v14 v7.heap.size safe aa4 cp4 le) := Hx.out.below hb
      have Hf : Hid (DBox v14 v10.heap.size safe aa5 cp5 lf) := Hf.out.below hb
      have Hy : Hid (DBox v14 v12.heap.size safe aa6 cp6 lx) := Hy.out.below hb
      clear hb
      obtain ⟨v15, hX⟩ : ∃ X, X = v14.alloc (.cells #[.string safe, .slice aa7 lx.length cp7] 26) := ⟨_, rfl⟩
      have HXv15 : Hid (v15 = v14.alloc (.cells #[.string safe, .slice aa7 lx.length cp7] 26)) := hX
      have hb : Below v14.heap.size v14 v15 := by rw [hX]; exact (Below.refl _ _).alloc (Nat.le_refl _) _
      have HBelv15 : Hid (Below w.heap.size w v15) := HBelv14.out.trans (hb.mono HBelv14.out.size)
      have Hd : Hid (DBox v15 v1.heap.size safe aa cp ls) := Hd.out.below hb
      have Hq : Hid (DBox v15 v3.heap.size safe2 aa2 cp2 ls2) := Hq.out.below hb
      have He : Hid (DBox v15 v5.heap.size safe aa3 cp3 le) := He.out.below hb
      have Hx : Hid (DBox v15 v7.heap.size safe aa4 cp4 le) := Hx.out.below hb
      have Hf : Hid (DBox v15 v10.heap.size safe aa5 cp5 lf) := Hf.out.below hb
      have Hy : Hid (DBox v15 v12.heap.size safe aa6 cp6 lx) := Hy.out.below hb
      have Hz : Hid (DBox v15 v14.heap.size safe aa7 cp7 lx) := by
        have h1 : DBox v15 v14.heap.size safe aa7 cp7 lx := by rw [hX]; exact .new safe cp7 _ hl7
        exact h1
      clear hX hb hl7
      have HSA : Hid (∀ n : Later v15, Calls _ _ _ n.world _) := fun n => sameDev_same n.world safe aa6 aa7 cp6 cp7 lx hlenx (Hy.out.later n).lines (Hz.out.later n).lines
      have HSE : Hid (∀ n : Later v15, Calls _ _ _ n.world _) := fun n => iSeen n.world safe aa6 cp6 lx (Hy.out.later n).lines HDOx.out
      rw [HSEE.out] at HSE
      have HSS : Hid (∀ n : Later v15, Calls _ _ _ n.world _) := fun n => sSeen n.world safe aa cp ls (Hd.out.later n).lines HDO.out
      generalize seenStr safe ls = st at HSE HSS
      have hst : (st.toList == st.toList) = true := by simp
      have hsf : (safe.toList == safe.toList) = true := by simp
      have d0 := Hd.out.c0
      have d1 := Hd.out.c1
      have q0 := Hq.out.c0
      have q1 := Hq.out.c1
      have e0 := He.out.c0
      have e1 := He.out.c1
      have x0 := Hx.out.c0
      have x1 := Hx.out.c1
      have f0 := Hf.out.c0
      have f1 := Hf.out.c1
      have y0 := Hy.out.c0
      have y1 := Hy.out.c1
      have z0 := Hz.out.c0
      have z1 := Hz.out.c1
      have Ld0 := fun n : Later v15 => Later.cell d0 n
      have Ld1 := fun n : Later v15 => Later.cell d1 n
      have Ly0 := fun n : Later v15 => Later.cell y0 n
      have Ly1 := fun n : Later v15 => Later.cell y1 n
      have Lz0 := fun n : Later v15 => Later.cell z0 n
      have Lz1 := fun n : Later v15 => Later.cell z1 n
      go_wp2_with (rw [← HXv15.out])
      clear d0 d1 q0 q1 e0 e1 x0 x1 f0 f1 y0 y1 z0 z1
      have hne := some_later v15
      refine region_later (by kernel_rfl) (by kernel_rfl) ?_
      repeat (go_big_quiet_step (first | (go_at_call 13; exact later_of (HSA.out _)) | (go_at_call 14; exact later_of (HSE.out _)) | (go_at_call 10; exact later_of (HSS.out _))))
      refine wpQuiet_nil ?_
      intro w' hw'
      obtain ⟨nn, rfl⟩ := hw'
      have HB9 : Hid (Below w.heap.size w nn.world) := HBelv15.out.trans (nn.below.mono HBelv15.out.size)
      generalize nn.world = w9 at HB9 ⊢
      clear Ld0 Ld1 Ly0 Ly1 Lz0 Lz1
      go_wp2
      go_ret
      exact ⟨rfl, HB9.out⟩
    · obtain ⟨z0, hz0⟩ : ∃ L : List Ln, L = [] := ⟨_, rfl⟩
      have HZ0 : Hid (z0 = []) := hz0
      clear hz0
      have d0 := Hd.out.c0
      have d1 := Hd.out.c1
      have q0 := Hq.out.c0
      have q1 := Hq.out.c1
      have e0 := He.out.c0
      have e1 := He.out.c1
      have x0 := Hx.out.c0
      have x1 := Hx.out.c1
      go_wp2_with fail
      refine (iFlush_no v9 safe aa cp ls m Hd.out.lines HSZ.out (fun q => hm q.2) z0 HZ0.out).mono ?_
      rintro e v10 ⟨aa5, cp5, rfl, hl5, hb⟩
      clear d0 d1 q0 q1 e0 e1 x0 x1
      have HBelv10 : Hid (Below w.heap.size w v10) := HBelv9.out.trans (hb.mono HBelv9.out.size)
      have Hd : Hid (DBox v10 v1.heap.size safe aa cp ls) := Hd.out.below hb
      have Hq : Hid (DBox v10 v3.heap.size safe2 aa2 cp2 ls2) := Hq.out.below hb
      have He : Hid (DBox v10 v5.heap.size safe aa3 cp3 le) := He.out.below hb
      have Hx : Hid (DBox v10 v7.heap.size safe aa4 cp4 le) := Hx.out.below hb
      clear hb
      obtain ⟨v11, hX⟩ : ∃ X, X = v10.alloc (.cells #[.string ⟨#[]⟩, .slice aa5 z0.length cp5] 26) := ⟨_, rfl⟩
      have HXv11 : Hid (v11 = v10.alloc (.cells #[.string ⟨#[]⟩, .slice aa5 z0.length cp5] 26)) := hX
      have hb : Below v10.heap.size v10 v11 := by rw [hX]; exact (Below.refl _ _).alloc (Nat.le_refl _) _
      have HBelv11 : Hid (Below w.heap.size w v11) := HBelv10.out.trans (hb.mono HBelv10.out.size)
      have Hd : Hid (DBox v11 v1.heap.size safe aa cp ls) := Hd.out.below hb
      have Hq : Hid (DBox v11 v3.heap.size safe2 aa2 cp2 ls2) := Hq.out.below hb
      have He : Hid (DBox v11 v5.heap.size safe aa3 cp3 le) := He.out.below hb
      have Hx : Hid (DBox v11 v7.heap.size safe aa4 cp4 le) := Hx.out.below hb
      have Hf : Hid (DBox v11 v10.heap.size ⟨#[]⟩ aa5 cp5 z0) := by
        have h1 : DBox v11 v10.heap.size ⟨#[]⟩ aa5 cp5 z0 := by rw [hX]; exact .new ⟨#[]⟩ cp5 _ hl5
        exact h1
      clear hX hb hl5
      have d0 := Hd.out.c0
      have d1 := Hd.out.c1
      have q0 := Hq.out.c0
      have q1 := Hq.out.c1
      have e0 := He.out.c0
      have e1 := He.out.c1
      have x0 := Hx.out.c0
      have x1 := Hx.out.c1
      have f0 := Hf.out.c0
      have f1 := Hf.out.c1
      go_wp2_with (rw [← HXv11.out])
      go_ret
      exact ⟨rfl, HBelv11.out⟩
  · obtain ⟨z0, hz0⟩ : ∃ L : List Ln, L = [] := ⟨_, rfl⟩
    have HZ0 : Hid (z0 = []) := hz0
    have hz0l : z0.length ≤ 1048576 := by rw [hz0]; simp
    clear hz0
    have d0 := Hd.out.c0
    have d1 := Hd.out.c1
    have q0 := Hq.out.c0
    have q1 := Hq.out.c1
    go_wp2_with (rw [← HXv4.out])
    refine (iFlush_no v4 safe aa cp ls n Hd.out.lines HSZ.out hok z0 HZ0.out).mono ?_
    rintro e v5 ⟨aa3, cp3, rfl, hl3, hb⟩
    clear d0 d1 q0 q1
    have HBelv5 : Hid (Below w.heap.size w v5) := HBelv4.out.trans (hb.mono HBelv4.out.size)
    have Hd : Hid (DBox v5 v1.heap.size safe aa cp ls) := Hd.out.below hb
    have Hq : Hid (DBox v5 v3.heap.size safe2 aa2 cp2 ls2) := Hq.out.below hb
    clear hb
    obtain ⟨v6, hX⟩ : ∃ X, X = v5.alloc (.cells #[.string ⟨#[]⟩, .slice aa3 z0.length cp3] 26) := ⟨_, rfl⟩
    have HXv6 : Hid (v6 = v5.alloc (.cells #[.string ⟨#[]⟩, .slice aa3 z0.length cp3] 26)) := hX
    have hb : Below v5.heap.size v5 v6 := by rw [hX]; exact (Below.refl _ _).alloc (Nat.le_refl _) _
    have HBelv6 : Hid (Below w.heap.size w v6) := HBelv5.out.trans (hb.mono HBelv5.out.size)
    have Hd : Hid (DBox v6 v1.heap.size safe aa cp ls) := Hd.out.below hb
    have Hq : Hid (DBox v6 v3.heap.size safe2 aa2 cp2 ls2) := Hq.out.below hb
    have He : Hid (DBox v6 v5.heap.size ⟨#[]⟩ aa3 cp3 z0) := by
      have h1 : DBox v6 v5.heap.size ⟨#[]⟩ aa3 cp3 z0 := by rw [hX]; exact .new ⟨#[]⟩ cp3 _ hl3
      exact h1
    clear hX hb hl3
    have d0 := Hd.out.c0
    have d1 := Hd.out.c1
    have q0 := Hq.out.c0
    have q1 := Hq.out.c1
    have e0 := He.out.c0
    have e1 := He.out.c1
    go_wp2_with (rw [← HXv6.out])
    refine (sFlush_no v6 safe aa cp ls n Hd.out.lines HSZ.out hok z0 HZ0.out).mono ?_
    rintro e v7 ⟨aa4, cp4, rfl, hl4, hb⟩
    clear d0 d1 q0 q1 e0 e1
    have HBelv7 : Hid (Below w.heap.size w v7) := HBelv6.out.trans (hb.mono HBelv6.out.size)
    have Hd : Hid (DBox v7 v1.heap.size safe aa cp ls) := Hd.out.below hb
    have Hq : Hid (DBox v7 v3.heap.size safe2 aa2 cp2 ls2) := Hq.out.below hb
    have He : Hid (DBox v7 v5.heap.size ⟨#[]⟩ aa3 cp3 z0) := He.out.below hb
    clear hb
    obtain ⟨v8, hX⟩ : ∃ X, X = v7.alloc (.cells #[.string ⟨#[]⟩, .slice aa4 z0.length cp4] 26) := ⟨_, rfl⟩
    have HXv8 : Hid (v8 = v7.alloc (.cells #[.string ⟨#[]⟩, .slice aa4 z0.length cp4] 26)) := hX
    have hb : Below v7.heap.size v7 v8 := by rw [hX]; exact (Below.refl _ _).alloc (Nat.le_refl _) _
    have HBelv8 : Hid (Below w.heap.size w v8) := HBelv7.out.trans (hb.mono HBelv7.out.size)
    have Hd : Hid (DBox v8 v1.heap.size safe aa cp ls) := Hd.out.below hb
    have Hq : Hid (DBox v8 v3.heap.size safe2 aa2 cp2 ls2) := Hq.out.below hb
    have He : Hid (DBox v8 v5.heap.size ⟨#[]⟩ aa3 cp3 z0) := He.out.below hb
    have Hx : Hid (DBox v8 v7.heap.size ⟨#[]⟩ aa4 cp4 z0) := by
      have h1 : DBox v8 v7.heap.size ⟨#[]⟩ aa4 cp4 z0 := by rw [hX]; exact .new ⟨#[]⟩ cp4 _ hl4
      exact h1
    clear hX hb hl4
    have d0 := Hd.out.c0
    have d1 := Hd.out.c1
    have q0 := Hq.out.c0
    have q1 := Hq.out.c1
    have e0 := He.out.c0
    have e1 := He.out.c1
    have x0 := Hx.out.c0
    have x1 := Hx.out.c1
    go_wp2_with (rw [← HXv8.out])
    refine (sameDev_same v8 ⟨#[]⟩ aa3 aa4 cp3 cp4 z0 hz0l He.out.lines Hx.out.lines).mono ?_
    rintro e v9 ⟨rfl, hb⟩
    clear d0 d1 q0 q1 e0 e1 x0 x1
    have HBelv9 : Hid (Below w.heap.size w v9) := HBelv8.out.trans (hb.mono HBelv8.out.size)
    have Hd : Hid (DBox v9 v1.heap.size safe aa cp ls) := Hd.out.below hb
    have Hq : Hid (DBox v9 v3.heap.size safe2 aa2 cp2 ls2) := Hq.out.below hb
    have He : Hid (DBox v9 v5.heap.size ⟨#[]⟩ aa3 cp3 z0) := He.out.below hb
    have Hx : Hid (DBox v9 v7.heap.size ⟨#[]⟩ aa4 cp4 z0) := Hx.out.below hb
    clear hb
    have d0 := Hd.out.c0
    have d1 := Hd.out.c1
    have q0 := Hq.out.c0
    have q1 := Hq.out.c1
    have e0 := He.out.c0
    have e1 := He.out.c1
    have x0 := Hx.out.c0
    have x1 := Hx.out.c1
    go_wp2_with fail
    refine (sameDev_same v9 ⟨#[]⟩ aa3 aa4 cp3 cp4 z0 hz0l He.out.lines Hx.out.lines).mono ?_
    rintro e v10 ⟨rfl, hb⟩
    clear d0 d1 q0 q1 e0 e1 x0 x1
    have HBelv10 : Hid (Below w.heap.size w v10) := HBelv9.out.trans (hb.mono HBelv9.out.size)
    have Hd : Hid (DBox v10 v1.heap.size safe aa cp ls) := Hd.out.below hb
    have Hq : Hid (DBox v10 v3.heap.size safe2 aa2 cp2 ls2) := Hq.out.below hb
    have He : Hid (DBox v10 v5.heap.size ⟨#[]⟩ aa3 cp3 z0) := He.out.below hb
    have Hx : Hid (DBox v10 v7.heap.size ⟨#[]⟩ aa4 cp4 z0) := Hx.out.below hb
    clear hb
    go_wp2
    go_ret
    exact ⟨rfl, HBelv10.out⟩

set_option maxRecDepth 100000 in
theorem lifted (os : Os) (started : os.Started) (H : Type) (enc : TypeId × Value → H) :
    ReturnsInHanded {} Try.checked os 7 .any (Rows.fnFlushesSpec.pre6 enc Try.prog Try.f7 Rows.fnFlushesRow.domain false) (Rows.fnFlushesSpec.post enc Try.prog Try.f7 false true false false) := by
  refine returnsInHanded_of_change (C := Try.checked) own started (by kernel_rfl) Try.func7
    (ChangeSpec.witness6 (enc := enc) (C := Try.checked) false ⟨#[], #[.slice none 0 0, .slice none 0 0], []⟩ 8 (by kernel_rfl) (by kernel_rfl) (by kernel_rfl) (by kernel_rfl)) ?_
  intro W base args ds gs before hval0 hW hcnd _
  have hval : ∀ (j : Nat) t v, Try.f7.params[j]? = some t → args[j]? = some v → Value.okWide Try.prog W .any base t v := hval0
  have hW' := hW
  obtain ⟨p, q, hA0, hV, rfl, hfz, hnd⟩ := hW
  have hA : DataW.TrodAll enc Try.prog W 0 (fun _ => true) true Try.f7.params.toList args.toList ds p := hA0
  rw [Try.params7] at hA hval
  obtain ⟨v0, vs0, d0, ds0, p0, q0, hargs, rfl, rfl, h0, r0⟩ := trodAll_cons hA
  obtain ⟨v1, vs1, d1, ds1, p1, q1, rfl, rfl, rfl, h1, r1⟩ := trodAll_cons r0
  obtain ⟨rfl, rfl, rfl⟩ := trodAll_nil r1
  obtain rfl : args = #[v0, v1] := by cases args; simp_all
  obtain ⟨rfl, rfl⟩ := trodVars_none hV
  obtain ⟨a0, len0, cap0, rfl⟩ := okWide_slice Try.underlying22 (hval 0 22 v0 rfl rfl)
  have k0 := h0
  have lt0 : ∀ x ∈ p0, x.block < W.heap.size := by obtain ⟨m, hm⟩ := k0; exact DataW.trod_lt m _ _ _ hm
  obtain ⟨z0, w0⟩ : ∃ zs, IsRow .u8 W a0 len0 cap0 zs := by
    obtain ⟨fuel, hf⟩ := h0
    rcases open_ints Try.underlying22 Try.underlying5 (by kernel_rfl) hf with ⟨hcs, _⟩ | ⟨x, l, c, zs, hcs, _, hl, hm, hz, _, hcell, hwz⟩
    · simp [Value.cells] at hcs
      obtain ⟨rfl, rfl, rfl⟩ := hcs
      exact ⟨[], .inl ⟨rfl, rfl, rfl, rfl⟩⟩
    · simp [Value.cells] at hcs
      obtain ⟨rfl, rfl, rfl⟩ := hcs
      exact ⟨zs, .inr ⟨_, rfl, hl, hm, by simpa using hz, hcell, hwz⟩⟩
  obtain ⟨a1, len1, cap1, rfl⟩ := okWide_slice Try.underlying22 (hval 1 22 v1 rfl rfl)
  have k1 := h1
  have lt1 : ∀ x ∈ p1, x.block < W.heap.size := by obtain ⟨m, hm⟩ := k1; exact DataW.trod_lt m _ _ _ hm
  obtain ⟨z1, w1⟩ : ∃ zs, IsRow .u8 W a1 len1 cap1 zs := by
    obtain ⟨fuel, hf⟩ := h1
    rcases open_ints Try.underlying22 Try.underlying5 (by kernel_rfl) hf with ⟨hcs, _⟩ | ⟨x, l, c, zs, hcs, _, hl, hm, hz, _, hcell, hwz⟩
    · simp [Value.cells] at hcs
      obtain ⟨rfl, rfl, rfl⟩ := hcs
      exact ⟨[], .inl ⟨rfl, rfl, rfl, rfl⟩⟩
    · simp [Value.cells] at hcs
      obtain ⟨rfl, rfl, rfl⟩ := hcs
      exact ⟨zs, .inr ⟨_, rfl, hl, hm, by simpa using hz, hcell, hwz⟩⟩
  clear hA0 hval0
  refine (walk a0 len0 cap0 z0 a1 len1 cap1 z1 W w0 w1).mono fun e W' ⟨he, bel⟩ => ?_
  subst he
  exact ⟨_, rfl, _, _, _, [], _, [], hW', trodAll_mk1 (shut_bool Try.underlying4 _), (trodAll_cons_mk (Below.trod laidOut (by kernel_rfl) (of_decide_eq_true (by kernel_rfl)) k0 bel lt0) (trodAll_cons_mk (Below.trod laidOut (by kernel_rfl) (of_decide_eq_true (by kernel_rfl)) k1 bel lt1) trodAll_mk0)), rfl, bel.frame _, fun h => by cases h⟩

theorem over : Rows.fnFlushesRow.holds Try.pinned (OpenSpec.ofChange Rows.fnFlushesSpec) :=
  OpenClaim.holds_of_wide 7 Try.f7 rfl rfl rfl rfl rfl rfl rfl ⟨rfl, rfl, rfl, rfl, rfl⟩ rfl rfl rfl rfl rfl (by kernel_rfl) Try.func7 (by kernel_rfl)
    (of_decide_eq_true (by kernel_rfl)) (by unfold Func.isWrapper; first | (rw [if_pos (by decide +kernel)]; kernel_rfl) | (rw [if_neg (by decide +kernel)]; exact ⟨rfl, rfl⟩))
    (fun os started H enc _ => lifted os started H enc)

theorem proved : Rows.FnFlushesSaid := over
#print axioms proved
end Go.Proofs.Ytgpmpijaggnocaa.fnFlushes
