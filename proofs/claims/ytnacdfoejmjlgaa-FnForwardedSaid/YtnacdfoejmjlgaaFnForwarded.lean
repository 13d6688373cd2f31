/-
  FnForwarded: for every code the law on drawn objects and references (what is forwarded has its type and its whole numbers, each reference is what it was or one of those to which) returns true, and the code reads as before; no condition.
-/
import Derived.Test.YtnacdfoejmjlgaaRows
import Derived.WalkKit
import Derived.Test.YtnacdfoejmjlgaaObjLaw
import Derived.Test.YtnacdfoejmjlgaaFwd6
import Derived.Test.YtnacdfoejmjlgaaLater
import Derived.Test.YtnacdfoejmjlgaaDrawFwd
import Derived.Deep.RegionHeld3
import Derived.ProofKit
import Derived.OpenShut
import Derived.ShutString
import Derived.ChangeOld
import Derived.Below
namespace Go.Proofs.Ytnacdfoejmjlgaa.fnForwarded
open Go.ChangeShapes Go.WideShapes Go.ChangeAt Go.RowKit
open Go.ChangeMaps (open_string shut_string)
set_option linter.unusedVariables false
open rd txt ints kinds ref obj later

theorem own : ownKnob Try.prog.godebug = none := by kernel_rfl
theorem laidOut : laidOutB Try.prog = true := by kernel_rfl

/-- WHAT THE WALK IS TOLD OF A SLICE OF INTEGERS THAT CAME IN: it is nil; or it leads to a row of 'cap' cells, the numbers 'zs' (the first 'len' are its elements, the rest its spare room), each fitting its kind. -/
def IsRow (k : IntKind) (w : World) (a : Option Addr) (len cap : Nat) (zs : List Int) : Prop :=
  (a = none ∧ len = 0 ∧ cap = 0 ∧ zs = []) ∨
  ∃ x, a = some x ∧ len ≤ cap ∧ cap ≤ maxLen ∧ zs.length = cap ∧ (∀ i, i < zs.length → w.cell? (x.add i) = some (.int k (zs.getD i 0))) ∧ ∀ n ∈ zs, (Lit.int k n).wf = true

set_option maxHeartbeats 4000000 in
set_option maxRecDepth 20000 in
theorem walk (a0 : Option Addr) (len0 cap0 : Nat) (z0 : List Int) (w : World) (w0 : IsRow .u8 w a0 len0 cap0 z0) :
    Calls Try.prog 4 #[.slice a0 len0 cap0] w fun e w' => e = .returned (.bool true) ∧ Below w.heap.size w w' := by
  have c0 := code_of w0
  clear w0
  by_cases hb0 : 1048576 < len0
  · go_enter Try.func4, Try.ntmps4
    go_wp2_with fail
    refine (big_yes _ a0 len0 cap0 hb0).mono ?_
    rintro e w' ⟨rfl, rfl⟩
    go_wp2
    go_ret
    exact ⟨rfl, Below.refl _ _⟩
  have HC : Hid (RdCode w w.heap.size a0 len0) := c0
  clear c0
  go_enter Try.func4, Try.ntmps4
  go_wp2_with fail
  refine (big_no _ a0 len0 cap0 (by omega)).mono ?_
  rintro e w' ⟨rfl, rfl⟩
  go_wp2_with fail
  refine (draw_forwarded _ a0 len0 cap0 (by omega) HC.out).mono ?_
  rintro e w1 ⟨tv, t, ov, fv, qv, rfl, hwt, ts, os, fs, qs, ⟨ht1, ht3, htz⟩, ⟨ho23, how⟩, ⟨hf8, hfw⟩, ⟨hq8, hqw⟩, rt, ro, rf, rq, hb⟩
  obtain ⟨at1, gt, ct, rfl, hgt, htx⟩ := txts_of_row rt
  obtain ⟨ao, go, co, rfl, hgo, hio⟩ := ints_of_row ro
  obtain ⟨af, gf, cf, rfl, hgf, hif⟩ := ints_of_row rf
  obtain ⟨aq, gq, cq, rfl, hgq, hiq⟩ := ints_of_row rq
  obtain ⟨Y, hY⟩ : ∃ Y, Y = w1.alloc (.cells #[.int .i64 t, .slice ao os.length co] 27) := ⟨_, rfl⟩
  have HY : Hid (Y = w1.alloc (.cells #[.int .i64 t, .slice ao os.length co] 27)) := hY
  have hby : Below w1.heap.size w1 Y := by rw [hY]; exact (Below.refl _ _).alloc (Nat.le_refl _) _
  have HBY : Hid (Below w.heap.size w Y) := hb.trans (hby.mono hb.size)
  obtain ⟨yb, hyb⟩ : ∃ y, y = w1.heap.size := ⟨_, rfl⟩
  have HYB : Hid (yb = w1.heap.size) := hyb
  have hov : OVar yb t ao go os.length co os Y := by rw [hY, hyb]; exact OVar.start w1 t ao go os.length co os _ rfl hio
  have HOV : Hid (OVar yb t ao go os.length co os Y) := hov
  have HTX : Hid (Txts Y at1 gt ts) := htx.below hby
  have HIF : Hid (Ints Y af gf fs) := hif.below hby
  have HIQ : Hid (Ints Y aq gq qs) := hiq.below hby
  have hzz : ∀ i (hi : i < ts.length), ts[i].size ≤ 1048576 := fun i hi => by have := (htz ts[i] (List.getElem_mem hi)).2; omega
  have hO63 : ∀ x ∈ os, x < 9223372036854775808 := fun x hx => by have := how x hx; simp [Lit.wf] at this; omega
  have hQ63 : ∀ x ∈ qs, x < 9223372036854775808 := fun x hx => by have := hqw x hx; simp [Lit.wf] at this; omega
  have HI1 : Hid (∀ w', Below Y.heap.size Y w' → Calls Try.prog 17 #[.slice at1 ts.length ct, .agg #[.int .i64 t, .slice ao os.length co], .slice af fs.length cf, .slice aq qs.length cq] w' fun e w'' => FOut (fwT ts t os fs qs) (fwV ts t os fs qs).length (fwV ts t os fs qs) w' e w'') := fun w' h =>
    impl_forward w' at1 ct ts t ao co os af aq cf cq fs qs (by omega) hzz (HTX.out.below h).strs (HOV.out.below h).tx.nums hO63 (by omega) (by omega) (HIF.out.below h).nums (HIQ.out.below h).nums hQ63
  have HS1a : Hid (∀ w', Below Y.heap.size Y w' → Calls Try.prog 18 #[.slice at1 ts.length ct, .agg #[.int .i64 t, .slice ao os.length co], .slice af fs.length cf, .slice aq qs.length cq] w' fun e w'' => FOut (fwT ts t os fs qs) (fwV ts t os fs qs).length (fwV ts t os fs qs) w' e w'') := fun w' h =>
    spec_forward w' at1 ct ts t ao co os af aq cf cq fs qs (by omega) hzz (HTX.out.below h).strs (HOV.out.below h).tx.nums hO63 (by omega) (by omega) (HIF.out.below h).nums (HIQ.out.below h).nums hQ63
  have HI0 : Hid (objOkB ts t os = true → ∀ w', Below Y.heap.size Y w' → Calls Try.prog 17 #[.slice at1 ts.length ct, .agg #[.int .i64 t, .slice ao os.length co], .slice none 0 0, .slice none 0 0] w' fun e w'' => FOut t os.length os w' e w'') := fun hk w' h => by
    have h1 := impl_forward w' at1 ct ts t ao co os none none 0 0 [] [] (by omega) hzz (HTX.out.below h).strs (HOV.out.below h).tx.nums hO63 (by simp) (by simp) (fun i hi => by cases hi) (fun i hi => by cases hi) (fun x hx => by cases hx)
    rw [(fw_same hk).1, (fw_same hk).2] at h1
    exact h1
  have HOKa : Hid (∀ w', Below Y.heap.size Y w' → Calls Try.prog 13 #[.slice at1 ts.length ct, .agg #[.int .i64 t, .slice ao os.length co]] w' fun e w'' => e = .returned (.bool (objOkB ts t os)) ∧ Below w'.heap.size w' w'') := fun w' h =>
    spec_objok w' at1 ct ts t ao co os (by omega) hzz (HTX.out.below h).strs (HOV.out.below h).tx.nums
  have hxlen : (fwV ts t os fs qs).length ≤ 23 := by have := fwV_len ts t os fs qs; omega
  have hx63 : fs.length = qs.length → 0 < (fwV ts t os fs qs).length → ∀ x ∈ fwV ts t os fs qs, x < 9223372036854775808 := fun h1 h2 x hx => by
    obtain ⟨e1, _, e3⟩ := fw_each h1 (fw_empty h2)
    obtain ⟨i, hi, he⟩ := List.getElem_of_mem hx
    have h3 := e3 i (by omega)
    rw [List.getD_eq_getElem?_getD, List.getElem?_eq_getElem hi] at h3
    rcases h3 with h3 | ⟨_, _, h3⟩
    · rw [← he]
      have h4 : (fwV ts t os fs qs)[i] = os.getD i 0 := h3
      rw [h4]
      exact hO63 _ (getD_in os i (by omega))
    · rw [← he]
      exact hQ63 _ h3
  have HIK : Hid (fs.length = qs.length → 0 < (fwV ts t os fs qs).length → ∀ (w' : World) (b : Option Addr) (vc : Nat), Below Y.heap.size Y w' → Nums w' b (fwV ts t os fs qs) → Calls Try.prog 14 #[.slice at1 ts.length ct, .agg #[.int .i64 t, .slice b (fwV ts t os fs qs).length vc]] w' fun e w'' => e = .returned (.bool true) ∧ Below w'.heap.size w' w'') := fun h1 h2 w' b vc h q => by
    have h3 := impl_objok w' at1 ct ts t b vc (fwV ts t os fs qs) (by omega) hzz (HTX.out.below h).strs q (hx63 h1 h2)
    rw [fw_right h1 (fw_empty h2)] at h3
    exact h3
  have HG : Hid (fwB ts t os fs qs = true → objOkB ts t os = true ∧ fs.length = qs.length ∧ 0 < (fwV ts t os fs qs).length ∧ (fwV ts t os fs qs).length = os.length ∧ fwT ts t os fs qs = t ∧ ∀ i, i < os.length → (fwV ts t os fs qs).getD i 0 = os.getD i 0 ∨ (isR (kd ts t) i = true ∧ os.getD i 0 ∈ fs ∧ (fwV ts t os fs qs).getD i 0 ∈ qs)) := fun hb => by
    have hb2 := hb
    unfold fwB at hb2
    rw [Bool.and_eq_true] at hb2
    have hf := hb2.2
    unfold fwdOkB at hf
    rw [Bool.and_eq_true] at hf
    have hlen : fs.length = qs.length := by have := hf.1; simp at this; omega
    obtain ⟨e1, e2, e3⟩ := fw_each hlen hb
    obtain ⟨_, _, _, _, _, _, _, _, h1v⟩ := objOk_in hb2.1
    exact ⟨hb2.1, hlen, by omega, e1, e2, e3⟩
  have HNO : Hid (fwB ts t os fs qs = false → fwT ts t os fs qs = 0 ∧ fwV ts t os fs qs = []) := fun h => by
    unfold fwT fwV
    rw [h]
    exact ⟨if_neg (by decide), if_neg (by decide)⟩
  have HSN0 : Hid (fwB ts t os fs qs = false → ∀ w', Below Y.heap.size Y w' → Calls Try.prog 18 #[.slice at1 ts.length ct, .agg #[.int .i64 t, .slice ao os.length co], .slice af fs.length cf, .slice aq qs.length cq] w' fun e w'' => e = .returned (.agg #[.int .i64 0, .slice none 0 0]) ∧ Below w'.heap.size w' w'') := fun hno w' h =>
    spec_forward_no w' at1 ct ts t ao co os af aq cf cq fs qs (by omega) hzz (HTX.out.below h).strs (HOV.out.below h).tx.nums hO63 (by omega) (by omega) (HIF.out.below h).nums (HIQ.out.below h).nums hQ63 hno
  have HKN : Hid (objOkB ts t os = true → ∃ p : Nat, ∃ hp : p < ts.length, t = (p : Int) ∧ os.length = ts[p].size ∧ kd ts t = ts[p]) := fun h => ok_known h
  have HTS : Hid (ts.length ≤ 3) := ht3
  have HFL : Hid (fs.length ≤ 8 ∧ qs.length ≤ 8 ∧ os.length ≤ 23) := ⟨hf8, hq8, ho23⟩
  generalize fwT ts t os fs qs = ft at HI1 HS1a HG HNO
  generalize fwV ts t os fs qs = fx at HI1 HS1a HG HIK hxlen hx63 HNO
  generalize fwB ts t os fs qs = fb at HG HNO HSN0
  generalize hok : objOkB ts t os = ob at HI0 HOKa HG HKN
  obtain ⟨n, hn⟩ : ∃ n, n = fx.length := ⟨_, rfl⟩
  rw [← hn] at HI1 HS1a HG HIK hxlen
  have HNL : Hid (fx.length = n) := hn.symm
  have HNB : Hid (n ≤ 1048576) := by show n ≤ 1048576; omega
  clear hn hxlen hx63 hok hb hby hY hyb hov htx hif hiq hio rt ro rf rq hgt hgo hgf hgq hwt ht1 ht3 htz ho23 how hf8 hfw hq8 hqw hzz hO63 hQ63
  have m0 := HOV.out.c0
  have m1 := HOV.out.c1
  go_wp2_with (first | (rw [← HY.out, ← HYB.out]) | (rw [← HY.out]))
  refine (HI1.out _ (Below.refl _ _)).mono ?_
  rintro e w2 ⟨aX, gX, cX, rfl, hgX, hiX, hbX⟩
  obtain ⟨Z, hZ⟩ : ∃ Z, Z = w2.alloc (.cells #[.int .i64 ft, .slice aX n cX] 27) := ⟨_, rfl⟩
  have HZ : Hid (Z = w2.alloc (.cells #[.int .i64 ft, .slice aX n cX] 27)) := hZ
  have hbz : Below w2.heap.size w2 Z := by rw [hZ]; exact (Below.refl _ _).alloc (Nat.le_refl _) _
  obtain ⟨zb, hzb⟩ : ∃ z, z = w2.heap.size := ⟨_, rfl⟩
  have HZB : Hid (zb = w2.heap.size) := hzb
  have HXV : Hid (OVar zb ft aX gX n cX fx Z) := by rw [hZ, hzb]; exact OVar.start w2 ft aX gX n cX fx _ HNL.out hiX
  have HYZ : Hid (Below Y.heap.size Y Z) := hbX.trans (hbz.mono hbX.size)
  have HBZ : Hid (Below w.heap.size w Z) := HBY.out.trans (HYZ.out.mono HBY.out.size)
  have HS1 : Hid (∀ w', Below Z.heap.size Z w' → Calls Try.prog 18 #[.slice at1 ts.length ct, .agg #[.int .i64 t, .slice ao os.length co], .slice af fs.length cf, .slice aq qs.length cq] w' fun e w'' => FOut ft n fx w' e w'') := fun w' h => HS1a.out w' (HYZ.out.trans (h.mono HYZ.out.size))
  have HOK : Hid (∀ w', Below Z.heap.size Z w' → Calls Try.prog 13 #[.slice at1 ts.length ct, .agg #[.int .i64 t, .slice ao os.length co]] w' fun e w'' => e = .returned (.bool ob) ∧ Below w'.heap.size w' w'') := fun w' h => HOKa.out w' (HYZ.out.trans (h.mono HYZ.out.size))
  have HOZ : Hid (OVar yb t ao go os.length co os Z) := HOV.out.below HYZ.out
  have HCK : Hid (∀ w', Below Z.heap.size Z w' → w'.cell? ⟨yb, 0, none⟩ = some (.int .i64 t) ∧ w'.cell? ⟨yb, 1, none⟩ = some (.slice ao os.length co) ∧ w'.cell? ⟨zb, 0, none⟩ = some (.int .i64 ft) ∧ w'.cell? ⟨zb, 1, none⟩ = some (.slice aX n cX)) := fun w' h => ⟨(HOZ.out.below h).c0, (HOZ.out.below h).c1, (HXV.out.below h).c0, (HXV.out.below h).c1⟩
  have hn0 : n = fx.length := HNL.out.symm
  clear hZ hbz hzb hbX hiX hgX HS1a HOKa m0 m1 HI1
  obtain ⟨m0, m1, m2, m3⟩ := HCK.out Z (Below.refl _ _)
  cases fb with
  | false =>
    obtain ⟨hft0, hfx0⟩ := HNO.out rfl
    have hn00 : n = 0 := by rw [hn0, hfx0]; rfl
    have HSN : Hid (∀ w', Below Z.heap.size Z w' → Calls Try.prog 18 #[.slice at1 ts.length ct, .agg #[.int .i64 t, .slice ao os.length co], .slice af fs.length cf, .slice aq qs.length cq] w' fun e w'' => e = .returned (.agg #[.int .i64 0, .slice none 0 0]) ∧ Below w'.heap.size w' w'') := fun w' h => HSN0.out rfl w' (HYZ.out.trans (h.mono HYZ.out.size))
    have HEN : Hid (∀ w', Below Z.heap.size Z w' → Calls Try.prog 12 #[.agg #[.int .i64 0, .slice aX 0 cX], .agg #[.int .i64 0, .slice none 0 0]] w' fun e w'' => e = .returned (.bool true) ∧ Below w'.heap.size w' w'') := fun w' _ => sameObj_same w' 0 aX none 0 0 0 cX 0 [] rfl (by omega) (fun i hi => by cases hi) (fun i hi => by cases hi)
    rw [hft0, hn00] at HZ HXV HCK ⊢
    clear HG HNO HSN0 HKN HIK HI0 hft0 hfx0 hn00 hn0 HS1 HNB m0 m1 m2 m3
    have HSL : Hid (∀ n : Later Z, _) := fun n => HSN.out n.world n.below
    have HEL : Hid (∀ n : Later Z, _) := fun n => HEN.out n.world n.below
    have HKL : Hid (∀ n : Later Z, _) := fun n => HOK.out n.world n.below
    obtain ⟨k0, k1, k2, k3⟩ := HCK.out Z (Below.refl _ _)
    have X0 := fun n : Later Z => Later.cell k0 n
    have X1 := fun n : Later Z => Later.cell k1 n
    have X2 := fun n : Later Z => Later.cell k2 n
    have X3 := fun n : Later Z => Later.cell k3 n
    have hne := some_later Z
    clear k0 k1 k2 k3
    cases ob with
    | false =>
      go_wp2_with (first | (rw [← HZ.out, ← HZB.out]) | (rw [← HZ.out]))
      refine region_later (by kernel_rfl) (by kernel_rfl) ?_
      repeat (go_big_quiet_step (first | (go_at_call 18; exact later_of (HSL.out _)) | (go_at_call 12; exact later_of (HEL.out _)) | (go_at_call 13; exact later_of (HKL.out _))))
      refine wpQuiet_nil ?_
      intro w' hw'
      obtain ⟨nn, rfl⟩ := hw'
      obtain ⟨V, hV⟩ : ∃ V, V = nn.world := ⟨_, rfl⟩
      have HBV : Hid (Below Z.heap.size Z V) := by rw [hV]; exact nn.below
      rw [← hV]
      have HSL : Hid (∀ n : Later V, _) := fun n => HSN.out n.world (HBV.out.trans (n.below.mono HBV.out.size))
      have HEL : Hid (∀ n : Later V, _) := fun n => HEN.out n.world (HBV.out.trans (n.below.mono HBV.out.size))
      obtain ⟨k0, k1, k2, k3⟩ := HCK.out V HBV.out
      have X0 := fun n : Later V => Later.cell k0 n
      have X1 := fun n : Later V => Later.cell k1 n
      have X2 := fun n : Later V => Later.cell k2 n
      have X3 := fun n : Later V => Later.cell k3 n
      have hne := some_later V
      clear hV k0 k1 k2 k3
      go_wp2
      refine region_later (by kernel_rfl) (by kernel_rfl) ?_
      repeat (go_big_quiet_step (first | (go_at_call 18; exact later_of (HSL.out _)) | (go_at_call 12; exact later_of (HEL.out _))))
      refine wpQuiet_nil ?_
      intro w' hw'
      obtain ⟨n2, rfl⟩ := hw'
      have HBE : Hid (Below w.heap.size w n2.world) := HBZ.out.trans ((HBV.out.trans (n2.below.mono HBV.out.size)).mono HBZ.out.size)
      generalize n2.world = w9 at HBE ⊢
      go_wp2
      go_ret
      exact ⟨rfl, HBE.out⟩
    | true =>
      by_cases hlen : fs.length = qs.length
      · have hnq : ((fs.length : Int) != (qs.length : Int)) = false := by simp; omega
        clear hlen
        go_wp2_with (first | (rw [← HZ.out, ← HZB.out]) | (rw [← HZ.out]))
        refine region_later (by kernel_rfl) (by kernel_rfl) ?_
        repeat (go_big_quiet_step (first | (go_at_call 18; exact later_of (HSL.out _)) | (go_at_call 12; exact later_of (HEL.out _)) | (go_at_call 13; exact later_of (HKL.out _))))
        refine wpQuiet_nil ?_
        intro w' hw'
        obtain ⟨nn, rfl⟩ := hw'
        obtain ⟨V, hV⟩ : ∃ V, V = nn.world := ⟨_, rfl⟩
        have HBV : Hid (Below Z.heap.size Z V) := by rw [hV]; exact nn.below
        rw [← hV]
        have HSL : Hid (∀ n : Later V, _) := fun n => HSN.out n.world (HBV.out.trans (n.below.mono HBV.out.size))
        have HEL : Hid (∀ n : Later V, _) := fun n => HEN.out n.world (HBV.out.trans (n.below.mono HBV.out.size))
        obtain ⟨k0, k1, k2, k3⟩ := HCK.out V HBV.out
        have X0 := fun n : Later V => Later.cell k0 n
        have X1 := fun n : Later V => Later.cell k1 n
        have X2 := fun n : Later V => Later.cell k2 n
        have X3 := fun n : Later V => Later.cell k3 n
        have hne := some_later V
        clear hV k0 k1 k2 k3
        go_wp2
        refine region_later (by kernel_rfl) (by kernel_rfl) ?_
        repeat (go_big_quiet_step (first | (go_at_call 18; exact later_of (HSL.out _)) | (go_at_call 12; exact later_of (HEL.out _))))
        refine wpQuiet_nil ?_
        intro w' hw'
        obtain ⟨n2, rfl⟩ := hw'
        have HBE : Hid (Below w.heap.size w n2.world) := HBZ.out.trans ((HBV.out.trans (n2.below.mono HBV.out.size)).mono HBZ.out.size)
        generalize n2.world = w9 at HBE ⊢
        go_wp2
        go_ret
        exact ⟨rfl, HBE.out⟩
      · have hnq : ((fs.length : Int) != (qs.length : Int)) = true := by simp; omega
        clear hlen
        go_wp2_with (first | (rw [← HZ.out, ← HZB.out]) | (rw [← HZ.out]))
        refine region_later (by kernel_rfl) (by kernel_rfl) ?_
        repeat (go_big_quiet_step (first | (go_at_call 18; exact later_of (HSL.out _)) | (go_at_call 12; exact later_of (HEL.out _)) | (go_at_call 13; exact later_of (HKL.out _))))
        refine wpQuiet_nil ?_
        intro w' hw'
        obtain ⟨nn, rfl⟩ := hw'
        obtain ⟨V, hV⟩ : ∃ V, V = nn.world := ⟨_, rfl⟩
        have HBV : Hid (Below Z.heap.size Z V) := by rw [hV]; exact nn.below
        rw [← hV]
        have HSL : Hid (∀ n : Later V, _) := fun n => HSN.out n.world (HBV.out.trans (n.below.mono HBV.out.size))
        have HEL : Hid (∀ n : Later V, _) := fun n => HEN.out n.world (HBV.out.trans (n.below.mono HBV.out.size))
        obtain ⟨k0, k1, k2, k3⟩ := HCK.out V HBV.out
        have X0 := fun n : Later V => Later.cell k0 n
        have X1 := fun n : Later V => Later.cell k1 n
        have X2 := fun n : Later V => Later.cell k2 n
        have X3 := fun n : Later V => Later.cell k3 n
        have hne := some_later V
        clear hV k0 k1 k2 k3
        go_wp2
        refine region_later (by kernel_rfl) (by kernel_rfl) ?_
        repeat (go_big_quiet_step (first | (go_at_call 18; exact later_of (HSL.out _)) | (go_at_call 12; exact later_of (HEL.out _))))
        refine wpQuiet_nil ?_
        intro w' hw'
        obtain ⟨n2, rfl⟩ := hw'
        have HBE : Hid (Below w.heap.size w n2.world) := HBZ.out.trans ((HBV.out.trans (n2.below.mono HBV.out.size)).mono HBZ.out.size)
        generalize n2.world = w9 at HBE ⊢
        go_wp2
        go_ret
        exact ⟨rfl, HBE.out⟩
  | true =>
      obtain ⟨hobt, hlen, hnpos, hno, hft, heach⟩ := HG.out rfl
      have hne := hlen
      have hnq : ((fs.length : Int) != (qs.length : Int)) = false := by simp; omega
      have hnz : ((n : Int) == 0) = false := by simp; omega
      subst hobt
      obtain ⟨p, hp, htp, hos, hkd⟩ := HKN.out rfl
      subst htp
      have HEQ : Hid (n = os.length ∧ ft = (p : Int) ∧ os.length = ts[p].size) := ⟨hno, hft, hos⟩
      have HEA : Hid (∀ i, i < os.length → fx.getD i 0 = os.getD i 0 ∨ (isR ts[p] i = true ∧ os.getD i 0 ∈ fs ∧ fx.getD i 0 ∈ qs)) := fun i hi => by have := heach i hi; rw [hkd] at this; exact this
      have HIK2 : Hid (∀ (w' : World), Below Z.heap.size Z w' → Calls Try.prog 14 #[.slice at1 ts.length ct, .agg #[.int .i64 ft, .slice aX n cX]] w' fun e w'' => e = .returned (.bool true) ∧ Below w'.heap.size w' w'') := fun w' h => by
        have h1 := HIK.out hne hnpos w' aX cX (HYZ.out.trans (h.mono HYZ.out.size)) (HXV.out.below h).tx.nums
        rw [hft]
        exact h1
      have HI2 : Hid (∀ w', Below Z.heap.size Z w' → Calls Try.prog 17 #[.slice at1 ts.length ct, .agg #[.int .i64 (p : Int), .slice ao os.length co], .slice none 0 0, .slice none 0 0] w' fun e w'' => FOut (p : Int) os.length os w' e w'') := fun w' h => HI0.out rfl w' (HYZ.out.trans (h.mono HYZ.out.size))
      have HQV : Hid (∀ w', Below Z.heap.size Z w' → Txts w' at1 gt ts ∧ Nums w' af fs ∧ Nums w' aq qs) := fun w' h => by
        have hh := HYZ.out.trans (h.mono HYZ.out.size)
        exact ⟨HTX.out.below hh, (HIF.out.below hh).nums, (HIQ.out.below hh).nums⟩
      clear hn0 hne hlen hnpos hno hft heach hos hkd HIK HG HKN HI0 HNO HSN0
      have hacc : Below Z.heap.size Z Z.drew := (Below.refl _ _).drew
      go_wp2_with (first | (rw [← HZ.out, ← HZB.out]) | (rw [← HZ.out]))
      go_region_held3 (fun w' => w'.cell? ⟨yb, 0, none⟩ = some (.int .i64 (p : Int)) ∧ w'.cell? ⟨yb, 1, none⟩ = some (.slice ao os.length co) ∧ w'.cell? ⟨zb, 0, none⟩ = some (.int .i64 ft) ∧ w'.cell? ⟨zb, 1, none⟩ = some (.slice aX n cX)) (first | with_reducible exact HCK.out _ hacc)
        (first | (go_at_call 18; refine (HS1.out _ hacc).mono ?_; rintro e wA ⟨aA, gA, cA, rfl, hgA, hiA, hbX⟩; have hac2 : Below Z.heap.size Z wA := hacc.trans (hbX.mono hacc.size); clear hacc hbX; have hacc := hac2; clear hac2; clear hgA) | (go_at_call 12; refine (sameObj_same wA ft aX aA gX gA n cX cA fx HNL.out HNB.out (HXV.out.below hacc).tx hiA).mono ?_; rintro e wB ⟨rfl, hbX⟩; have hac2 : Below Z.heap.size Z wB := hacc.trans (hbX.mono hacc.size); clear hacc hbX; have hacc := hac2; clear hac2; clear hiA) | (go_at_call 13; refine (HOK.out _ hacc).mono ?_; rintro e wC ⟨rfl, hbX⟩; have hac2 : Below Z.heap.size Z wC := hacc.trans (hbX.mono hacc.size); clear hacc hbX; have hacc := hac2; clear hac2))
      all_goals
        have HBC : Hid (Below Z.heap.size Z wC) := hacc
        obtain ⟨m0, m1, m2, m3⟩ := HCK.out wC HBC.out
        have HXC : Hid (OVar zb ft aX gX n cX fx wC) := HXV.out.below HBC.out
        have HOC : Hid (OVar yb (p : Int) ao go os.length co os wC) := HOZ.out.below HBC.out
        obtain ⟨qx, qf, qq⟩ := HQV.out wC HBC.out
        have HTC : Hid (Txts wC at1 gt ts) := qx
        have HFC : Hid (Nums wC af fs) := qf
        have HQC : Hid (Nums wC aq qs) := qq
        clear hacc qx qf qq
        go_wp2
        go_loopw [8] (fun i wr => ∃ k : Nat, k ≤ os.length ∧ i = .int .i64 (k : Int) ∧ wr = wC) (fun i _ => os.length - (intOf i).toNat)
        case atStart => exact ⟨0, Nat.zero_le _, rfl, rfl⟩
        case round =>
          obtain ⟨k, hk, rfl, rfl⟩ := hrel
          obtain ⟨m0, m1, m2, m3⟩ := HCK.out _ HBC.out
          have ho23 := HFL.out.2.2
          by_cases hlt : k < os.length
          · have hlti : (k : Int) < (os.length : Int) := by omega
            have hkn : (k : Int) < (n : Int) := by have := HEQ.out.1; omega
            have hkx : k < fx.length := by have := HEQ.out.1; have := HNL.out; omega
            obtain ⟨rfl, cx0, _⟩ := HXC.out.tx k hkx
            obtain ⟨rfl, co0, _⟩ := HOC.out.tx k hlt
            rw [getD_at fx k hkx] at cx0
            rw [getD_at os k hlt] at co0
            have hea := HEA.out k hlt
            generalize fx.getD k 0 = x at cx0 hea
            generalize os.getD k 0 = y at co0 hea
            by_cases hxy : x = y
            · subst hxy
              have hnn : (x != x) = false := by simp
              clear hea
              go_wp2
              go_roundw
              case rel => exact ⟨k + 1, by omega, by go_num, trivial⟩
              case measure => simp [intOf]; omega
            · have hnn : (x != y) = true := by simpa using hxy
              obtain ⟨hr, hyf, hxq⟩ : isR ts[p] k = true ∧ y ∈ fs ∧ x ∈ qs := by
                rcases hea with e | e
                · exact absurd e hxy
                · exact e
              obtain ⟨rfl, ct0, _⟩ := HTC.out p hp
              have hks : k < ts[p].size := by have := HEQ.out.2.2; omega
              have hksi : (k : Int) < (ts[p].size : Int) := by omega
              have hb8 : (((ts[p])[k].toNat : Int) != 114) = false := by
                have := isR_at ts[p] k hks
                rw [hr] at this
                simp at this ⊢
                exact this
              have hpt : (p : Int) < (ts.length : Int) := by omega
              have HHQ : Hid (∀ w', w' = wr → Calls _ _ _ w' _) := fun w' q => has_any w' aq qs.length cq qs x rfl (by have := HFL.out; omega) (q ▸ HQC.out) hxq
              have HHF : Hid (∀ w', w' = wr → Calls _ _ _ w' _) := fun w' q => has_any w' af fs.length cf fs y rfl (by have := HFL.out; omega) (q ▸ HFC.out) hyf
              generalize ts[p] = s at ct0 hks hksi hb8
              clear hea hxy hr hyf hxq
              go_wp2_with fail
              refine (HHQ.out _ rfl).mono ?_
              rintro e wH ⟨rfl, rfl⟩
              go_wp2_with fail
              refine (HHF.out _ rfl).mono ?_
              rintro e wH2 ⟨rfl, rfl⟩
              go_wp2
              go_roundw
              case rel => exact ⟨k + 1, by omega, by go_num, trivial⟩
              case measure => simp [intOf]; omega
          · have hk2 : k = os.length := by omega
            subst hk2
            have hlti : ¬ (os.length : Int) < (os.length : Int) := by omega
            have HWD : Hid (Below Z.heap.size Z wr) := HBC.out
            have hacc : Below Z.heap.size Z wr.drew := HWD.out.drew
            have hnn : ((n : Int) == (os.length : Int)) = true := by have := HEQ.out.1; simp; omega
            have htt : (ft == (p : Int)) = true := by have := HEQ.out.2.1; simp; exact this
            go_wp2
            go_region_held3 (fun w' => w'.cell? ⟨yb, 0, none⟩ = some (.int .i64 (p : Int)) ∧ w'.cell? ⟨yb, 1, none⟩ = some (.slice ao os.length co) ∧ w'.cell? ⟨zb, 0, none⟩ = some (.int .i64 ft) ∧ w'.cell? ⟨zb, 1, none⟩ = some (.slice aX n cX)) (first | with_reducible exact HCK.out _ hacc)
              (first | (go_at_call 17; refine (HI2.out _ hacc).mono ?_; rintro e wA ⟨aA, gA, cA, rfl, hgA, hiA, hbX⟩; have hac2 : Below Z.heap.size Z wA := hacc.trans (hbX.mono hacc.size); clear hacc hbX; have hacc := hac2; clear hac2; clear hgA) | (go_at_call 12; refine (sameObj_same wA (p : Int) aA ao gA go os.length cA co os rfl (by have := HFL.out; omega) hiA (HOZ.out.below hacc).tx).mono ?_; rintro e wB ⟨rfl, hbX⟩; have hac2 : Below Z.heap.size Z wB := hacc.trans (hbX.mono hacc.size); clear hacc hbX; have hacc := hac2; clear hac2; clear hiA) | (go_at_call 14; refine (HIK2.out _ hacc).mono ?_; rintro e wD ⟨rfl, hbX⟩; have hac2 : Below Z.heap.size Z wD := hacc.trans (hbX.mono hacc.size); clear hacc hbX; have hacc := hac2; clear hac2))
            all_goals
              have HBE : Hid (Below w.heap.size w wD) := HBZ.out.trans (hacc.mono HBZ.out.size)
              clear hacc
              go_wp2
              go_ret
              exact ⟨rfl, HBE.out⟩

set_option maxRecDepth 100000 in
theorem lifted (os : Os) (started : os.Started) (H : Type) (enc : TypeId × Value → H) :
    ReturnsInHanded {} Try.checked os 4 .any (Rows.fnForwardedSpec.pre6 enc Try.prog Try.f4 Rows.fnForwardedRow.domain false) (Rows.fnForwardedSpec.post enc Try.prog Try.f4 false true false false) := by
  refine returnsInHanded_of_change (C := Try.checked) own started (by kernel_rfl) Try.func4
    (ChangeSpec.witness6 (enc := enc) (C := Try.checked) false ⟨#[], #[.slice none 0 0], []⟩ 8 (by kernel_rfl) (by kernel_rfl) (by kernel_rfl) (by kernel_rfl)) ?_
  intro W base args ds gs before hval0 hW hcnd _
  have hval : ∀ (j : Nat) t v, Try.f4.params[j]? = some t → args[j]? = some v → Value.okWide Try.prog W .any base t v := hval0
  have hW' := hW
  obtain ⟨p, q, hA0, hV, rfl, hfz, hnd⟩ := hW
  have hA : DataW.TrodAll enc Try.prog W 0 (fun _ => true) true Try.f4.params.toList args.toList ds p := hA0
  rw [Try.params4] at hA hval
  obtain ⟨v0, vs0, d0, ds0, p0, q0, hargs, rfl, rfl, h0, r0⟩ := trodAll_cons hA
  obtain ⟨rfl, rfl, rfl⟩ := trodAll_nil r0
  obtain rfl : args = #[v0] := by cases args; simp_all
  obtain ⟨rfl, rfl⟩ := trodVars_none hV
  obtain ⟨a0, len0, cap0, rfl⟩ := okWide_slice Try.underlying22 (hval 0 22 v0 rfl rfl)
  have k0 := h0
  have lt0 : ∀ x ∈ p0, x.block < W.heap.size := by obtain ⟨m, hm⟩ := k0; exact DataW.trod_lt m _ _ _ hm
  obtain ⟨z0, w0⟩ : ∃ zs, IsRow .u8 W a0 len0 cap0 zs := by
    obtain ⟨fuel, hf⟩ := h0
    rcases open_ints Try.underlying22 Try.underlying5 (by kernel_rfl) hf with ⟨hcs, _⟩ | ⟨x, l, c, zs, hcs, _, hl, hm, hz, _, hcell, hwz⟩
    · simp [Value.cells] at hcs
      obtain ⟨rfl, rfl, rfl⟩ := hcs
      exact ⟨[], .inl ⟨rfl, rfl, rfl, rfl⟩⟩
    · simp [Value.cells] at hcs
      obtain ⟨rfl, rfl, rfl⟩ := hcs
      exact ⟨zs, .inr ⟨_, rfl, hl, hm, by simpa using hz, hcell, hwz⟩⟩
  clear hA0 hval0
  refine (walk a0 len0 cap0 z0 W w0).mono fun e W' ⟨he, bel⟩ => ?_
  subst he
  exact ⟨_, rfl, _, _, _, [], _, [], hW', trodAll_mk1 (shut_bool Try.underlying4 _), (trodAll_cons_mk (Below.trod laidOut (by kernel_rfl) (of_decide_eq_true (by kernel_rfl)) k0 bel lt0) trodAll_mk0), rfl, bel.frame _, fun h => by cases h⟩

theorem over : Rows.fnForwardedRow.holds Try.pinned (OpenSpec.ofChange Rows.fnForwardedSpec) :=
  OpenClaim.holds_of_wide 4 Try.f4 rfl rfl rfl rfl rfl rfl rfl ⟨rfl, rfl, rfl, rfl, rfl⟩ rfl rfl rfl rfl rfl (by kernel_rfl) Try.func4 (by kernel_rfl)
    (of_decide_eq_true (by kernel_rfl)) (by unfold Func.isWrapper; first | (rw [if_pos (by decide +kernel)]; kernel_rfl) | (rw [if_neg (by decide +kernel)]; exact ⟨rfl, rfl⟩))
    (fun os started H enc _ => lifted os started H enc)

theorem proved : Rows.FnForwardedSaid := over
#print axioms proved
end Go.Proofs.Ytnacdfoejmjlgaa.fnForwarded
