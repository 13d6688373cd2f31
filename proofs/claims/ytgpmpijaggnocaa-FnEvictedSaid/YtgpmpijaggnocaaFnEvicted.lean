/-
  FnEvicted: at every code the law that all of a drawn device is seen as it was when a line is evicted or a fence comes, that this line is at risk no more, and that a second fence changes nothing, returns true, and the code reads as before; no condition.
-/
import Derived.Test.YtgpmpijaggnocaaRows
import Derived.WalkKit
import Derived.WalkSpells
import Derived.WalkLawsBesides
import Derived.Handy
import Derived.Test.YtgpmpijaggnocaaDBox2
import Derived.Lib.Strings
import Derived.Deep.RegionHeld3
import Derived.ProofKit
import Derived.OpenShut
import Derived.ShutString
import Derived.ChangeOld
import Derived.Below
namespace Go.Proofs.Ytgpmpijaggnocaa.fnEvicted
open Go.ChangeShapes Go.WideShapes Go.ChangeAt Go.RowKit
open Go.ChangeMaps (open_string shut_string)
set_option linter.unusedVariables false
open wmath rd dev later

theorem own : ownKnob Try.prog.godebug = none := by kernel_rfl
theorem laidOut : laidOutB Try.prog = true := by kernel_rfl

/-- WHAT THE WALK IS TOLD OF A SLICE OF INTEGERS THAT CAME IN: it is nil; or it leads to a row of 'cap' cells, the numbers 'zs' (the first 'len' are its elements, the rest its spare room), each fitting its kind. -/
def IsRow (k : IntKind) (w : World) (a : Option Addr) (len cap : Nat) (zs : List Int) : Prop :=
  (a = none ∧ len = 0 ∧ cap = 0 ∧ zs = []) ∨
  ∃ x, a = some x ∧ len ≤ cap ∧ cap ≤ maxLen ∧ zs.length = cap ∧ (∀ i, i < zs.length → w.cell? (x.add i) = some (.int k (zs.getD i 0))) ∧ ∀ n ∈ zs, (Lit.int k n).wf = true

theorem walk (a0 : Option Addr) (len0 cap0 : Nat) (z0 : List Int) (w : World) (w0 : IsRow .u8 w a0 len0 cap0 z0) :
    Calls Try.prog 6 #[.slice a0 len0 cap0] w fun e w' => e = .returned (.bool true) ∧ Below w.heap.size w w' := by
  have c0 := code_of w0
  clear w0
  by_cases hb0 : 1048576 < len0
  · go_enter Try.func6, Try.ntmps6
    go_wp2_with fail
    refine (big_yes _ a0 len0 cap0 hb0).mono ?_
    rintro e w' ⟨rfl, rfl⟩
    go_wp2
    go_ret
    exact ⟨rfl, Below.refl _ _⟩
  have HC0 : Hid (RdCode w w.heap.size a0 len0) := c0
  clear c0
  go_enter Try.func6, Try.ntmps6
  go_wp2_with fail
  refine (big_no _ a0 len0 cap0 (by omega)).mono ?_
  rintro e w' ⟨rfl, rfl⟩
  have HBelw : Hid (Below w.heap.size w w) := Below.refl _ _
  go_wp2_with fail
  refine (draw_evict w a0 len0 cap0 (by omega) HC0.out).mono ?_
  rintro e v1 ⟨safe, ls, aa, cp, n, rfl, hnw, hsz, hl, hb⟩
  have HBelv1 : Hid (Below w.heap.size w v1) := hb
  clear hb
  have HSZ : Hid (Sized safe ls) := hsz
  clear hnw hsz HC0
  obtain ⟨v2, hX⟩ : ∃ X, X = v1.alloc (.cells #[.string safe, .slice aa ls.length cp] 26) := ⟨_, rfl⟩
  have HXv2 : Hid (v2 = v1.alloc (.cells #[.string safe, .slice aa ls.length cp] 26)) := hX
  have hb : Below v1.heap.size v1 v2 := by rw [hX]; exact (Below.refl _ _).alloc (Nat.le_refl _) _
  have HBelv2 : Hid (Below w.heap.size w v2) := HBelv1.out.trans (hb.mono HBelv1.out.size)
  have Hd : Hid (DBox v2 v1.heap.size safe aa cp ls) := by
    have h1 : DBox v2 v1.heap.size safe aa cp ls := by rw [hX]; exact .new safe cp _ hl
    exact h1
  clear hX hb hl
  by_cases hok : DevOk safe ls ∧ 0 ≤ n ∧ n < ((safe.size / 64 : Nat) : Int)
  · obtain ⟨hdo, hn0, hn1⟩ := hok
    have HDO : Hid (DevOk safe ls) := hdo
    have HNR : Hid (0 ≤ n ∧ n < ((safe.size / 64 : Nat) : Int)) := ⟨hn0, hn1⟩
    have s1 := evict_seen hdo n
    have s2 := fence_seen hdo
    have s3 := fence_twice hdo
    have k1 := evict_ok hdo n
    have k2 := fence_ok hdo
    have r1 := risk_not (evictS safe ls n) ls n
    have i1 : (evictL ls n).length ≤ 1048576 := Nat.le_trans (evictL_le ls n) (by have := HSZ.out.2.1; omega)
    have i2 : (fenceL ls).length ≤ 1048576 := Nat.le_trans (fenceL_le ls) (by have := HSZ.out.2.1; omega)
    have i3 : (riskL (evictS safe ls n) (evictL ls n)).length ≤ 1048576 := by have := riskL_le (evictS safe ls n) (evictL ls n) (evictL ls n).length; rw [List.take_length] at this; omega
    obtain ⟨le, hle⟩ : ∃ L, L = evictL ls n := ⟨_, rfl⟩
    obtain ⟨se, hse⟩ : ∃ s, s = evictS safe ls n := ⟨_, rfl⟩
    obtain ⟨lf, hlf⟩ : ∃ L, L = fenceL ls := ⟨_, rfl⟩
    obtain ⟨sf, hsf⟩ : ∃ s, s = fenceS safe ls := ⟨_, rfl⟩
    rw [← hle, ← hse] at s1 k1 r1 i3
    rw [← hle] at i1
    rw [← hlf, ← hsf] at s2 s3 k2
    rw [← hlf] at i2
    have HI1 : Hid (∀ w a cap, Lines w a ls → Calls Try.prog 27 #[.agg #[.string safe, .slice a ls.length cap], .int .i64 n] w (Back se le true w)) := fun w a cap h => by rw [hse, hle]; exact iEvict w safe a cap ls n h HDO.out HNR.out.1 HNR.out.2
    have HI2 : Hid (∀ w a cap, Lines w a ls → Calls Try.prog 28 #[.agg #[.string safe, .slice a ls.length cap], .int .i64 n] w (Back se le true w)) := fun w a cap h => by rw [hse, hle]; exact sEvict w safe a cap ls n h HDO.out HNR.out.1 HNR.out.2
    have HI3 : Hid (∀ w a cap, Lines w a ls → Calls Try.prog 20 #[.agg #[.string safe, .slice a ls.length cap]] w (Alone sf lf w)) := fun w a cap h => by rw [hsf, hlf]; exact iFence w safe a cap ls h HDO.out
    have HI4 : Hid (∀ w a cap, Lines w a lf → Calls Try.prog 20 #[.agg #[.string sf, .slice a lf.length cap]] w (Alone sf lf w)) := fun w a cap h => by have q := iFence w sf a cap lf h k2; rw [s3.1, s3.2] at q; exact q
    have HI5 : Hid (∀ w a cap, Lines w a le → Calls Try.prog 14 #[.agg #[.string se, .slice a le.length cap]] w fun e w' => e = .returned (.string (seenStr safe ls)) ∧ Below w.heap.size w w') := fun w a cap h => by rw [← s1]; exact iSeen w se a cap le h k1
    have HI6 : Hid (∀ w a cap, Lines w a lf → Calls Try.prog 14 #[.agg #[.string sf, .slice a lf.length cap]] w fun e w' => e = .returned (.string (seenStr safe ls)) ∧ Below w.heap.size w w') := fun w a cap h => by rw [← s2]; exact iSeen w sf a cap lf h k2
    have HI7 : Hid (∀ w a cap, Lines w a ls → Calls Try.prog 10 #[.agg #[.string safe, .slice a ls.length cap]] w fun e w' => e = .returned (.string (seenStr safe ls)) ∧ Below w.heap.size w w') := fun w a cap h => sSeen w safe a cap ls h HDO.out
    have HI8 : Hid (∀ w a cap, Lines w a le → Calls Try.prog 21 #[.agg #[.string se, .slice a le.length cap]] w fun e w' => ∃ aa cp, e = .returned (.slice aa (riskL se le).length cp) ∧ Nums w' aa (riskL se le) ∧ Below w.heap.size w w') := fun w a cap h => iRisk w se a cap le h k1
    generalize riskL se le = rk at HI8 r1 i3
    generalize seenStr safe ls = st at HI5 HI6 HI7
    have HR1 : Hid (n ∉ rk) := r1
    have hst : (st.toList == st.toList) = true := by simp
    clear s1 s2 s3 k1 k2 r1 hle hse hlf hsf hdo hn0 hn1
    have d0 := Hd.out.c0
    have d1 := Hd.out.c1
    go_wp2_with (rw [← HXv2.out])
    refine (HI1.out v2 aa cp Hd.out.lines).mono ?_
    rintro e v3 ⟨aa3, cp3, rfl, hl3, hb⟩
    clear d0 d1
    have HBelv3 : Hid (Below w.heap.size w v3) := HBelv2.out.trans (hb.mono HBelv2.out.size)
    have Hd : Hid (DBox v3 v1.heap.size safe aa cp ls) := Hd.out.below hb
    clear hb
    obtain ⟨v4, hX⟩ : ∃ X, X = v3.alloc (.cells #[.string se, .slice aa3 le.length cp3] 26) := ⟨_, rfl⟩
    have HXv4 : Hid (v4 = v3.alloc (.cells #[.string se, .slice aa3 le.length cp3] 26)) := hX
    have hb : Below v3.heap.size v3 v4 := by rw [hX]; exact (Below.refl _ _).alloc (Nat.le_refl _) _
    have HBelv4 : Hid (Below w.heap.size w v4) := HBelv3.out.trans (hb.mono HBelv3.out.size)
    have Hd : Hid (DBox v4 v1.heap.size safe aa cp ls) := Hd.out.below hb
    have He : Hid (DBox v4 v3.heap.size se aa3 cp3 le) := by
      have h1 : DBox v4 v3.heap.size se aa3 cp3 le := by rw [hX]; exact .new se cp3 _ hl3
      exact h1
    clear hX hb hl3
    have d0 := Hd.out.c0
    have d1 := Hd.out.c1
    have e0 := He.out.c0
    have e1 := He.out.c1
    go_wp2_with (rw [← HXv4.out])
    refine (HI2.out v4 aa cp Hd.out.lines).mono ?_
    rintro e v5 ⟨aa4, cp4, rfl, hl4, hb⟩
    clear d0 d1 e0 e1
    have HBelv5 : Hid (Below w.heap.size w v5) := HBelv4.out.trans (hb.mono HBelv4.out.size)
    have Hd : Hid (DBox v5 v1.heap.size safe aa cp ls) := Hd.out.below hb
    have He : Hid (DBox v5 v3.heap.size se aa3 cp3 le) := He.out.below hb
    clear hb
    obtain ⟨v6, hX⟩ : ∃ X, X = v5.alloc (.cells #[.string se, .slice aa4 le.length cp4] 26) := ⟨_, rfl⟩
    have HXv6 : Hid (v6 = v5.alloc (.cells #[.string se, .slice aa4 le.length cp4] 26)) := hX
    have hb : Below v5.heap.size v5 v6 := by rw [hX]; exact (Below.refl _ _).alloc (Nat.le_refl _) _
    have HBelv6 : Hid (Below w.heap.size w v6) := HBelv5.out.trans (hb.mono HBelv5.out.size)
    have Hd : Hid (DBox v6 v1.heap.size safe aa cp ls) := Hd.out.below hb
    have He : Hid (DBox v6 v3.heap.size se aa3 cp3 le) := He.out.below hb
    have Hx : Hid (DBox v6 v5.heap.size se aa4 cp4 le) := by
      have h1 : DBox v6 v5.heap.size se aa4 cp4 le := by rw [hX]; exact .new se cp4 _ hl4
      exact h1
    clear hX hb hl4
    have d0 := Hd.out.c0
    have d1 := Hd.out.c1
    have e0 := He.out.c0
    have e1 := He.out.c1
    have x0 := Hx.out.c0
    have x1 := Hx.out.c1
    go_wp2_with (rw [← HXv6.out])
    refine (sameDev_same v6 se aa3 aa4 cp3 cp4 le i1 He.out.lines Hx.out.lines).mono ?_
    rintro e v7 ⟨rfl, hb⟩
    clear d0 d1 e0 e1 x0 x1
    have HBelv7 : Hid (Below w.heap.size w v7) := HBelv6.out.trans (hb.mono HBelv6.out.size)
    have Hd : Hid (DBox v7 v1.heap.size safe aa cp ls) := Hd.out.below hb
    have He : Hid (DBox v7 v3.heap.size se aa3 cp3 le) := He.out.below hb
    have Hx : Hid (DBox v7 v5.heap.size se aa4 cp4 le) := Hx.out.below hb
    clear hb
    have d0 := Hd.out.c0
    have d1 := Hd.out.c1
    have e0 := He.out.c0
    have e1 := He.out.c1
    have x0 := Hx.out.c0
    have x1 := Hx.out.c1
    go_wp2_with fail
    refine (HI3.out v7 aa cp Hd.out.lines).mono ?_
    rintro e v8 ⟨aa5, cp5, rfl, hl5, hb⟩
    clear d0 d1 e0 e1 x0 x1
    have HBelv8 : Hid (Below w.heap.size w v8) := HBelv7.out.trans (hb.mono HBelv7.out.size)
    have Hd : Hid (DBox v8 v1.heap.size safe aa cp ls) := Hd.out.below hb
    have He : Hid (DBox v8 v3.heap.size se aa3 cp3 le) := He.out.below hb
    have Hx : Hid (DBox v8 v5.heap.size se aa4 cp4 le) := Hx.out.below hb
    clear hb
    obtain ⟨v9, hX⟩ : ∃ X, X = v8.alloc (.cells #[.string sf, .slice aa5 lf.length cp5] 26) := ⟨_, rfl⟩
    have HXv9 : Hid (v9 = v8.alloc (.cells #[.string sf, .slice aa5 lf.length cp5] 26)) := hX
    have hb : Below v8.heap.size v8 v9 := by rw [hX]; exact (Below.refl _ _).alloc (Nat.le_refl _) _
    have HBelv9 : Hid (Below w.heap.size w v9) := HBelv8.out.trans (hb.mono HBelv8.out.size)
    have Hd : Hid (DBox v9 v1.heap.size safe aa cp ls) := Hd.out.below hb
    have He : Hid (DBox v9 v3.heap.size se aa3 cp3 le) := He.out.below hb
    have Hx : Hid (DBox v9 v5.heap.size se aa4 cp4 le) := Hx.out.below hb
    have Hf : Hid (DBox v9 v8.heap.size sf aa5 cp5 lf) := by
      have h1 : DBox v9 v8.heap.size sf aa5 cp5 lf := by rw [hX]; exact .new sf cp5 _ hl5
      exact h1
    clear hX hb hl5
    have HQ0 : Hid (DBox v9.drew v1.heap.size safe aa cp ls ∧ DBox v9.drew v3.heap.size se aa3 cp3 le ∧ DBox v9.drew v8.heap.size sf aa5 cp5 lf) := ⟨Hd.out.below ⟨rfl, rfl, rfl, Nat.le_refl _, fun _ _ => rfl⟩, He.out.below ⟨rfl, rfl, rfl, Nat.le_refl _, fun _ _ => rfl⟩, Hf.out.below ⟨rfl, rfl, rfl, Nat.le_refl _, fun _ _ => rfl⟩⟩
    have HE0 : Hid (Below w.heap.size w v9.drew) := HBelv9.out.drew
    have d0 := Hd.out.c0
    have d1 := Hd.out.c1
    have e0 := He.out.c0
    have e1 := He.out.c1
    have x0 := Hx.out.c0
    have x1 := Hx.out.c1
    have f0 := Hf.out.c0
    have f1 := Hf.out.c1
    go_wp2_with (rw [← HXv9.out])
    clear d0 d1 e0 e1 x0 x1 f0 f1
    go_region_held3 (fun w' => w'.cell? ⟨v1.heap.size, 0, none⟩ = some (.string safe) ∧ w'.cell? ⟨v1.heap.size, 1, none⟩ = some (.slice aa ls.length cp) ∧ w'.cell? ⟨v3.heap.size, 0, none⟩ = some (.string se) ∧ w'.cell? ⟨v3.heap.size, 1, none⟩ = some (.slice aa3 le.length cp3) ∧ w'.cell? ⟨v8.heap.size, 0, none⟩ = some (.string sf) ∧ w'.cell? ⟨v8.heap.size, 1, none⟩ = some (.slice aa5 lf.length cp5)) (first | exact ⟨HQ8.out.1.c0, HQ8.out.1.c1, HQ8.out.2.1.c0, HQ8.out.2.1.c1, HQ8.out.2.2.c0, HQ8.out.2.2.c1⟩ | exact ⟨HQ7.out.1.c0, HQ7.out.1.c1, HQ7.out.2.1.c0, HQ7.out.2.1.c1, HQ7.out.2.2.c0, HQ7.out.2.2.c1⟩ | exact ⟨HQ6.out.1.c0, HQ6.out.1.c1, HQ6.out.2.1.c0, HQ6.out.2.1.c1, HQ6.out.2.2.c0, HQ6.out.2.2.c1⟩ | exact ⟨HQ5.out.1.c0, HQ5.out.1.c1, HQ5.out.2.1.c0, HQ5.out.2.1.c1, HQ5.out.2.2.c0, HQ5.out.2.2.c1⟩ | exact ⟨HQ4.out.1.c0, HQ4.out.1.c1, HQ4.out.2.1.c0, HQ4.out.2.1.c1, HQ4.out.2.2.c0, HQ4.out.2.2.c1⟩ | exact ⟨HQ3.out.1.c0, HQ3.out.1.c1, HQ3.out.2.1.c0, HQ3.out.2.1.c1, HQ3.out.2.2.c0, HQ3.out.2.2.c1⟩ | exact ⟨HQ2.out.1.c0, HQ2.out.1.c1, HQ2.out.2.1.c0, HQ2.out.2.1.c1, HQ2.out.2.2.c0, HQ2.out.2.2.c1⟩ | exact ⟨HQ1.out.1.c0, HQ1.out.1.c1, HQ1.out.2.1.c0, HQ1.out.2.1.c1, HQ1.out.2.2.c0, HQ1.out.2.2.c1⟩ | exact ⟨HQ0.out.1.c0, HQ0.out.1.c1, HQ0.out.2.1.c0, HQ0.out.2.1.c1, HQ0.out.2.2.c0, HQ0.out.2.2.c1⟩) (first | (go_at_call 13; refine (sameDev_same _ sf aa8 aa5 cp8 cp5 lf i2 HL8.out HQ7.out.2.2.lines).mono ?_; rintro e u8 ⟨rfl, hb⟩; have HQ8 : Hid (DBox u8 v1.heap.size safe aa cp ls ∧ DBox u8 v3.heap.size se aa3 cp3 le ∧ DBox u8 v8.heap.size sf aa5 cp5 lf) := ⟨HQ7.out.1.below hb, HQ7.out.2.1.below hb, HQ7.out.2.2.below hb⟩; have HE8 : Hid (Below w.heap.size w u8) := HE7.out.trans (hb.mono HE7.out.size); clear hb) | (go_at_call 20; refine (HI4.out _ aa5 cp5 HQ6.out.2.2.lines).mono ?_; rintro e u7 ⟨aa8, cp8, rfl, hl8, hb⟩; have HQ7 : Hid (DBox u7 v1.heap.size safe aa cp ls ∧ DBox u7 v3.heap.size se aa3 cp3 le ∧ DBox u7 v8.heap.size sf aa5 cp5 lf) := ⟨HQ6.out.1.below hb, HQ6.out.2.1.below hb, HQ6.out.2.2.below hb⟩; have HE7 : Hid (Below w.heap.size w u7) := HE6.out.trans (hb.mono HE6.out.size); have HL8 : Hid (Lines u7 aa8 lf) := hl8; clear hl8; clear hb) | (go_at_call 10; have hq := HQ5.out; clear hq; refine (HI7.out _ aa cp HQ5.out.1.lines).mono ?_; rintro e u6 ⟨rfl, hb⟩; have HQ6 : Hid (DBox u6 v1.heap.size safe aa cp ls ∧ DBox u6 v3.heap.size se aa3 cp3 le ∧ DBox u6 v8.heap.size sf aa5 cp5 lf) := ⟨HQ5.out.1.below hb, HQ5.out.2.1.below hb, HQ5.out.2.2.below hb⟩; have HE6 : Hid (Below w.heap.size w u6) := HE5.out.trans (hb.mono HE5.out.size); clear hb) | (go_at_call 14; have hq := HQ4.out; clear hq; refine (HI6.out _ aa5 cp5 HQ4.out.2.2.lines).mono ?_; rintro e u5 ⟨rfl, hb⟩; have HQ5 : Hid (DBox u5 v1.heap.size safe aa cp ls ∧ DBox u5 v3.heap.size se aa3 cp3 le ∧ DBox u5 v8.heap.size sf aa5 cp5 lf) := ⟨HQ4.out.1.below hb, HQ4.out.2.1.below hb, HQ4.out.2.2.below hb⟩; have HE5 : Hid (Below w.heap.size w u5) := HE4.out.trans (hb.mono HE4.out.size); clear hb) | (go_at_call 29; refine (has_not _ aa7 cp7 rk n i3 HN7.out HR1.out).mono ?_; rintro e u4 ⟨rfl, hb⟩; have HQ4 : Hid (DBox u4 v1.heap.size safe aa cp ls ∧ DBox u4 v3.heap.size se aa3 cp3 le ∧ DBox u4 v8.heap.size sf aa5 cp5 lf) := ⟨HQ3.out.1.below hb, HQ3.out.2.1.below hb, HQ3.out.2.2.below hb⟩; have HE4 : Hid (Below w.heap.size w u4) := HE3.out.trans (hb.mono HE3.out.size); clear hb) | (go_at_call 21; refine (HI8.out _ aa3 cp3 HQ2.out.2.1.lines).mono ?_; rintro e u3 ⟨aa7, cp7, rfl, hl7, hb⟩; have HQ3 : Hid (DBox u3 v1.heap.size safe aa cp ls ∧ DBox u3 v3.heap.size se aa3 cp3 le ∧ DBox u3 v8.heap.size sf aa5 cp5 lf) := ⟨HQ2.out.1.below hb, HQ2.out.2.1.below hb, HQ2.out.2.2.below hb⟩; have HE3 : Hid (Below w.heap.size w u3) := HE2.out.trans (hb.mono HE2.out.size); have HN7 : Hid (Nums u3 aa7 rk) := hl7; clear hl7; clear hb) | (go_at_call 10; refine (HI7.out _ aa cp HQ1.out.1.lines).mono ?_; rintro e u2 ⟨rfl, hb⟩; have HQ2 : Hid (DBox u2 v1.heap.size safe aa cp ls ∧ DBox u2 v3.heap.size se aa3 cp3 le ∧ DBox u2 v8.heap.size sf aa5 cp5 lf) := ⟨HQ1.out.1.below hb, HQ1.out.2.1.below hb, HQ1.out.2.2.below hb⟩; have HE2 : Hid (Below w.heap.size w u2) := HE1.out.trans (hb.mono HE1.out.size); clear hb) | (go_at_call 14; refine (HI5.out _ aa3 cp3 HQ0.out.2.1.lines).mono ?_; rintro e u1 ⟨rfl, hb⟩; have HQ1 : Hid (DBox u1 v1.heap.size safe aa cp ls ∧ DBox u1 v3.heap.size se aa3 cp3 le ∧ DBox u1 v8.heap.size sf aa5 cp5 lf) := ⟨HQ0.out.1.below hb, HQ0.out.2.1.below hb, HQ0.out.2.2.below hb⟩; have HE1 : Hid (Below w.heap.size w u1) := HE0.out.trans (hb.mono HE0.out.size); clear hb))
    all_goals
      go_wp2
      go_ret
      exact ⟨rfl, HE8.out⟩
  · obtain ⟨z0, hz0⟩ : ∃ L : List Ln, L = [] := ⟨_, rfl⟩
    have HZ0 : Hid (z0 = []) := hz0
    have hz0l : z0.length ≤ 1048576 := by rw [hz0]; simp
    clear hz0
    have d0 := Hd.out.c0
    have d1 := Hd.out.c1
    go_wp2_with (rw [← HXv2.out])
    refine (iEvict_no v2 safe aa cp ls n Hd.out.lines HSZ.out hok z0 HZ0.out).mono ?_
    rintro e v3 ⟨aa3, cp3, rfl, hl3, hb⟩
    clear d0 d1
    have HBelv3 : Hid (Below w.heap.size w v3) := HBelv2.out.trans (hb.mono HBelv2.out.size)
    have Hd : Hid (DBox v3 v1.heap.size safe aa cp ls) := Hd.out.below hb
    clear hb
    obtain ⟨v4, hX⟩ : ∃ X, X = v3.alloc (.cells #[.string ⟨#[]⟩, .slice aa3 z0.length cp3] 26) := ⟨_, rfl⟩
    have HXv4 : Hid (v4 = v3.alloc (.cells #[.string ⟨#[]⟩, .slice aa3 z0.length cp3] 26)) := hX
    have hb : Below v3.heap.size v3 v4 := by rw [hX]; exact (Below.refl _ _).alloc (Nat.le_refl _) _
    have HBelv4 : Hid (Below w.heap.size w v4) := HBelv3.out.trans (hb.mono HBelv3.out.size)
    have Hd : Hid (DBox v4 v1.heap.size safe aa cp ls) := Hd.out.below hb
    have He : Hid (DBox v4 v3.heap.size ⟨#[]⟩ aa3 cp3 z0) := by
      have h1 : DBox v4 v3.heap.size ⟨#[]⟩ aa3 cp3 z0 := by rw [hX]; exact .new ⟨#[]⟩ cp3 _ hl3
      exact h1
    clear hX hb hl3
    have d0 := Hd.out.c0
    have d1 := Hd.out.c1
    have e0 := He.out.c0
    have e1 := He.out.c1
    go_wp2_with (rw [← HXv4.out])
    refine (sEvict_no v4 safe aa cp ls n Hd.out.lines HSZ.out hok z0 HZ0.out).mono ?_
    rintro e v5 ⟨aa4, cp4, rfl, hl4, hb⟩
    clear d0 d1 e0 e1
    have HBelv5 : Hid (Below w.heap.size w v5) := HBelv4.out.trans (hb.mono HBelv4.out.size)
    have Hd : Hid (DBox v5 v1.heap.size safe aa cp ls) := Hd.out.below hb
    have He : Hid (DBox v5 v3.heap.size ⟨#[]⟩ aa3 cp3 z0) := He.out.below hb
    clear hb
    obtain ⟨v6, hX⟩ : ∃ X, X = v5.alloc (.cells #[.string ⟨#[]⟩, .slice aa4 z0.length cp4] 26) := ⟨_, rfl⟩
    have HXv6 : Hid (v6 = v5.alloc (.cells #[.string ⟨#[]⟩, .slice aa4 z0.length cp4] 26)) := hX
    have hb : Below v5.heap.size v5 v6 := by rw [hX]; exact (Below.refl _ _).alloc (Nat.le_refl _) _
    have HBelv6 : Hid (Below w.heap.size w v6) := HBelv5.out.trans (hb.mono HBelv5.out.size)
    have Hd : Hid (DBox v6 v1.heap.size safe aa cp ls) := Hd.out.below hb
    have He : Hid (DBox v6 v3.heap.size ⟨#[]⟩ aa3 cp3 z0) := He.out.below hb
    have Hx : Hid (DBox v6 v5.heap.size ⟨#[]⟩ aa4 cp4 z0) := by
      have h1 : DBox v6 v5.heap.size ⟨#[]⟩ aa4 cp4 z0 := by rw [hX]; exact .new ⟨#[]⟩ cp4 _ hl4
      exact h1
    clear hX hb hl4
    have d0 := Hd.out.c0
    have d1 := Hd.out.c1
    have e0 := He.out.c0
    have e1 := He.out.c1
    have x0 := Hx.out.c0
    have x1 := Hx.out.c1
    go_wp2_with (rw [← HXv6.out])
    refine (sameDev_same v6 ⟨#[]⟩ aa3 aa4 cp3 cp4 z0 hz0l He.out.lines Hx.out.lines).mono ?_
    rintro e v7 ⟨rfl, hb⟩
    clear d0 d1 e0 e1 x0 x1
    have HBelv7 : Hid (Below w.heap.size w v7) := HBelv6.out.trans (hb.mono HBelv6.out.size)
    have Hd : Hid (DBox v7 v1.heap.size safe aa cp ls) := Hd.out.below hb
    have He : Hid (DBox v7 v3.heap.size ⟨#[]⟩ aa3 cp3 z0) := He.out.below hb
    have Hx : Hid (DBox v7 v5.heap.size ⟨#[]⟩ aa4 cp4 z0) := Hx.out.below hb
    clear hb
    have d0 := Hd.out.c0
    have d1 := Hd.out.c1
    have e0 := He.out.c0
    have e1 := He.out.c1
    have x0 := Hx.out.c0
    have x1 := Hx.out.c1
    go_wp2_with fail
    refine (sameDev_same v7 ⟨#[]⟩ aa3 aa4 cp3 cp4 z0 hz0l He.out.lines Hx.out.lines).mono ?_
    rintro e v8 ⟨rfl, hb⟩
    clear d0 d1 e0 e1 x0 x1
    have HBelv8 : Hid (Below w.heap.size w v8) := HBelv7.out.trans (hb.mono HBelv7.out.size)
    have Hd : Hid (DBox v8 v1.heap.size safe aa cp ls) := Hd.out.below hb
    have He : Hid (DBox v8 v3.heap.size ⟨#[]⟩ aa3 cp3 z0) := He.out.below hb
    have Hx : Hid (DBox v8 v5.heap.size ⟨#[]⟩ aa4 cp4 z0) := Hx.out.below hb
    clear hb
    go_wp2
    go_ret
    exact ⟨rfl, HBelv8.out⟩

set_option maxRecDepth 100000 in
theorem lifted (os : Os) (started : os.Started) (H : Type) (enc : TypeId × Value → H) :
    ReturnsInHanded {} Try.checked os 6 .any (Rows.fnEvictedSpec.pre6 enc Try.prog Try.f6 Rows.fnEvictedRow.domain false) (Rows.fnEvictedSpec.post enc Try.prog Try.f6 false true false false) := by
  refine returnsInHanded_of_change (C := Try.checked) own started (by kernel_rfl) Try.func6
    (ChangeSpec.witness6 (enc := enc) (C := Try.checked) false ⟨#[], #[.slice none 0 0], []⟩ 8 (by kernel_rfl) (by kernel_rfl) (by kernel_rfl) (by kernel_rfl)) ?_
  intro W base args ds gs before hval0 hW hcnd _
  have hval : ∀ (j : Nat) t v, Try.f6.params[j]? = some t → args[j]? = some v → Value.okWide Try.prog W .any base t v := hval0
  have hW' := hW
  obtain ⟨p, q, hA0, hV, rfl, hfz, hnd⟩ := hW
  have hA : DataW.TrodAll enc Try.prog W 0 (fun _ => true) true Try.f6.params.toList args.toList ds p := hA0
  rw [Try.params6] at hA hval
  obtain ⟨v0, vs0, d0, ds0, p0, q0, hargs, rfl, rfl, h0, r0⟩ := trodAll_cons hA
  obtain ⟨rfl, rfl, rfl⟩ := trodAll_nil r0
  obtain rfl : args = #[v0] := by cases args; simp_all
  obtain ⟨rfl, rfl⟩ := trodVars_none hV
  obtain ⟨a0, len0, cap0, rfl⟩ := okWide_slice Try.underlying22 (hval 0 22 v0 rfl rfl)
  have k0 := h0
  have lt0 : ∀ x ∈ p0, x.block < W.heap.size := by obtain ⟨m, hm⟩ := k0; exact DataW.trod_lt m _ _ _ hm
  obtain ⟨z0, w0⟩ : ∃ zs, IsRow .u8 W a0 len0 cap0 zs := by
    obtain ⟨fuel, hf⟩ := h0
    rcases open_ints Try.underlying22 Try.underlying5 (by kernel_rfl) hf with ⟨hcs, _⟩ | ⟨x, l, c, zs, hcs, _, hl, hm, hz, _, hcell, hwz⟩
    · simp [Value.cells] at hcs
      obtain ⟨rfl, rfl, rfl⟩ := hcs
      exact ⟨[], .inl ⟨rfl, rfl, rfl, rfl⟩⟩
    · simp [Value.cells] at hcs
      obtain ⟨rfl, rfl, rfl⟩ := hcs
      exact ⟨zs, .inr ⟨_, rfl, hl, hm, by simpa using hz, hcell, hwz⟩⟩
  clear hA0 hval0
  refine (walk a0 len0 cap0 z0 W w0).mono fun e W' ⟨he, bel⟩ => ?_
  subst he
  exact ⟨_, rfl, _, _, _, [], _, [], hW', trodAll_mk1 (shut_bool Try.underlying4 _), (trodAll_cons_mk (Below.trod laidOut (by kernel_rfl) (of_decide_eq_true (by kernel_rfl)) k0 bel lt0) trodAll_mk0), rfl, bel.frame _, fun h => by cases h⟩

theorem over : Rows.fnEvictedRow.holds Try.pinned (OpenSpec.ofChange Rows.fnEvictedSpec) :=
  OpenClaim.holds_of_wide 6 Try.f6 rfl rfl rfl rfl rfl rfl rfl ⟨rfl, rfl, rfl, rfl, rfl⟩ rfl rfl rfl rfl rfl (by kernel_rfl) Try.func6 (by kernel_rfl)
    (of_decide_eq_true (by kernel_rfl)) (by unfold Func.isWrapper; first | (rw [if_pos (by decide +kernel)]; kernel_rfl) | (rw [if_neg (by decide +kernel)]; exact ⟨rfl, rfl⟩))
    (fun os started H enc _ => lifted os started H enc)

theorem proved : Rows.FnEvictedSaid := over
#print axioms proved
end Go.Proofs.Ytgpmpijaggnocaa.fnEvicted
