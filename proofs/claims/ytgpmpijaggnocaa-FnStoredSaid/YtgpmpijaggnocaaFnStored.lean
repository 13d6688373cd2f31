/-
  FnStored: at every code the law that what is stored in a drawn device is seen where it was stored, and all else as it was, returns true, and the code reads as before; no condition.
-/
import Derived.Test.YtgpmpijaggnocaaRows
import Derived.WalkKit
import Derived.WalkSpells
import Derived.WalkLawsBesides
import Derived.Handy
import Derived.Test.YtgpmpijaggnocaaDBox
import Derived.Lib.Strings
import Derived.ProofKit
import Derived.OpenShut
import Derived.ShutString
import Derived.ChangeOld
import Derived.Below
namespace Go.Proofs.Ytgpmpijaggnocaa.fnStored
open Go.ChangeShapes Go.WideShapes Go.ChangeAt Go.RowKit
open Go.ChangeMaps (open_string shut_string)
set_option linter.unusedVariables false
open wmath rd dev later

theorem own : ownKnob Try.prog.godebug = none := by kernel_rfl
theorem laidOut : laidOutB Try.prog = true := by kernel_rfl

/-- WHAT THE WALK IS TOLD OF A SLICE OF INTEGERS THAT CAME IN: it is nil; or it leads to a row of 'cap' cells, the numbers 'zs' (the first 'len' are its elements, the rest its spare room), each fitting its kind. -/
def IsRow (k : IntKind) (w : World) (a : Option Addr) (len cap : Nat) (zs : List Int) : Prop :=
  (a = none ∧ len = 0 ∧ cap = 0 ∧ zs = []) ∨
  ∃ x, a = some x ∧ len ≤ cap ∧ cap ≤ maxLen ∧ zs.length = cap ∧ (∀ i, i < zs.length → w.cell? (x.add i) = some (.int k (zs.getD i 0))) ∧ ∀ n ∈ zs, (Lit.int k n).wf = true

theorem walk (a0 : Option Addr) (len0 cap0 : Nat) (z0 : List Int) (w : World) (w0 : IsRow .u8 w a0 len0 cap0 z0) :
    Calls Try.prog 3 #[.slice a0 len0 cap0] w fun e w' => e = .returned (.bool true) ∧ Below w.heap.size w w' := by
  have c0 := code_of w0
  clear w0
  by_cases hb0 : 1048576 < len0
  · go_enter Try.func3, Try.ntmps3
    go_wp2_with fail
    refine (big_yes _ a0 len0 cap0 hb0).mono ?_
    rintro e w' ⟨rfl, rfl⟩
    go_wp2
    go_ret
    exact ⟨rfl, Below.refl _ _⟩
  have HC0 : Hid (RdCode w w.heap.size a0 len0) := c0
  clear c0
  go_enter Try.func3, Try.ntmps3
  go_wp2_with fail
  refine (big_no _ a0 len0 cap0 (by omega)).mono ?_
  rintro e w' ⟨rfl, rfl⟩
  have HBelw : Hid (Below w.heap.size w w) := Below.refl _ _
  go_wp2_with fail
  refine (draw_store w a0 len0 cap0 (by omega) HC0.out).mono ?_
  rintro e v1 ⟨safe, ls, aa, cp, n, t, rfl, hnw, ht, hsz, hl, hb⟩
  have HBelv1 : Hid (Below w.heap.size w v1) := hb
  clear hb
  have HSZ : Hid (Sized safe ls) := hsz
  have HNW : Hid ((Lit.int .i64 n).wf = true) := hnw
  clear hnw hsz HC0
  obtain ⟨v2, hX⟩ : ∃ X, X = v1.alloc (.cells #[.string safe, .slice aa ls.length cp] 26) := ⟨_, rfl⟩
  have HXv2 : Hid (v2 = v1.alloc (.cells #[.string safe, .slice aa ls.length cp] 26)) := hX
  have hb : Below v1.heap.size v1 v2 := by rw [hX]; exact (Below.refl _ _).alloc (Nat.le_refl _) _
  have HBelv2 : Hid (Below w.heap.size w v2) := HBelv1.out.trans (hb.mono HBelv1.out.size)
  have Hd : Hid (DBox v2 v1.heap.size safe aa cp ls) := by
    have h1 : DBox v2 v1.heap.size safe aa cp ls := by rw [hX]; exact .new safe cp _ hl
    exact h1
  clear hX hb hl
  by_cases hok : DevOk safe ls ∧ Fits safe n (t.size : Int)
  · obtain ⟨hdo, f1, f2, f3, f4, f5⟩ := hok
    have HDO : Hid (DevOk safe ls) := hdo
    obtain ⟨N, rfl⟩ := Int.eq_ofNat_of_zero_le f3
    have hp : N / 64 < safe.size / 64 := by omega
    have hr : N % 64 + t.size ≤ 64 := by omega
    have ht1 : 1 ≤ t.size := by omega
    have hns : N + t.size ≤ safe.size := by have := hdo.1; omega
    have hs8 : safe.size ≤ 8192 := hdo.2.2.1
    have HA : Hid (((N : Nat) : Int) = ((64 * (N / 64) + N % 64 : Nat) : Int)) := by
      have h1 : ((N : Nat) : Int) = ((64 * (N / 64) + N % 64 : Nat) : Int) := by omega
      exact h1
    have HPR : Hid (N / 64 < safe.size / 64 ∧ 1 ≤ t.size ∧ N % 64 + t.size ≤ 64) := ⟨hp, ht1, hr⟩
    have HSN := store_seen hdo (N / 64) (N % 64) t hp hr
    rw [show 64 * (N / 64) + N % 64 = N by omega] at HSN
    have HLL : Hid ((storeL safe ls (N / 64) (N % 64) t).length ≤ 1048576) := by
      have h1 : (storeL safe ls (N / 64) (N % 64) t).length ≤ 1048576 := Nat.le_trans (storeL_le safe ls _ _ t) (by have := HSZ.out.2.1; omega)
      exact h1
    have HDE : Hid (DevOk safe (storeL safe ls (N / 64) (N % 64) t)) := store_ok hdo (N / 64) (N % 64) t hp hr
    obtain ⟨le, hle⟩ : ∃ L, L = storeL safe ls (N / 64) (N % 64) t := ⟨_, rfl⟩
    rw [← hle] at HSN HLL HDE
    have HLE : Hid (le = storeL safe ls (N / 64) (N % 64) t) := hle
    have hzo := seen_size hdo
    have hze := seen_size HDE.out
    have w1 := with_ahead (seenStr safe ls) N t (by omega)
    have w2 := with_mid (seenStr safe ls) N t (by omega)
    have w3 := with_behind (seenStr safe ls) N t (by omega) safe.size
    rw [← HSN] at w1 w2 w3
    have HSD : Hid (∀ (w : World) (a : Option Addr) (cap : Nat), Lines w a ls → Calls Try.prog 10 #[.agg #[.string safe, .slice a ls.length cap]] w fun e w' => e = .returned (.string (seenStr safe ls)) ∧ Below w.heap.size w w') := fun w a cap hl => sSeen w safe a cap ls hl HDO.out
    have HSE : Hid (∀ (w : World) (a : Option Addr) (cap : Nat), Lines w a le → Calls Try.prog 14 #[.agg #[.string safe, .slice a le.length cap]] w fun e w' => e = .returned (.string (seenStr safe le)) ∧ Below w.heap.size w w') := fun w a cap hl => iSeen w safe a cap le hl HDE.out
    have HLD : Hid (∀ (w : World) (a : Option Addr) (cap : Nat), Lines w a le → Calls Try.prog 15 #[.agg #[.string safe, .slice a le.length cap], .int .i64 (N : Int), .int .i64 (t.size : Int)] w fun e w' => e = .returned (.tuple #[.string ((seenStr safe le).extract N (N + t.size)), .bool true]) ∧ Below w.heap.size w w') := fun w a cap hl => iLoad w safe a cap le N t.size hns hl HDE.out
    rw [w2] at HLD
    clear hle HSN
    generalize seenStr safe ls = so at HSD w1 w3 hzo
    generalize seenStr safe le = se at HSE w1 w2 w3 hze
    have d0 := Hd.out.c0
    have d1 := Hd.out.c1
    go_wp2_with (rw [← HXv2.out])
    refine (HSD.out v2 aa cp Hd.out.lines).mono ?_
    rintro e v3 ⟨rfl, hb⟩
    clear d0 d1
    have HBelv3 : Hid (Below w.heap.size w v3) := HBelv2.out.trans (hb.mono HBelv2.out.size)
    have Hd : Hid (DBox v3 v1.heap.size safe aa cp ls) := Hd.out.below hb
    clear hb
    have d0 := Hd.out.c0
    have d1 := Hd.out.c1
    go_wp2_with fail
    refine ((by have h := iStore v3 safe aa cp ls ((N : Nat) : Int) (N / 64) (N % 64) t HA.out Hd.out.lines HDO.out HPR.out.1 HPR.out.2.1 HPR.out.2.2; rw [← HLE.out] at h; exact h : Calls Try.prog 11 #[.agg #[.string safe, .slice aa ls.length cp], .int .i64 (N : Int), .string t] v3 (Back safe le true v3))).mono ?_
    rintro e v4 ⟨aa3, cp3, rfl, hl3, hb⟩
    clear d0 d1
    have HBelv4 : Hid (Below w.heap.size w v4) := HBelv3.out.trans (hb.mono HBelv3.out.size)
    have Hd : Hid (DBox v4 v1.heap.size safe aa cp ls) := Hd.out.below hb
    clear hb
    obtain ⟨v5, hX⟩ : ∃ X, X = v4.alloc (.cells #[.string safe, .slice aa3 le.length cp3] 26) := ⟨_, rfl⟩
    have HXv5 : Hid (v5 = v4.alloc (.cells #[.string safe, .slice aa3 le.length cp3] 26)) := hX
    have hb : Below v4.heap.size v4 v5 := by rw [hX]; exact (Below.refl _ _).alloc (Nat.le_refl _) _
    have HBelv5 : Hid (Below w.heap.size w v5) := HBelv4.out.trans (hb.mono HBelv4.out.size)
    have Hd : Hid (DBox v5 v1.heap.size safe aa cp ls) := Hd.out.below hb
    have He : Hid (DBox v5 v4.heap.size safe aa3 cp3 le) := by
      have h1 : DBox v5 v4.heap.size safe aa3 cp3 le := by rw [hX]; exact .new safe cp3 _ hl3
      exact h1
    clear hX hb hl3
    have d0 := Hd.out.c0
    have d1 := Hd.out.c1
    have e0 := He.out.c0
    have e1 := He.out.c1
    go_wp2_with (rw [← HXv5.out])
    refine ((by have h := sStore v5 safe aa cp ls ((N : Nat) : Int) (N / 64) (N % 64) t HA.out Hd.out.lines HDO.out HPR.out.1 HPR.out.2.1 HPR.out.2.2; rw [← HLE.out] at h; exact h : Calls Try.prog 12 #[.agg #[.string safe, .slice aa ls.length cp], .int .i64 (N : Int), .string t] v5 (Back safe le true v5))).mono ?_
    rintro e v6 ⟨aa4, cp4, rfl, hl4, hb⟩
    clear d0 d1 e0 e1
    have HBelv6 : Hid (Below w.heap.size w v6) := HBelv5.out.trans (hb.mono HBelv5.out.size)
    have Hd : Hid (DBox v6 v1.heap.size safe aa cp ls) := Hd.out.below hb
    have He : Hid (DBox v6 v4.heap.size safe aa3 cp3 le) := He.out.below hb
    clear hb
    obtain ⟨v7, hX⟩ : ∃ X, X = v6.alloc (.cells #[.string safe, .slice aa4 le.length cp4] 26) := ⟨_, rfl⟩
    have HXv7 : Hid (v7 = v6.alloc (.cells #[.string safe, .slice aa4 le.length cp4] 26)) := hX
    have hb : Below v6.heap.size v6 v7 := by rw [hX]; exact (Below.refl _ _).alloc (Nat.le_refl _) _
    have HBelv7 : Hid (Below w.heap.size w v7) := HBelv6.out.trans (hb.mono HBelv6.out.size)
    have Hd : Hid (DBox v7 v1.heap.size safe aa cp ls) := Hd.out.below hb
    have He : Hid (DBox v7 v4.heap.size safe aa3 cp3 le) := He.out.below hb
    have Hx : Hid (DBox v7 v6.heap.size safe aa4 cp4 le) := by
      have h1 : DBox v7 v6.heap.size safe aa4 cp4 le := by rw [hX]; exact .new safe cp4 _ hl4
      exact h1
    clear hX hb hl4
    have d0 := Hd.out.c0
    have d1 := Hd.out.c1
    have e0 := He.out.c0
    have e1 := He.out.c1
    have x0 := Hx.out.c0
    have x1 := Hx.out.c1
    go_wp2_with (rw [← HXv7.out])
    refine (sameDev_same v7 safe aa3 aa4 cp3 cp4 le HLL.out He.out.lines Hx.out.lines).mono ?_
    rintro e v8 ⟨rfl, hb⟩
    clear d0 d1 e0 e1 x0 x1
    have HBelv8 : Hid (Below w.heap.size w v8) := HBelv7.out.trans (hb.mono HBelv7.out.size)
    have Hd : Hid (DBox v8 v1.heap.size safe aa cp ls) := Hd.out.below hb
    have He : Hid (DBox v8 v4.heap.size safe aa3 cp3 le) := He.out.below hb
    have Hx : Hid (DBox v8 v6.heap.size safe aa4 cp4 le) := Hx.out.below hb
    clear hb
    have d0 := Hd.out.c0
    have d1 := Hd.out.c1
    have e0 := He.out.c0
    have e1 := He.out.c1
    have x0 := Hx.out.c0
    have x1 := Hx.out.c1
    go_wp2_with fail
    refine (HSE.out v8 aa3 cp3 He.out.lines).mono ?_
    rintro e v9 ⟨rfl, hb⟩
    clear d0 d1 e0 e1 x0 x1
    have HBelv9 : Hid (Below w.heap.size w v9) := HBelv8.out.trans (hb.mono HBelv8.out.size)
    have Hd : Hid (DBox v9 v1.heap.size safe aa cp ls) := Hd.out.below hb
    have He : Hid (DBox v9 v4.heap.size safe aa3 cp3 le) := He.out.below hb
    have Hx : Hid (DBox v9 v6.heap.size safe aa4 cp4 le) := Hx.out.below hb
    clear hb
    have d0 := Hd.out.c0
    have d1 := Hd.out.c1
    have e0 := He.out.c0
    have e1 := He.out.c1
    have x0 := Hx.out.c0
    have x1 := Hx.out.c1
    go_wp2_with fail
    refine (HLD.out v9 aa3 cp3 He.out.lines).mono ?_
    rintro e v10 ⟨rfl, hb⟩
    clear d0 d1 e0 e1 x0 x1
    have HBelv10 : Hid (Below w.heap.size w v10) := HBelv9.out.trans (hb.mono HBelv9.out.size)
    have Hd : Hid (DBox v10 v1.heap.size safe aa cp ls) := Hd.out.below hb
    have He : Hid (DBox v10 v4.heap.size safe aa3 cp3 le) := He.out.below hb
    have Hx : Hid (DBox v10 v6.heap.size safe aa4 cp4 le) := Hx.out.below hb
    clear hb
    have HDK : Hid (∀ n : Later v10, Calls _ _ _ n.world _) := fun n => iOk n.world safe aa3 cp3 le (He.out.later n).lines HDE.out
    have htt : (t.toList == t.toList) = true := by simp
    have hsf : (safe.toList == safe.toList) = true := by simp
    have x1 : ((se.extract 0 N).toList == (so.extract 0 N).toList) = true := by rw [w1]; simp
    have x2 : ((se.extract N (N + t.size)).toList == t.toList) = true := by rw [w2]; simp
    have x3 : ((se.extract (N + t.size) se.size).toList == (so.extract (N + t.size) so.size).toList) = true := by rw [hze, hzo, w3]; simp
    have x4 : ((se.size : Int) == (so.size : Int)) = true := by rw [hze, hzo]; simp
    have x5 : (N : Int) ≤ (se.size : Int) := by omega
    have x6 : (N : Int) + (t.size : Int) ≤ (se.size : Int) := by omega
    have x7 : (N : Int) ≤ (so.size : Int) := by omega
    have x8 : (N : Int) + (t.size : Int) ≤ (so.size : Int) := by omega
    have x9 : ((N : Int) + (t.size : Int)).toNat = N + t.size := by omega
    clear w1 w2 w3 hze hzo HSD HSE HLD
    have d0 := Hd.out.c0
    have d1 := Hd.out.c1
    have e0 := He.out.c0
    have e1 := He.out.c1
    have x0 := Hx.out.c0
    have x1 := Hx.out.c1
    have Ld0 := fun n : Later v10 => Later.cell d0 n
    have Ld1 := fun n : Later v10 => Later.cell d1 n
    have Le0 := fun n : Later v10 => Later.cell e0 n
    have Le1 := fun n : Later v10 => Later.cell e1 n
    go_wp2
    clear d0 d1 e0 e1 x0 x1
    have hne := some_later v10
    refine region_later (by kernel_rfl) (by kernel_rfl) ?_
    repeat (go_big_quiet_step (first | (go_at_call 16; exact later_of (HDK.out _))))
    refine wpQuiet_nil ?_
    intro w' hw'
    obtain ⟨nn, rfl⟩ := hw'
    have HB9 : Hid (Below w.heap.size w nn.world) := HBelv10.out.trans (nn.below.mono HBelv10.out.size)
    generalize nn.world = w9 at HB9 ⊢
    clear Ld0 Ld1 Le0 Le1
    go_wp2
    go_ret
    exact ⟨rfl, HB9.out⟩
  · obtain ⟨z0, hz0⟩ : ∃ L : List Ln, L = [] := ⟨_, rfl⟩
    have HZ0 : Hid (z0 = []) := hz0
    have hz0l : z0.length ≤ 1048576 := by rw [hz0]; simp
    clear hz0
    obtain ⟨so, hso⟩ := sSeen_some safe ls HSZ.out
    have HSO : Hid (∀ (w : World) (a : Option Addr) (cap : Nat), Lines w a ls → _) := hso
    clear hso
    have d0 := Hd.out.c0
    have d1 := Hd.out.c1
    go_wp2_with (rw [← HXv2.out])
    refine (HSO.out v2 aa cp Hd.out.lines).mono ?_
    rintro e v3 ⟨rfl, hb⟩
    clear d0 d1
    have HBelv3 : Hid (Below w.heap.size w v3) := HBelv2.out.trans (hb.mono HBelv2.out.size)
    have Hd : Hid (DBox v3 v1.heap.size safe aa cp ls) := Hd.out.below hb
    clear hb
    have d0 := Hd.out.c0
    have d1 := Hd.out.c1
    go_wp2_with fail
    refine (iStore_no v3 safe aa cp ls n t (by omega) (i64_in HNW.out).2 Hd.out.lines HSZ.out hok z0 HZ0.out).mono ?_
    rintro e v4 ⟨aa3, cp3, rfl, hl3, hb⟩
    clear d0 d1
    have HBelv4 : Hid (Below w.heap.size w v4) := HBelv3.out.trans (hb.mono HBelv3.out.size)
    have Hd : Hid (DBox v4 v1.heap.size safe aa cp ls) := Hd.out.below hb
    clear hb
    obtain ⟨v5, hX⟩ : ∃ X, X = v4.alloc (.cells #[.string ⟨#[]⟩, .slice aa3 z0.length cp3] 26) := ⟨_, rfl⟩
    have HXv5 : Hid (v5 = v4.alloc (.cells #[.string ⟨#[]⟩, .slice aa3 z0.length cp3] 26)) := hX
    have hb : Below v4.heap.size v4 v5 := by rw [hX]; exact (Below.refl _ _).alloc (Nat.le_refl _) _
    have HBelv5 : Hid (Below w.heap.size w v5) := HBelv4.out.trans (hb.mono HBelv4.out.size)
    have Hd : Hid (DBox v5 v1.heap.size safe aa cp ls) := Hd.out.below hb
    have He : Hid (DBox v5 v4.heap.size ⟨#[]⟩ aa3 cp3 z0) := by
      have h1 : DBox v5 v4.heap.size ⟨#[]⟩ aa3 cp3 z0 := by rw [hX]; exact .new ⟨#[]⟩ cp3 _ hl3
      exact h1
    clear hX hb hl3
    have d0 := Hd.out.c0
    have d1 := Hd.out.c1
    have e0 := He.out.c0
    have e1 := He.out.c1
    go_wp2_with (rw [← HXv5.out])
    refine (sStore_no v5 safe aa cp ls n t (by omega) (i64_in HNW.out).2 Hd.out.lines HSZ.out hok z0 HZ0.out).mono ?_
    rintro e v6 ⟨aa4, cp4, rfl, hl4, hb⟩
    clear d0 d1 e0 e1
    have HBelv6 : Hid (Below w.heap.size w v6) := HBelv5.out.trans (hb.mono HBelv5.out.size)
    have Hd : Hid (DBox v6 v1.heap.size safe aa cp ls) := Hd.out.below hb
    have He : Hid (DBox v6 v4.heap.size ⟨#[]⟩ aa3 cp3 z0) := He.out.below hb
    clear hb
    obtain ⟨v7, hX⟩ : ∃ X, X = v6.alloc (.cells #[.string ⟨#[]⟩, .slice aa4 z0.length cp4] 26) := ⟨_, rfl⟩
    have HXv7 : Hid (v7 = v6.alloc (.cells #[.string ⟨#[]⟩, .slice aa4 z0.length cp4] 26)) := hX
    have hb : Below v6.heap.size v6 v7 := by rw [hX]; exact (Below.refl _ _).alloc (Nat.le_refl _) _
    have HBelv7 : Hid (Below w.heap.size w v7) := HBelv6.out.trans (hb.mono HBelv6.out.size)
    have Hd : Hid (DBox v7 v1.heap.size safe aa cp ls) := Hd.out.below hb
    have He : Hid (DBox v7 v4.heap.size ⟨#[]⟩ aa3 cp3 z0) := He.out.below hb
    have Hx : Hid (DBox v7 v6.heap.size ⟨#[]⟩ aa4 cp4 z0) := by
      have h1 : DBox v7 v6.heap.size ⟨#[]⟩ aa4 cp4 z0 := by rw [hX]; exact .new ⟨#[]⟩ cp4 _ hl4
      exact h1
    clear hX hb hl4
    have d0 := Hd.out.c0
    have d1 := Hd.out.c1
    have e0 := He.out.c0
    have e1 := He.out.c1
    have x0 := Hx.out.c0
    have x1 := Hx.out.c1
    go_wp2_with (rw [← HXv7.out])
    refine (sameDev_same v7 ⟨#[]⟩ aa3 aa4 cp3 cp4 z0 hz0l He.out.lines Hx.out.lines).mono ?_
    rintro e v8 ⟨rfl, hb⟩
    clear d0 d1 e0 e1 x0 x1
    have HBelv8 : Hid (Below w.heap.size w v8) := HBelv7.out.trans (hb.mono HBelv7.out.size)
    have Hd : Hid (DBox v8 v1.heap.size safe aa cp ls) := Hd.out.below hb
    have He : Hid (DBox v8 v4.heap.size ⟨#[]⟩ aa3 cp3 z0) := He.out.below hb
    have Hx : Hid (DBox v8 v6.heap.size ⟨#[]⟩ aa4 cp4 z0) := Hx.out.below hb
    clear hb
    have d0 := Hd.out.c0
    have d1 := Hd.out.c1
    have e0 := He.out.c0
    have e1 := He.out.c1
    have x0 := Hx.out.c0
    have x1 := Hx.out.c1
    go_wp2_with fail
    refine (sameDev_same v8 ⟨#[]⟩ aa3 aa4 cp3 cp4 z0 hz0l He.out.lines Hx.out.lines).mono ?_
    rintro e v9 ⟨rfl, hb⟩
    clear d0 d1 e0 e1 x0 x1
    have HBelv9 : Hid (Below w.heap.size w v9) := HBelv8.out.trans (hb.mono HBelv8.out.size)
    have Hd : Hid (DBox v9 v1.heap.size safe aa cp ls) := Hd.out.below hb
    have He : Hid (DBox v9 v4.heap.size ⟨#[]⟩ aa3 cp3 z0) := He.out.below hb
    have Hx : Hid (DBox v9 v6.heap.size ⟨#[]⟩ aa4 cp4 z0) := Hx.out.below hb
    clear hb
    go_wp2
    go_ret
    exact ⟨rfl, HBelv9.out⟩

set_option maxRecDepth 100000 in
theorem lifted (os : Os) (started : os.Started) (H : Type) (enc : TypeId × Value → H) :
    ReturnsInHanded {} Try.checked os 3 .any (Rows.fnStoredSpec.pre6 enc Try.prog Try.f3 Rows.fnStoredRow.domain false) (Rows.fnStoredSpec.post enc Try.prog Try.f3 false true false false) := by
  refine returnsInHanded_of_change (C := Try.checked) own started (by kernel_rfl) Try.func3
    (ChangeSpec.witness6 (enc := enc) (C := Try.checked) false ⟨#[], #[.slice none 0 0], []⟩ 8 (by kernel_rfl) (by kernel_rfl) (by kernel_rfl) (by kernel_rfl)) ?_
  intro W base args ds gs before hval0 hW hcnd _
  have hval : ∀ (j : Nat) t v, Try.f3.params[j]? = some t → args[j]? = some v → Value.okWide Try.prog W .any base t v := hval0
  have hW' := hW
  obtain ⟨p, q, hA0, hV, rfl, hfz, hnd⟩ := hW
  have hA : DataW.TrodAll enc Try.prog W 0 (fun _ => true) true Try.f3.params.toList args.toList ds p := hA0
  rw [Try.params3] at hA hval
  obtain ⟨v0, vs0, d0, ds0, p0, q0, hargs, rfl, rfl, h0, r0⟩ := trodAll_cons hA
  obtain ⟨rfl, rfl, rfl⟩ := trodAll_nil r0
  obtain rfl : args = #[v0] := by cases args; simp_all
  obtain ⟨rfl, rfl⟩ := trodVars_none hV
  obtain ⟨a0, len0, cap0, rfl⟩ := okWide_slice Try.underlying22 (hval 0 22 v0 rfl rfl)
  have k0 := h0
  have lt0 : ∀ x ∈ p0, x.block < W.heap.size := by obtain ⟨m, hm⟩ := k0; exact DataW.trod_lt m _ _ _ hm
  obtain ⟨z0, w0⟩ : ∃ zs, IsRow .u8 W a0 len0 cap0 zs := by
    obtain ⟨fuel, hf⟩ := h0
    rcases open_ints Try.underlying22 Try.underlying5 (by kernel_rfl) hf with ⟨hcs, _⟩ | ⟨x, l, c, zs, hcs, _, hl, hm, hz, _, hcell, hwz⟩
    · simp [Value.cells] at hcs
      obtain ⟨rfl, rfl, rfl⟩ := hcs
      exact ⟨[], .inl ⟨rfl, rfl, rfl, rfl⟩⟩
    · simp [Value.cells] at hcs
      obtain ⟨rfl, rfl, rfl⟩ := hcs
      exact ⟨zs, .inr ⟨_, rfl, hl, hm, by simpa using hz, hcell, hwz⟩⟩
  clear hA0 hval0
  refine (walk a0 len0 cap0 z0 W w0).mono fun e W' ⟨he, bel⟩ => ?_
  subst he
  exact ⟨_, rfl, _, _, _, [], _, [], hW', trodAll_mk1 (shut_bool Try.underlying4 _), (trodAll_cons_mk (Below.trod laidOut (by kernel_rfl) (of_decide_eq_true (by kernel_rfl)) k0 bel lt0) trodAll_mk0), rfl, bel.frame _, fun h => by cases h⟩

theorem over : Rows.fnStoredRow.holds Try.pinned (OpenSpec.ofChange Rows.fnStoredSpec) :=
  OpenClaim.holds_of_wide 3 Try.f3 rfl rfl rfl rfl rfl rfl rfl ⟨rfl, rfl, rfl, rfl, rfl⟩ rfl rfl rfl rfl rfl (by kernel_rfl) Try.func3 (by kernel_rfl)
    (of_decide_eq_true (by kernel_rfl)) (by unfold Func.isWrapper; first | (rw [if_pos (by decide +kernel)]; kernel_rfl) | (rw [if_neg (by decide +kernel)]; exact ⟨rfl, rfl⟩))
    (fun os started H enc _ => lifted os started H enc)

theorem proved : Rows.FnStoredSaid := over
#print axioms proved
end Go.Proofs.Ytgpmpijaggnocaa.fnStored
