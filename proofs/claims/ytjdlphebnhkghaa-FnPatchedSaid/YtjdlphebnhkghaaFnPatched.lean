/-
  FnPatched: for every code the law on drawn images and sets (where each remembered word's reference is to be an old one none is young behind it, and no other word of the image changes) returns true, and the code reads as before; no condition.
-/
import Derived.Test.YtjdlphebnhkghaaRows
import Derived.WalkKit
import Derived.Test.YtjdlphebnhkghaaPtLaw
import Derived.Test.YtjdlphebnhkghaaPtSpec
import Derived.Test.YtjdlphebnhkghaaDrawPt
import Derived.Test.YtjdlphebnhkghaaLater
import Derived.BigQuiet
import Derived.ProofKit
import Derived.OpenShut
import Derived.ShutString
import Derived.ChangeOld
import Derived.Below
namespace Go.Proofs.Ytjdlphebnhkghaa.fnPatched
open Go.ChangeShapes Go.WideShapes Go.ChangeAt Go.RowKit
open Go.ChangeMaps (open_string shut_string)
set_option linter.unusedVariables false
open ints rd pt yw ref wmath num

theorem own : ownKnob Try.prog.godebug = none := by kernel_rfl
theorem laidOut : laidOutB Try.prog = true := by kernel_rfl

/-- WHAT THE WALK IS TOLD OF A SLICE OF INTEGERS THAT CAME IN: it is nil; or it leads to a row of 'cap' cells, the numbers 'zs' (the first 'len' are its elements, the rest its spare room), each fitting its kind. -/
def IsRow (k : IntKind) (w : World) (a : Option Addr) (len cap : Nat) (zs : List Int) : Prop :=
  (a = none ∧ len = 0 ∧ cap = 0 ∧ zs = []) ∨
  ∃ x, a = some x ∧ len ≤ cap ∧ cap ≤ maxLen ∧ zs.length = cap ∧ (∀ i, i < zs.length → w.cell? (x.add i) = some (.int k (zs.getD i 0))) ∧ ∀ n ∈ zs, (Lit.int k n).wf = true

set_option maxHeartbeats 4000000 in
set_option maxRecDepth 20000 in
theorem walk (a0 : Option Addr) (len0 cap0 : Nat) (z0 : List Int) (w : World) (w0 : IsRow .u8 w a0 len0 cap0 z0) :
    Calls Try.prog 4 #[.slice a0 len0 cap0] w fun e w' => e = .returned (.bool true) ∧ Below w.heap.size w w' := by
  have c0 := code_of w0
  clear w0
  by_cases hb0 : 1048576 < len0
  · go_enter Try.func4, Try.ntmps4
    go_wp2_with fail
    refine (big_yes _ a0 len0 cap0 hb0).mono ?_
    rintro e w' ⟨rfl, rfl⟩
    go_wp2
    go_ret
    exact ⟨rfl, Below.refl _ _⟩
  have HC : Hid (RdCode w w.heap.size a0 len0) := c0
  clear c0
  go_enter Try.func4, Try.ntmps4
  go_wp2_with fail
  refine (big_no _ a0 len0 cap0 (by omega)).mono ?_
  rintro e w' ⟨rfl, rfl⟩
  go_wp2_with fail
  refine (draw_yw _ a0 len0 cap0 (by omega) HC.out).mono ?_
  rintro e w1 ⟨im, v, rfl, hims, xs, hxl, hown, hb⟩
  obtain ⟨ad, g, cp, rfl, _, hi1⟩ := ints_of_row hown
  have HB1 : Hid (Below w.heap.size w w1) := hb
  have HI1 : Hid (Ints w1 ad g xs) := hi1
  have HX10 : Hid (xs.length ≤ 10) := hxl
  have HXL : Hid (xs.length ≤ 1048576) := by show xs.length ≤ 1048576; omega
  have HIM : Hid (im.size ≤ 4096) := hims
  clear hb hown hi1 hxl hb0
  have HYI : Hid (∀ (s : ByteArray) (w : World) (a : Option Addr) (cap : Nat), s.size ≤ 1048576 → Nums w a xs → _) := fun s w a cap hs h => (impl_young w s a cap xs hs HXL.out h).mono fun _ _ q => q.1
  have HYS : Hid (∀ (w : World) (a : Option Addr) (cap : Nat), Nums w a xs → _) := fun w a cap h => (spec_young w im a cap xs (by omega) HXL.out h).mono fun _ _ q => q.1
  unfold YwAns at HYI HYS
  have HLL : Hid ((ywL im xs).length ≤ 1048576) := ywL_len im xs HXL.out
  go_wp2_with fail
  refine (HYI.out im w1 _ _ (by omega) HI1.out.nums).mono ?_
  rintro e w2 ⟨v, rfl, hown, hb2⟩
  obtain ⟨al, gl, cl, rfl, _, hi2⟩ := ints_of_row hown
  have HB2 : Hid (Below w.heap.size w w2) := HB1.out.trans (hb2.mono HB1.out.size)
  have HI2 : Hid (Ints w2 ad g xs) := HI1.out.below hb2
  have HJ2 : Hid (Ints w2 al gl (ywL im xs)) := hi2
  clear hown hi2 hb2
  go_wp2_with fail
  refine (HYS.out w2 _ _ HI2.out.nums).mono ?_
  rintro e w3 ⟨v, rfl, hown, hb3⟩
  obtain ⟨am, gm, cm, rfl, _, hi3⟩ := ints_of_row hown
  have HB3 : Hid (Below w.heap.size w w3) := HB2.out.trans (hb3.mono HB2.out.size)
  have HI3 : Hid (Ints w3 ad g xs) := HI2.out.below hb3
  have HJ3 : Hid (Ints w3 al gl (ywL im xs)) := HJ2.out.below hb3
  have HM3 : Hid (Ints w3 am gm (ywL im xs)) := hi3
  have HSA : Hid (∀ w', Below w3.heap.size w3 w' → Calls _ _ _ w' _) := fun w' h => sameInts_same w' al am gl gm cl cm (ywL im xs) HLL.out (HJ3.out.below h) (HM3.out.below h)
  clear hown hi3 hb3
  cases hok : ywOk im xs with
  | false =>
    clear HYI HYS hok
    generalize (ywL im xs).length = ln at HSA
    go_wp2_with fail
    refine (HSA.out w3 (Below.refl _ _)).mono ?_
    rintro e w4 ⟨rfl, hb4⟩
    have HB4 : Hid (Below w3.heap.size w3 w4) := hb4
    clear hb4
    go_wp2_with fail
    refine (HSA.out w4 HB4.out).mono ?_
    rintro e w5 ⟨rfl, hb5⟩
    have HB5 : Hid (Below w.heap.size w w5) := HB3.out.trans ((HB4.out.trans (hb5.mono HB4.out.size)).mono HB3.out.size)
    clear hb5
    go_wp2
    go_ret
    exact ⟨rfl, HB5.out⟩
  | true =>
  have hyl : ywL im xs = ywK im xs xs.length := by unfold ywL; rw [if_pos hok]
  have hkl := ywK_len im xs xs.length
  obtain ⟨hk1, hk2, hk3, hk4⟩ := pt_know im xs hok HX10.out
  have hmg := img_in (s := im) (by unfold ywOk at hok; rw [Bool.and_eq_true, Bool.and_eq_true] at hok; exact hok.2.1)
  rw [hyl] at HJ3 HM3 HSA
  have HPI : Hid (∀ (w : World) (a : Option Addr) (cap : Nat) (b : Option Addr) (cb : Nat) (c : Option Addr) (cc : Nat), Nums w a xs → Nums w b (ywK im xs xs.length) → Nums w c (oldsK xs.length) → _) := fun w a cap b cb c cc h1 h2 h3 => impl_pt w im a cap xs b cb (ywK im xs xs.length) c cc (oldsK xs.length) (by omega) HXL.out (by rw [hkl]; exact HXL.out) (by rw [oldsK_len]; exact HXL.out) h1 h2 h3 (fun x hx => by
    obtain ⟨j, hj, rfl⟩ := oldsK_mem _ x hx
    have := HX10.out
    omega)
  rw [hk1] at HPI
  have HYI2 : Hid (∀ (w : World) (a : Option Addr) (cap : Nat), Nums w a xs → _) := fun w a cap h => HYI.out (ptS im (ywK im xs xs.length) (oldsK xs.length) xs) w a cap (by rw [hk2]; omega) h
  rw [hk4] at HYI2
  have hkl2 := hkl
  rw [oldsK_len, hkl] at HPI
  have HK3 : Hid (∀ i : Nat, 8 * i + 8 ≤ im.size → _) := hk3
  have HSZ : Hid ((ptS im (ywK im xs xs.length) (oldsK xs.length) xs).size = im.size) := hk2
  rw [hkl] at HSA
  have HKL : Hid ((ywK im xs xs.length).length = xs.length) := hkl
  generalize ywK im xs xs.length = L at HJ3 HM3 HSA HPI HYI2 HK3 HSZ HKL
  generalize ptS im L (oldsK xs.length) xs = S at HPI HYI2 HK3 HSZ
  obtain ⟨n, hn⟩ : ∃ n, n = xs.length := ⟨_, rfl⟩
  have HNX : Hid (xs.length = n) := hn.symm
  have HMG : Hid ((im.size : Int) % 64 = 0 ∧ 1 ≤ (im.size : Int) / 64) := ⟨hmg.1, hmg.2.1⟩
  have hn10 : n ≤ 10 := by have := HX10.out; omega
  rw [hyl, hkl2] 
  rw [← hn] at HSA HPI HYI2 ⊢
  clear HYI HYS hok hk1 hk2 hk3 hk4 hkl hyl hkl2 hmg hn hims HLL
  go_wp2_with fail
  refine (HSA.out w3 (Below.refl _ _)).mono ?_
  rintro e w4 ⟨rfl, hb4⟩
  have HB4 : Hid (Below w.heap.size w w4) := HB3.out.trans (hb4.mono HB3.out.size)
  have HI4 : Hid (Ints w4 ad g xs) := HI3.out.below hb4
  have HJ4 : Hid (Ints w4 al gl L) := HJ3.out.below hb4
  clear hb4 HSA HM3
  obtain ⟨X, hX⟩ : ∃ X, X = w4.alloc (.cells #[] 2) := ⟨_, rfl⟩
  have HX : Hid (X = w4.alloc (.cells #[] 2)) := hX
  have HBX : Hid (Below w4.heap.size w4 X) := by
    have h1 : Below w4.heap.size w4 X := by rw [hX]; exact (Below.refl _ _).alloc (Nat.le_refl _) _
    exact h1
  have HO0 : Hid (X.ownsRow w4.heap.size 2 1 (.slice (some ⟨w4.heap.size, 0, none⟩) 0 0) (oldsK 0).length ((oldsK 0).map (Value.int .i64))) := ⟨rfl, .inr ⟨w4.heap.size, 0, #[], rfl, Nat.le_refl _, by rw [hX]; exact heap_alloc_last w4 _, Nat.le_refl _, Nat.zero_le _, rfl, rfl⟩⟩
  clear hX
  go_wp2_with (rw [← HX.out])
  go_loopw [9, 10] (fun v i wr => ∃ k : Nat, k ≤ n ∧ i = .int .i64 (k : Int) ∧ wr.ownsRow w4.heap.size 2 1 v (oldsK k).length ((oldsK k).map (Value.int .i64)) ∧ Below w4.heap.size w4 wr) (fun _ i _ => n - (intOf i).toNat)
  case atStart => exact ⟨0, Nat.zero_le _, rfl, HO0.out, HBX.out⟩
  case round =>
    clear HO0 HBX HX
    obtain ⟨k, hk, rfl, hown, hb⟩ := hrel
    have HO : Hid (wr.ownsRow w4.heap.size 2 1 u9 (oldsK k).length ((oldsK k).map (Value.int .i64))) := hown
    have HB : Hid (Below w4.heap.size w4 wr) := hb
    clear hown hb
    by_cases hlt : k < n
    · have hlti : (k : Int) < (n : Int) := by omega
      have HOR : Hid (∀ w, Calls Try.prog 16 #[.int .i64 (5 + (k : Int))] w fun e w' => e = .returned (.int .i64 (2 * (5 + (k : Int)))) ∧ Below w.heap.size w w') := fun w => by
        have := implOldRef (5 + (k : Int)) w
        rw [show oldRef (5 + (k : Int)) = 2 * (5 + (k : Int)) by unfold oldRef; rw [if_pos (by omega)]] at this
        exact this
      have HTK : Hid (oldsK (k + 1) = oldsK k ++ [2 * (5 + (k : Int))]) := rfl
      have HLK : Hid ((oldsK k).length ≤ 1048576) := by show (oldsK k).length ≤ _; rw [oldsK_len]; omega
      generalize oldsK k = M at HO HTK HLK
      go_wp2_with fail
      refine (HOR.out wr).mono ?_
      rintro e w5 ⟨rfl, hb5⟩
      have HB5 : Hid (Below w4.heap.size w4 w5) := HB.out.trans (hb5.mono HB.out.size)
      have HO5 : Hid (w5.ownsRow w4.heap.size 2 1 u9 M.length (M.map (Value.int .i64))) := HO.out.kept (grown_below none hb5) (by rcases hv : u9.ownBlock with _ | j; exact .inl rfl; exact .inr (by simp))
      clear hb5
      go_wp2_with (refine wpList_push w5 (by rfl) _ _ (by rfl) w4.heap.size u9 M (2 * (5 + (k : Int))) HO5.out (by rfl) (by rfl) HLK.out HB5.out.size ?_; intro g2 c2 w6 hown6 hb6 hB6; have HO6 : Hid (_) := hown6; have HB6 : Hid (Below w4.heap.size w4 w6) := HB5.out.trans hb6; clear hown6 hb6 hB6)
      go_roundw
      case rel => exact ⟨k + 1, by omega, by go_num, by rw [HTK.out]; exact HO6.out, HB6.out⟩
      case measure => simp [intOf]; omega
    · obtain rfl : k = n := by omega
      obtain ⟨ao, go', co, rfl, _, hio⟩ := ints_of_row HO.out
      have hol := oldsK_len k
      have HPQ : Hid (Calls _ _ _ wr _) := HPI.out wr ad cp al cl ao co (HI4.out.below HB.out).nums (HJ4.out.below HB.out).nums hio.nums
      have hne : ((S.size : Int) != (im.size : Int)) = false := by have := HSZ.out; simp; omega
      rw [hol]
      clear hio hol hlt HPI
      go_wp2_with fail
      refine HPQ.out.mono ?_
      rintro e w5 ⟨rfl, hb5⟩
      have HB5 : Hid (Below w4.heap.size w4 w5) := HB.out.trans (hb5.mono HB.out.size)
      clear hb5
      go_wp2
      clear hne
      go_loopw [13] (fun i wr => ∃ k : Nat, 8 * k ≤ im.size ∧ i = .int .i64 (k : Int) ∧ Below w4.heap.size w4 wr) (fun i _ => im.size - (intOf i).toNat)
      case atStart => exact ⟨0, by omega, rfl, HB5.out⟩
      case round =>
        clear HB HO HB5 HPQ
        obtain ⟨q, hq, rfl, hb⟩ := hrel
        have HB : Hid (Below w4.heap.size w4 wr) := hb
        clear hb
        obtain ⟨A, hA⟩ : ∃ A : Nat, A = 8 * q := ⟨_, rfl⟩
        have hqb : q ≤ 4096 := by have := HIM.out; omega
        have hw8 : IntKind.i64.wrap (8 * (q : Int)) = (A : Int) := by rw [IntKind.wrap_i64]; omega
        by_cases hlt : 8 * q < im.size
        · have h8 : 8 * q + 8 ≤ im.size := by have := HMG.out; omega
          have hAlt : (A : Int) < (S.size : Int) := by have := HSZ.out; omega
          obtain ⟨D, hD⟩ : ∃ D : Nat, D = A + 8 := ⟨_, rfl⟩
          have hw9 : IntKind.i64.wrap ((A : Int) + 8) = (D : Int) := by rw [IntKind.wrap_i64]; omega
          have hAD : (A : Int) ≤ (D : Int) := by omega
          have hDS : (D : Int) ≤ (S.size : Int) := by have := HSZ.out; omega
          have hDI : (D : Int) ≤ (im.size : Int) := by omega
          have HQL : Hid (q + 1 ≤ im.size ∧ 8 * (q + 1) ≤ im.size) := by show _ ∧ _; omega
          have HRW : Hid (∀ w, Calls Try.prog 17 #[.string (S.extract A D)] w fun e w' => e = .returned (.tuple #[.int .i64 (wAt S (8 * q)), .bool true]) ∧ w' = w) := fun w => by
            have := impl_eight (S.extract A D) w (by rw [ByteArray.size_extract]; have := HSZ.out; omega)
            rw [hD, hA] at this ⊢
            exact this
          obtain ⟨hk1, hk2⟩ := HK3.out q h8
          have HEX : Hid ((q : Int) ∉ xs → S.extract A D = im.extract A D) := fun h => by rw [hD, hA]; exact hk2 h
          have HRK : Hid ((q : Int) ∈ xs → ∀ w, Calls Try.prog 19 #[.int .i64 (wAt S (8 * q))] w fun e w' => e = .returned (.int .i64 1) ∧ Below w.heap.size w w') := fun h w => by
            have := implRefKind (wAt S (8 * q)) w (wAt_lt _ _)
            rw [hk1 h] at this
            exact this
          have HNI : Hid (∀ w', Below w4.heap.size w4 w' → Nums w' ad xs) := fun w' h => (HI4.out.below h).nums
          generalize wAt S (8 * q) = y at HRW HRK
          clear hk1 hk2 hA hD h8 hlt hq
          go_wp2_with fail
          refine (HRW.out _).mono ?_
          rintro e w6 ⟨rfl, rfl⟩
          have HBN : Hid (∀ w', Below w6.heap.size w6 w' → Below w4.heap.size w4 w') := fun w' h => HB.out.trans (h.mono HB.out.size)
          have hne := later.some_later w6
          by_cases hmem : (q : Int) ∈ xs
          · have HHS : Hid (∀ n : later.Later w6, Calls _ _ _ n.world _) := fun n => (has_yes n.world ad k cp xs (q : Int) HNX.out (by omega) (HNI.out _ (HBN.out _ n.below)) hmem).mono fun _ _ z => (⟨z.1, z.2.symm⟩ : _ ∧ _)
            have HR2 : Hid (∀ w, Calls _ _ _ w _) := HRK.out hmem
            clear hmem HRK HEX HRW
            go_wp2_with fail
            refine later.region_later (by kernel_rfl) (by kernel_rfl) ?_
            repeat (go_big_quiet_step (first | (go_at_call 18; exact later.later_same (HHS.out _)) | (go_at_call 19; exact later.later_of (HR2.out _))))
            refine wpQuiet_nil ?_
            intro w' hw'
            obtain ⟨nn, rfl⟩ := hw'
            have HB9 : Hid (Below w4.heap.size w4 nn.world) := HBN.out _ nn.below
            generalize nn.world = w9 at HB9 ⊢
            go_wp2
            go_roundw
            case rel => exact ⟨q + 1, HQL.out.2, by go_num, HB9.out⟩
            case measure => have := HQL.out; simp [intOf]; omega
          · have HHS : Hid (∀ n : later.Later w6, Calls _ _ _ n.world _) := fun n => (has_no n.world ad k cp xs (q : Int) HNX.out (by omega) (HNI.out _ (HBN.out _ n.below)) hmem).mono fun _ _ z => (⟨z.1, z.2.symm⟩ : _ ∧ _)
            have hex : S.extract A D = im.extract A D := HEX.out hmem
            have hsne : ((S.extract A D).toList == (im.extract A D).toList) = true := by rw [hex]; simp
            have hsn2 : ((S.extract A D).toList != (im.extract A D).toList) = false := by rw [hex]; simp
            clear hmem HRK HEX HRW hex
            go_wp2_with fail
            refine later.region_later (by kernel_rfl) (by kernel_rfl) ?_
            repeat (go_big_quiet_step (first | (go_at_call 18; exact later.later_same (HHS.out _))))
            refine wpQuiet_nil ?_
            intro w' hw'
            obtain ⟨nn, rfl⟩ := hw'
            have HB9 : Hid (Below w4.heap.size w4 nn.world) := HBN.out _ nn.below
            generalize nn.world = w9 at HB9 ⊢
            go_wp2
            go_roundw
            case rel => exact ⟨q + 1, HQL.out.2, by go_num, HB9.out⟩
            case measure => have := HQL.out; simp [intOf]; omega
        · have hAge : ¬ (A : Int) < (S.size : Int) := by have := HSZ.out; omega
          have HY9 : Hid (Calls _ _ _ wr _) := HYI2.out wr ad cp (HI4.out.below HB.out).nums
          have HBE : Hid (∀ w', Below wr.heap.size wr w' → Below w.heap.size w w') := fun w' h => HB4.out.trans ((HB.out.trans (h.mono HB.out.size)).mono HB4.out.size)
          clear hlt hq hA
          cases hn0 : decide (k = 0) with
          | true =>
            rw [hn0] at HY9
            have hk0 := of_decide_eq_true hn0
            subst hk0
            clear hn0
            go_wp2_with fail
            refine HY9.out.mono ?_
            rintro e w6 ⟨v6, rfl, _, hb6⟩
            have HB6 : Hid (Below w.heap.size w w6) := HBE.out w6 hb6
            clear hb6
            go_wp2
            go_ret
            exact ⟨rfl, HB6.out⟩
          | false =>
            rw [hn0] at HY9
            have hk0 : ((k : Int) == 0) = false := by have := of_decide_eq_false hn0; simp; omega
            clear hn0
            go_wp2_with fail
            refine HY9.out.mono ?_
            rintro e w6 ⟨v6, rfl, _, hb6⟩
            have HB6 : Hid (Below w.heap.size w w6) := HBE.out w6 hb6
            clear hb6
            go_wp2
            go_ret
            exact ⟨rfl, HB6.out⟩

set_option maxRecDepth 100000 in
theorem lifted (os : Os) (started : os.Started) (H : Type) (enc : TypeId × Value → H) :
    ReturnsInHanded {} Try.checked os 4 .any (Rows.fnPatchedSpec.pre6 enc Try.prog Try.f4 Rows.fnPatchedRow.domain false) (Rows.fnPatchedSpec.post enc Try.prog Try.f4 false true false false) := by
  refine returnsInHanded_of_change (C := Try.checked) own started (by kernel_rfl) Try.func4
    (ChangeSpec.witness6 (enc := enc) (C := Try.checked) false ⟨#[], #[.slice none 0 0], []⟩ 8 (by kernel_rfl) (by kernel_rfl) (by kernel_rfl) (by kernel_rfl)) ?_
  intro W base args ds gs before hval0 hW hcnd _
  have hval : ∀ (j : Nat) t v, Try.f4.params[j]? = some t → args[j]? = some v → Value.okWide Try.prog W .any base t v := hval0
  have hW' := hW
  obtain ⟨p, q, hA0, hV, rfl, hfz, hnd⟩ := hW
  have hA : DataW.TrodAll enc Try.prog W 0 (fun _ => true) true Try.f4.params.toList args.toList ds p := hA0
  rw [Try.params4] at hA hval
  obtain ⟨v0, vs0, d0, ds0, p0, q0, hargs, rfl, rfl, h0, r0⟩ := trodAll_cons hA
  obtain ⟨rfl, rfl, rfl⟩ := trodAll_nil r0
  obtain rfl : args = #[v0] := by cases args; simp_all
  obtain ⟨rfl, rfl⟩ := trodVars_none hV
  obtain ⟨a0, len0, cap0, rfl⟩ := okWide_slice Try.underlying28 (hval 0 28 v0 rfl rfl)
  have k0 := h0
  have lt0 : ∀ x ∈ p0, x.block < W.heap.size := by obtain ⟨m, hm⟩ := k0; exact DataW.trod_lt m _ _ _ hm
  obtain ⟨z0, w0⟩ : ∃ zs, IsRow .u8 W a0 len0 cap0 zs := by
    obtain ⟨fuel, hf⟩ := h0
    rcases open_ints Try.underlying28 Try.underlying5 (by kernel_rfl) hf with ⟨hcs, _⟩ | ⟨x, l, c, zs, hcs, _, hl, hm, hz, _, hcell, hwz⟩
    · simp [Value.cells] at hcs
      obtain ⟨rfl, rfl, rfl⟩ := hcs
      exact ⟨[], .inl ⟨rfl, rfl, rfl, rfl⟩⟩
    · simp [Value.cells] at hcs
      obtain ⟨rfl, rfl, rfl⟩ := hcs
      exact ⟨zs, .inr ⟨_, rfl, hl, hm, by simpa using hz, hcell, hwz⟩⟩
  clear hA0 hval0
  refine (walk a0 len0 cap0 z0 W w0).mono fun e W' ⟨he, bel⟩ => ?_
  subst he
  exact ⟨_, rfl, _, _, _, [], _, [], hW', trodAll_mk1 (shut_bool Try.underlying4 _), (trodAll_cons_mk (Below.trod laidOut (by kernel_rfl) (of_decide_eq_true (by kernel_rfl)) k0 bel lt0) trodAll_mk0), rfl, bel.frame _, fun h => by cases h⟩

theorem over : Rows.fnPatchedRow.holds Try.pinned (OpenSpec.ofChange Rows.fnPatchedSpec) :=
  OpenClaim.holds_of_wide 4 Try.f4 rfl rfl rfl rfl rfl rfl rfl ⟨rfl, rfl, rfl, rfl, rfl⟩ rfl rfl rfl rfl rfl (by kernel_rfl) Try.func4 (by kernel_rfl)
    (of_decide_eq_true (by kernel_rfl)) (by unfold Func.isWrapper; first | (rw [if_pos (by decide +kernel)]; kernel_rfl) | (rw [if_neg (by decide +kernel)]; exact ⟨rfl, rfl⟩))
    (fun os started H enc _ => lifted os started H enc)

theorem proved : Rows.FnPatchedSaid := over
#print axioms proved
end Go.Proofs.Ytjdlphebnhkghaa.fnPatched
