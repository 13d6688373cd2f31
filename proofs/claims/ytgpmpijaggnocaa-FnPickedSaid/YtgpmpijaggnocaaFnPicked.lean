/-
  FnPicked: at every code the law that behind a loss of power each line of a drawn device is what it was in Safe, what was sent of it, or what was seen, as the pick says, returns true, and the code reads as before; no condition.
-/
import Derived.Test.YtgpmpijaggnocaaRows
import Derived.WalkKit
import Derived.WalkSpells
import Derived.WalkLawsBesides
import Derived.Handy
import Derived.Test.YtgpmpijaggnocaaDBoxP
import Derived.Lib.Strings
import Derived.ProofKit
import Derived.OpenShut
import Derived.ShutString
import Derived.ChangeOld
import Derived.Below
namespace Go.Proofs.Ytgpmpijaggnocaa.fnPicked
open Go.ChangeShapes Go.WideShapes Go.ChangeAt Go.RowKit
open Go.ChangeMaps (open_string shut_string)
set_option linter.unusedVariables false
open wmath rd dev later

theorem own : ownKnob Try.prog.godebug = none := by kernel_rfl
theorem laidOut : laidOutB Try.prog = true := by kernel_rfl

/-- WHAT THE WALK IS TOLD OF A SLICE OF INTEGERS THAT CAME IN: it is nil; or it leads to a row of 'cap' cells, the numbers 'zs' (the first 'len' are its elements, the rest its spare room), each fitting its kind. -/
def IsRow (k : IntKind) (w : World) (a : Option Addr) (len cap : Nat) (zs : List Int) : Prop :=
  (a = none ∧ len = 0 ∧ cap = 0 ∧ zs = []) ∨
  ∃ x, a = some x ∧ len ≤ cap ∧ cap ≤ maxLen ∧ zs.length = cap ∧ (∀ i, i < zs.length → w.cell? (x.add i) = some (.int k (zs.getD i 0))) ∧ ∀ n ∈ zs, (Lit.int k n).wf = true

set_option maxHeartbeats 4000000 in
theorem walk (a0 : Option Addr) (len0 cap0 : Nat) (z0 : List Int) (w : World) (w0 : IsRow .u8 w a0 len0 cap0 z0) :
    Calls Try.prog 5 #[.slice a0 len0 cap0] w fun e w' => e = .returned (.bool true) ∧ Below w.heap.size w w' := by
  have c0 := code_of w0
  clear w0
  by_cases hb0 : 1048576 < len0
  · go_enter Try.func5, Try.ntmps5
    go_wp2_with fail
    refine (big_yes _ a0 len0 cap0 hb0).mono ?_
    rintro e w' ⟨rfl, rfl⟩
    go_wp2
    go_ret
    exact ⟨rfl, Below.refl _ _⟩
  have HC0 : Hid (RdCode w w.heap.size a0 len0) := c0
  clear c0
  go_enter Try.func5, Try.ntmps5
  go_wp2_with fail
  refine (big_no _ a0 len0 cap0 (by omega)).mono ?_
  rintro e w' ⟨rfl, rfl⟩
  have HBelw : Hid (Below w.heap.size w w) := Below.refl _ _
  go_wp2_with fail
  refine (draw_crash w a0 len0 cap0 (by omega) HC0.out).mono ?_
  rintro e v1 ⟨safe, ls, aa, cp, ks, kb, kc, rfl, hkl, hsz, hl, hnk, hb⟩
  have HBelv1 : Hid (Below w.heap.size w v1) := hb
  clear hb
  have HSZ : Hid (Sized safe ls) := hsz
  have HKL : Hid (ks.length ≤ 130) := hkl
  have HNK1 : Hid (Nums v1 kb ks) := hnk
  clear hsz hkl hnk HC0
  obtain ⟨v2, hX⟩ : ∃ X, X = v1.alloc (.cells #[.string safe, .slice aa ls.length cp] 26) := ⟨_, rfl⟩
  have HXv2 : Hid (v2 = v1.alloc (.cells #[.string safe, .slice aa ls.length cp] 26)) := hX
  have hb : Below v1.heap.size v1 v2 := by rw [hX]; exact (Below.refl _ _).alloc (Nat.le_refl _) _
  have HBelv2 : Hid (Below w.heap.size w v2) := HBelv1.out.trans (hb.mono HBelv1.out.size)
  have Hd : Hid (DBox v2 v1.heap.size safe aa cp ls) := by
    have h1 : DBox v2 v1.heap.size safe aa cp ls := by rw [hX]; exact .new safe cp _ hl
    exact h1
  clear hX hb hl
  have HNK : Hid (Nums v2 kb ks) := by
    have h1 : Nums v2 kb ks := HNK1.out.below (by rw [HXv2.out]; exact (Below.refl _ _).alloc (Nat.le_refl _) _)
    exact h1
  clear HNK1
  obtain ⟨okb, hokb, hio, hso⟩ := iOkB safe ls HSZ.out
  have HSO : Hid (∀ (w : World) (a : Option Addr) (cap : Nat), Lines w a ls → _) := hso
  clear hio hso
  obtain ⟨cs, hcs, hic, hsc⟩ := crash_two safe ls ks HSZ.out HKL.out
  have HIC : Hid (∀ (w : World) (a : Option Addr) (cap : Nat) (kb : Option Addr) (kc : Nat), Lines w a ls → Nums w kb ks → _) := hic
  have HSC : Hid (∀ (w : World) (a : Option Addr) (cap : Nat) (kb : Option Addr) (kc : Nat), Lines w a ls → Nums w kb ks → _) := hsc
  clear hic hsc
  have HCS : Hid (DevOk safe ls → cs = crashStr safe ls ks) := hcs
  have HOK : Hid (okb = true ↔ DevOk safe ls) := hokb
  clear hcs hokb
  have d0 := Hd.out.c0
  have d1 := Hd.out.c1
  go_wp2_with (rw [← HXv2.out])
  refine (HIC.out v2 aa cp kb kc Hd.out.lines HNK.out).mono ?_
  rintro e v3 ⟨rfl, hb⟩
  clear d0 d1
  have HBelv3 : Hid (Below w.heap.size w v3) := HBelv2.out.trans (hb.mono HBelv2.out.size)
  have Hd : Hid (DBox v3 v1.heap.size safe aa cp ls) := Hd.out.below hb
  have HNK : Hid (Nums v3 kb ks) := HNK.out.below hb
  clear hb
  obtain ⟨X, hX⟩ : ∃ X, X = v3.alloc (.cells #[.string cs, .slice none 0 0] 26) := ⟨_, rfl⟩
  have HX : Hid (X = v3.alloc (.cells #[.string cs, .slice none 0 0] 26)) := hX
  have hb : Below v3.heap.size v3 X := by rw [hX]; exact (Below.refl _ _).alloc (Nat.le_refl _) _
  have He : Hid (DBox X v3.heap.size cs none 0 []) := by
    have h1 : DBox X v3.heap.size cs none 0 [] := by rw [hX]; exact DBox.new (ls := []) (aa := none) cs 0 _ (fun i hi => by simp at hi)
    exact h1
  have Hd : Hid (DBox X v1.heap.size safe aa cp ls) := Hd.out.below hb
  have HNK : Hid (Nums X kb ks) := HNK.out.below hb
  have HBelX : Hid (Below w.heap.size w X) := HBelv3.out.trans (hb.mono HBelv3.out.size)
  clear hX hb
  cases okb with
  | true =>
    have hdo := HOK.out.1 rfl
    have HDO : Hid (DevOk safe ls) := hdo
    have hcr := HCS.out hdo
    have hs8 : safe.size ≤ 8192 := hdo.2.2.1
    have hcz : cs.size = safe.size := by rw [hcr]; exact crash_size hdo ks
    have HPK : Hid (∀ i (hi : i < ls.length), cs.extract (64 * ls[i].place.toNat) (64 * ls[i].place.toNat + 64) = ls[i].data ∨ cs.extract (64 * ls[i].place.toNat) (64 * ls[i].place.toNat + 64) = safe.extract (64 * ls[i].place.toNat) (64 * ls[i].place.toNat + 64) ∨ cs.extract (64 * ls[i].place.toNat) (64 * ls[i].place.toNat + 64) = ls[i].sent) := fun i hi => by rw [hcr]; exact picked HDO.out ks i hi
    have HPL : Hid (∀ i (hi : i < ls.length), ∃ p : Nat, ls[i].place = (p : Int) ∧ 64 * p + 64 ≤ safe.size) := fun i hi => by
      obtain ⟨q1, q2, _⟩ := ((devOk_iff _ _).1 HDO.out).2.2 ls[i] (List.getElem_mem hi)
      have q0 := HDO.out.1
      exact ⟨ls[i].place.toNat, by omega, by omega⟩
    have hlen : ls.length ≤ 129 := HSZ.out.2.1
    clear hdo hcr HCS HOK
    have hne := some_later X
    have HLC : Hid (∀ n : Later X, Calls _ _ _ n.world _) := fun n => HSC.out n.world aa cp kb kc (Hd.out.later n).lines (HNK.out.below n.below)
    have HLD : Hid (∀ n : Later X, Calls _ _ _ n.world _) := fun n => HSO.out n.world aa cp (Hd.out.later n).lines
    have HLM : Hid (∀ n : Later X, Calls Try.prog 13 #[.agg #[.string cs, .slice none 0 0], .agg #[.string cs, .slice none 0 0]] n.world fun e w' => e = .returned (.bool true) ∧ Below n.world.heap.size n.world w') := fun n => sameDev_same n.world cs none none 0 0 [] (by simp) (fun i hi => by simp at hi) (fun i hi => by simp at hi)
    have d0 := Hd.out.c0
    have d1 := Hd.out.c1
    have e0 := He.out.c0
    have e1 : X.cell? ⟨v3.heap.size, 1, none⟩ = some (.slice none 0 0) := He.out.c1
    have Ld0 := fun n : Later X => Later.cell d0 n
    have Ld1 := fun n : Later X => Later.cell d1 n
    have Le0 := fun n : Later X => Later.cell e0 n
    have Le1 := fun n : Later X => Later.cell e1 n
    go_wp2_with (rw [← HX.out])
    clear d0 d1 e0 e1
    refine region_later (by kernel_rfl) (by kernel_rfl) ?_
    repeat (go_big_quiet_step (first | (go_at_call 25; exact later_of (HLC.out _)) | (go_at_call 13; exact later_of (HLM.out _)) | (go_at_call 18; exact later_of (HLD.out _))))
    refine wpQuiet_nil ?_
    intro w' hw'
    obtain ⟨nn, rfl⟩ := hw'
    have hb := nn.below
    generalize nn.world = u1 at hb ⊢
    clear Ld0 Ld1 Le0 Le1 HLC HLD HLM hne
    have He : Hid (DBox u1 v3.heap.size cs none 0 []) := He.out.below hb
    have Hd : Hid (DBox u1 v1.heap.size safe aa cp ls) := Hd.out.below hb
    have HNK : Hid (Nums u1 kb ks) := HNK.out.below hb
    have HBelu1 : Hid (Below w.heap.size w u1) := HBelX.out.trans (hb.mono HBelX.out.size)
    clear hb
    clear HSC HIC HSO HX
    have HO0 : Hid ((u1.alloc (.cells #[] 2)).ownsRow u1.heap.size 2 1 (.slice (some ⟨u1.heap.size, 0, none⟩) 0 0) 0 []) := ⟨rfl, .inr ⟨u1.heap.size, 0, #[], rfl, Nat.le_refl _, heap_alloc_new u1 _, Nat.le_refl _, Nat.zero_le _, rfl, rfl⟩⟩
    have HB0 : Hid (Below u1.heap.size u1 (u1.alloc (.cells #[] 2))) := (Below.refl _ _).alloc (Nat.le_refl _) _
    generalize hDD : v1.heap.size = D at Hd ⊢
    generalize hEE : v3.heap.size = E at He ⊢
    clear hDD hEE
    go_wp2
    go_loopw [6, 7] (fun o i wr => ∃ k : Nat, k ≤ ls.length ∧ i = .int .i64 (k : Int) ∧ wr.ownsRow u1.heap.size 2 1 o (List.replicate k (2 : Int)).length ((List.replicate k (2 : Int)).map (Value.int .i64)) ∧ Below u1.heap.size u1 wr) (fun _ i _ => ls.length - (intOf i).toNat)
    case atStart => exact ⟨0, Nat.zero_le _, rfl, HO0.out, HB0.out⟩
    case round =>
      obtain ⟨k, hk, rfl, hown, hbr⟩ := hrel
      have HO : Hid (wr.ownsRow u1.heap.size 2 1 _ (List.replicate k (2 : Int)).length ((List.replicate k (2 : Int)).map (Value.int .i64))) := hown
      have HBR : Hid (Below u1.heap.size u1 wr) := hbr
      clear hown hbr
      have d1 := (Hd.out.below HBR.out).c1
      by_cases hlt : (k : Int) < (ls.length : Int)
      · have hkl : k < ls.length := by omega
        obtain ⟨R2, hR2⟩ : ∃ R, R = List.replicate k (2 : Int) := ⟨_, rfl⟩
        have hRl : R2.length ≤ 129 := by rw [hR2]; simp; omega
        have HRS : Hid (R2 ++ [2] = List.replicate (k + 1) (2 : Int)) := by
          have h1 : R2 ++ [2] = List.replicate (k + 1) (2 : Int) := by rw [hR2, List.replicate_succ']
          exact h1
        rw [← hR2] at HO
        have HRL : Hid (R2.length ≤ 129) := hRl
        clear hR2 hRl
        obtain ⟨b, off, haa, c0, c1, c2⟩ := Hd.out.lines k hkl
        subst haa
        obtain ⟨p, hpl, hps⟩ := HPL.out k hkl
        have hpk := HPK.out k hkl
        generalize ls[k] = l at c0 c1 c2 hpl hpk
        obtain ⟨pl, dt, sn⟩ := l
        simp only at c0 c1 c2 hpl hpk
        subst hpl
        rw [Int.toNat_natCast] at hpk
        have hb1 : b < u1.heap.size := World.block_lt_of_cell? u1 _ c0
        have HLN : Hid (∀ w', Below u1.heap.size u1 w' → w'.cell? ⟨b, off + k * 3, none⟩ = some (.int .i64 (p : Int)) ∧ w'.cell? ⟨b, off + k * 3 + 1, none⟩ = some (.string dt) ∧ w'.cell? ⟨b, off + k * 3 + 2, none⟩ = some (.string sn)) := fun w' h => ⟨by rw [h.cell (p := ⟨b, off + k * 3, none⟩) hb1]; exact c0, by rw [h.cell (p := ⟨b, off + k * 3 + 1, none⟩) hb1]; exact c1, by rw [h.cell (p := ⟨b, off + k * 3 + 2, none⟩) hb1]; exact c2⟩
        have g1 : 64 * (p : Int) + 64 ≤ (cs.size : Int) := by omega
        have g2 : 64 * (p : Int) + 64 ≤ (safe.size : Int) := by omega
        have g3 : (64 * (p : Int)).toNat = 64 * p := by omega
        have g4 : (64 * (p : Int) + 64).toNat = 64 * p + 64 := by omega
        have g5 : (p : Int) ≤ 127 := by omega
        have HEQ : Hid (∀ s t : ByteArray, s = t → (s.toList == t.toList) = true) := fun s t q => by rw [q]; simp
        generalize hxx : cs.extract (64 * p) (64 * p + 64) = x at hpk
        generalize hyy : safe.extract (64 * p) (64 * p + 64) = y at hpk
        have hcase : (x.toList == dt.toList) = true ∨ ((x.toList == dt.toList) = false ∧ (x.toList == y.toList) = true) ∨ ((x.toList == dt.toList) = false ∧ (x.toList == y.toList) = false ∧ (x.toList == sn.toList) = true) := by
          cases h1 : (x.toList == dt.toList) with
          | true => exact .inl rfl
          | false =>
            cases h2 : (x.toList == y.toList) with
            | true => exact .inr (.inl ⟨rfl, rfl⟩)
            | false =>
              rcases hpk with q | q | q
              · rw [HEQ.out _ _ q] at h1; cases h1
              · rw [HEQ.out _ _ q] at h2; cases h2
              · exact .inr (.inr ⟨rfl, rfl, HEQ.out _ _ q⟩)
        clear hpk c0 c1 c2 hb1 hps
        rcases hcase with q1 | ⟨q1, q2⟩ | ⟨q1, q2, q3⟩
        all_goals
          go_wp2_with (at_builtin; refine ints.wpList_push _ rfl _ _ rfl u1.heap.size _ R2 (2 : Int) HO.out rfl rfl (by have := HRL.out; omega) HBR.out.size ?_; intro g cg w3 hown3 hb3 hs3; have hu : Below u1.heap.size u1 w3 := HBR.out.trans hb3; obtain ⟨m0, m1, m2⟩ := HLN.out w3 hu; have n0 := (Hd.out.below hu).c0; have n1 := (Hd.out.below hu).c1; have r0 := (He.out.below hu).c0; have HO3 : Hid (w3.ownsRow u1.heap.size 2 1 (.slice (some ⟨g, 0, none⟩) (R2.length + 1) cg) (R2 ++ [2]).length ((R2 ++ [2]).map (Value.int .i64))) := hown3; have HU3 : Hid (Below u1.heap.size u1 w3) := hu; clear hown3 hb3 hs3 hu)
          go_roundw
          case rel => exact ⟨k + 1, by omega, by go_num, by rw [← HRS.out]; exact HO3.out, HU3.out⟩
          case measure => simp [intOf]; omega
      · obtain rfl : k = ls.length := by omega
        obtain ⟨aw, gw, cw, rfl, _, hiw⟩ := ints_of_row HO.out
        have hrl : (List.replicate ls.length (2 : Int)).length = ls.length := by simp
        have HNW : Hid (Nums wr aw (List.replicate ls.length (2 : Int))) := hiw.nums
        obtain ⟨st, hst⟩ : ∃ s, s = seenStr safe ls := ⟨_, rfl⟩
        have HQ1 : Hid (∀ n : Later wr, Calls Try.prog 22 #[.agg #[.string safe, .slice aa ls.length cp], .slice none 0 0] n.world fun e w' => e = .returned (.agg #[.string safe, .slice none 0 0]) ∧ Below n.world.heap.size n.world w') := fun n => by have q := iCrash n.world safe aa cp ls none 0 [] (by simp) ((Hd.out.below HBR.out).later n).lines (fun i hi => by simp at hi) HDO.out; rw [crash_none] at q; exact q
        have HQ2 : Hid (∀ n : Later wr, Calls Try.prog 22 #[.agg #[.string safe, .slice aa ls.length cp], .slice aw ls.length cw] n.world fun e w' => e = .returned (.agg #[.string st, .slice none 0 0]) ∧ Below n.world.heap.size n.world w') := fun n => by have q := iCrash n.world safe aa cp ls aw cw (List.replicate ls.length 2) (by simp; omega) ((Hd.out.below HBR.out).later n).lines (HNW.out.below n.below) HDO.out; rw [crash_all, hrl, ← hst] at q; exact q
        have HQ3 : Hid (∀ n : Later wr, Calls Try.prog 14 #[.agg #[.string safe, .slice aa ls.length cp]] n.world fun e w' => e = .returned (.string st) ∧ Below n.world.heap.size n.world w') := fun n => by rw [hst]; exact iSeen n.world safe aa cp ls ((Hd.out.below HBR.out).later n).lines HDO.out
        rw [hrl]
        have x1 : (st.toList == st.toList) = true := by simp
        have x2 : (safe.toList == safe.toList) = true := by simp
        have x3 : ((cs.size : Int) == (safe.size : Int)) = true := by rw [hcz]; simp
        have f1 := field_first safe
        have f2 := field_first st
        have d0 := (Hd.out.below HBR.out).c0
        have e0 := (He.out.below HBR.out).c0
        have e1 : wr.cell? ⟨E, 1, none⟩ = some (.slice none 0 0) := (He.out.below HBR.out).c1
        have Ld0 := fun n : Later wr => Later.cell d0 n
        have Ld1 := fun n : Later wr => Later.cell d1 n
        have Le0 := fun n : Later wr => Later.cell e0 n
        have Le1 := fun n : Later wr => Later.cell e1 n
        have hne := some_later wr
        clear hst hcz hrl hiw
        go_wp2
        clear d0 d1 e0 e1
        refine region_later (by kernel_rfl) (by kernel_rfl) ?_
        repeat (go_big_quiet_step (first | (go_at_call 22; with_reducible exact later_of (HQ1.out _)) | (go_at_call 22; with_reducible exact later_of (HQ2.out _)) | (go_at_call 14; exact later_of (HQ3.out _))))
        refine wpQuiet_nil ?_
        intro w' hw'
        obtain ⟨nn, rfl⟩ := hw'
        have hb9 : Below u1.heap.size u1 nn.world := HBR.out.trans (nn.below.mono HBR.out.size)
        have HB9 : Hid (Below w.heap.size w nn.world) := HBelu1.out.trans (hb9.mono HBelu1.out.size)
        clear hb9
        generalize nn.world = w9 at HB9 ⊢
        clear Ld0 Ld1 Le0 Le1
        go_wp2
        go_ret
        exact ⟨rfl, HB9.out⟩
  | false =>
    have hne := some_later X
    have HLC : Hid (∀ n : Later X, Calls _ _ _ n.world _) := fun n => HSC.out n.world aa cp kb kc (Hd.out.later n).lines (HNK.out.below n.below)
    have HLD : Hid (∀ n : Later X, Calls _ _ _ n.world _) := fun n => HSO.out n.world aa cp (Hd.out.later n).lines
    have HLM : Hid (∀ n : Later X, Calls Try.prog 13 #[.agg #[.string cs, .slice none 0 0], .agg #[.string cs, .slice none 0 0]] n.world fun e w' => e = .returned (.bool true) ∧ Below n.world.heap.size n.world w') := fun n => sameDev_same n.world cs none none 0 0 [] (by simp) (fun i hi => by simp at hi) (fun i hi => by simp at hi)
    have d0 := Hd.out.c0
    have d1 := Hd.out.c1
    have e0 := He.out.c0
    have e1 : X.cell? ⟨v3.heap.size, 1, none⟩ = some (.slice none 0 0) := He.out.c1
    have Ld0 := fun n : Later X => Later.cell d0 n
    have Ld1 := fun n : Later X => Later.cell d1 n
    have Le0 := fun n : Later X => Later.cell e0 n
    have Le1 := fun n : Later X => Later.cell e1 n
    go_wp2_with (rw [← HX.out])
    clear d0 d1 e0 e1
    refine region_later (by kernel_rfl) (by kernel_rfl) ?_
    repeat (go_big_quiet_step (first | (go_at_call 25; exact later_of (HLC.out _)) | (go_at_call 13; exact later_of (HLM.out _)) | (go_at_call 18; exact later_of (HLD.out _))))
    refine wpQuiet_nil ?_
    intro w' hw'
    obtain ⟨nn, rfl⟩ := hw'
    have hb := nn.below
    generalize nn.world = u1 at hb ⊢
    clear Ld0 Ld1 Le0 Le1 HLC HLD HLM hne
    have He : Hid (DBox u1 v3.heap.size cs none 0 []) := He.out.below hb
    have Hd : Hid (DBox u1 v1.heap.size safe aa cp ls) := Hd.out.below hb
    have HNK : Hid (Nums u1 kb ks) := HNK.out.below hb
    have HBelu1 : Hid (Below w.heap.size w u1) := HBelX.out.trans (hb.mono HBelX.out.size)
    clear hb
    have hne := some_later u1
    have HLC : Hid (∀ n : Later u1, Calls _ _ _ n.world _) := fun n => HSC.out n.world aa cp kb kc (Hd.out.later n).lines (HNK.out.below n.below)
    have HLD : Hid (∀ n : Later u1, Calls _ _ _ n.world _) := fun n => HSO.out n.world aa cp (Hd.out.later n).lines
    have HLM : Hid (∀ n : Later u1, Calls Try.prog 13 #[.agg #[.string cs, .slice none 0 0], .agg #[.string cs, .slice none 0 0]] n.world fun e w' => e = .returned (.bool true) ∧ Below n.world.heap.size n.world w') := fun n => sameDev_same n.world cs none none 0 0 [] (by simp) (fun i hi => by simp at hi) (fun i hi => by simp at hi)
    have d0 := Hd.out.c0
    have d1 := Hd.out.c1
    have e0 := He.out.c0
    have e1 : u1.cell? ⟨v3.heap.size, 1, none⟩ = some (.slice none 0 0) := He.out.c1
    have Ld0 := fun n : Later u1 => Later.cell d0 n
    have Ld1 := fun n : Later u1 => Later.cell d1 n
    have Le0 := fun n : Later u1 => Later.cell e0 n
    have Le1 := fun n : Later u1 => Later.cell e1 n
    go_wp2
    clear d0 d1 e0 e1
    refine region_later (by kernel_rfl) (by kernel_rfl) ?_
    repeat (go_big_quiet_step (first | (go_at_call 25; exact later_of (HLC.out _)) | (go_at_call 13; exact later_of (HLM.out _)) | (go_at_call 18; exact later_of (HLD.out _))))
    refine wpQuiet_nil ?_
    intro w' hw'
    obtain ⟨nn, rfl⟩ := hw'
    have hb := nn.below
    generalize nn.world = u2 at hb ⊢
    clear Ld0 Ld1 Le0 Le1 HLC HLD HLM hne
    have HB9 : Hid (Below w.heap.size w u2) := HBelu1.out.trans (hb.mono HBelu1.out.size)
    go_wp2
    go_ret
    exact ⟨rfl, HB9.out⟩

set_option maxRecDepth 100000 in
theorem lifted (os : Os) (started : os.Started) (H : Type) (enc : TypeId × Value → H) :
    ReturnsInHanded {} Try.checked os 5 .any (Rows.fnPickedSpec.pre6 enc Try.prog Try.f5 Rows.fnPickedRow.domain false) (Rows.fnPickedSpec.post enc Try.prog Try.f5 false true false false) := by
  refine returnsInHanded_of_change (C := Try.checked) own started (by kernel_rfl) Try.func5
    (ChangeSpec.witness6 (enc := enc) (C := Try.checked) false ⟨#[], #[.slice none 0 0], []⟩ 8 (by kernel_rfl) (by kernel_rfl) (by kernel_rfl) (by kernel_rfl)) ?_
  intro W base args ds gs before hval0 hW hcnd _
  have hval : ∀ (j : Nat) t v, Try.f5.params[j]? = some t → args[j]? = some v → Value.okWide Try.prog W .any base t v := hval0
  have hW' := hW
  obtain ⟨p, q, hA0, hV, rfl, hfz, hnd⟩ := hW
  have hA : DataW.TrodAll enc Try.prog W 0 (fun _ => true) true Try.f5.params.toList args.toList ds p := hA0
  rw [Try.params5] at hA hval
  obtain ⟨v0, vs0, d0, ds0, p0, q0, hargs, rfl, rfl, h0, r0⟩ := trodAll_cons hA
  obtain ⟨rfl, rfl, rfl⟩ := trodAll_nil r0
  obtain rfl : args = #[v0] := by cases args; simp_all
  obtain ⟨rfl, rfl⟩ := trodVars_none hV
  obtain ⟨a0, len0, cap0, rfl⟩ := okWide_slice Try.underlying22 (hval 0 22 v0 rfl rfl)
  have k0 := h0
  have lt0 : ∀ x ∈ p0, x.block < W.heap.size := by obtain ⟨m, hm⟩ := k0; exact DataW.trod_lt m _ _ _ hm
  obtain ⟨z0, w0⟩ : ∃ zs, IsRow .u8 W a0 len0 cap0 zs := by
    obtain ⟨fuel, hf⟩ := h0
    rcases open_ints Try.underlying22 Try.underlying5 (by kernel_rfl) hf with ⟨hcs, _⟩ | ⟨x, l, c, zs, hcs, _, hl, hm, hz, _, hcell, hwz⟩
    · simp [Value.cells] at hcs
      obtain ⟨rfl, rfl, rfl⟩ := hcs
      exact ⟨[], .inl ⟨rfl, rfl, rfl, rfl⟩⟩
    · simp [Value.cells] at hcs
      obtain ⟨rfl, rfl, rfl⟩ := hcs
      exact ⟨zs, .inr ⟨_, rfl, hl, hm, by simpa using hz, hcell, hwz⟩⟩
  clear hA0 hval0
  refine (walk a0 len0 cap0 z0 W w0).mono fun e W' ⟨he, bel⟩ => ?_
  subst he
  exact ⟨_, rfl, _, _, _, [], _, [], hW', trodAll_mk1 (shut_bool Try.underlying4 _), (trodAll_cons_mk (Below.trod laidOut (by kernel_rfl) (of_decide_eq_true (by kernel_rfl)) k0 bel lt0) trodAll_mk0), rfl, bel.frame _, fun h => by cases h⟩

theorem over : Rows.fnPickedRow.holds Try.pinned (OpenSpec.ofChange Rows.fnPickedSpec) :=
  OpenClaim.holds_of_wide 5 Try.f5 rfl rfl rfl rfl rfl rfl rfl ⟨rfl, rfl, rfl, rfl, rfl⟩ rfl rfl rfl rfl rfl (by kernel_rfl) Try.func5 (by kernel_rfl)
    (of_decide_eq_true (by kernel_rfl)) (by unfold Func.isWrapper; first | (rw [if_pos (by decide +kernel)]; kernel_rfl) | (rw [if_neg (by decide +kernel)]; exact ⟨rfl, rfl⟩))
    (fun os started H enc _ => lifted os started H enc)

theorem proved : Rows.FnPickedSaid := over
#print axioms proved
end Go.Proofs.Ytgpmpijaggnocaa.fnPicked
