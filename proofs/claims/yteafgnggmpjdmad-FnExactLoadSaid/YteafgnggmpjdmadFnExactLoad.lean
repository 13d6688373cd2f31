/-
  FnExactLoad: for every device and every two numbers the law that holds the program's Load against the specification's Load returns true, and the device reads as before; no condition.
-/
import Derived.Test.YteafgnggmpjdmadDevOpen
import Derived.Test.YteafgnggmpjdmadDev9
import Derived.Deep.RegionWith
import Derived.ProofKit
import Derived.OpenShut
import Derived.ShutString
import Derived.ChangeOld
import Derived.Below
namespace Go.Proofs.Yteafgnggmpjdmad.fnExactLoad
open Go.ChangeShapes Go.WideShapes Go.ChangeAt Go.RowKit
open dev

theorem own : ownKnob Try.prog.godebug = none := by kernel_rfl
theorem laidOut : laidOutB Try.prog = true := by kernel_rfl


set_option linter.unusedVariables false in
set_option maxHeartbeats 4000000 in
theorem walk (safe : ByteArray) (a : Option Addr) (cap : Nat) (ls : List Ln) (x1 : Int) (x2 : Int) (w : World) (hs : safe.size ≤ maxLen) (hl : Lines w a ls) (hm : ls.length ≤ maxLen) (hz : ∀ i (hi : i < ls.length), ls[i].data.size ≤ maxLen ∧ ls[i].sent.size ≤ maxLen) (hx1 : (Lit.int .i64 x1).wf = true) (hx2 : (Lit.int .i64 x2).wf = true) :
    Calls Try.prog 4 #[.agg #[.string safe, .slice a ls.length cap], .int .i64 x1, .int .i64 x2] w fun e w' => e = .returned (.bool true) ∧ Below w.heap.size w w' := by
  have HL : Hid (Lines w a ls) := hl
  obtain ⟨W, hW⟩ : ∃ W, W = w.alloc (.cells #[.string safe, .slice a ls.length cap] 24) := ⟨_, rfl⟩
  have HB0 : Hid (Below w.heap.size w W) := by rw [hW]; exact (Below.refl _ _).alloc (Nat.le_refl _) _
  have hsz : w.heap.size < W.heap.size := by rw [hW]; simp
  have k0 : W.cell? ⟨w.heap.size, 0, none⟩ = some (.string safe) := by rw [hW, World.cell?_alloc_new]; rfl
  have k1 : W.cell? ⟨w.heap.size, 1, none⟩ = some (.slice a ls.length cap) := by rw [hW, World.cell?_alloc_new]; rfl
  have HK : Hid (∀ w', Below W.heap.size W w' → w'.cell? ⟨w.heap.size, 0, none⟩ = some (.string safe) ∧ w'.cell? ⟨w.heap.size, 1, none⟩ = some (.slice a ls.length cap)) := fun w' h =>
    ⟨by rw [h.cell (p := ⟨w.heap.size, 0, none⟩) hsz]; exact k0, by rw [h.cell (p := ⟨w.heap.size, 1, none⟩) hsz]; exact k1⟩
  have HW : Hid (W = w.alloc (.cells #[.string safe, .slice a ls.length cap] 24)) := hW
  have HSZ : Hid (∀ w, Lines w a ls → _) := fun w h => szDevice_any w safe a cap ls hs hm h hz
  have HLW : Hid (∀ w', Below W.heap.size W w' → Lines w' a ls) := fun w' h => (HL.out.below HB0.out).below h
  have HEnd : Hid (∀ w', Below W.heap.size W w' → Below w.heap.size w w') := fun w' h => HB0.out.trans (h.mono HB0.out.size)
  clear k0 k1 hW hl hz
  go_enter Try.func4, Try.ntmps4
  go_wp2_with fail
  rw [← HW.out]
  refine (HSZ.out W (HLW.out W (Below.refl _ _))).mono ?_
  rintro e w1 ⟨r, rfl, hr0, hr1, hb1⟩
  have HB1 : Hid (Below W.heap.size W w1) := hb1
  have HR1 : Hid (0 ≤ r → safe.size ≤ 1048576 ∧ ls.length ≤ 1048576 ∧ ∀ i (hi : i < ls.length), ls[i].data.size ≤ 1048576 ∧ ls[i].sent.size ≤ 1048576) := hr1
  clear hb1 hr1
  by_cases hneg : r < 0
  · go_wp2
    go_ret
    exact ⟨rfl, HEnd.out _ HB1.out⟩
  obtain ⟨hs2, hn2, hz2⟩ := HR1.out (by omega)
  have HZ2 : Hid (∀ i (hi : i < ls.length), ls[i].data.size ≤ 1048576 ∧ ls[i].sent.size ≤ 1048576) := hz2
  obtain ⟨st, bo, hsp, him⟩ := load_both safe ls x1 x2 hx1 hx2 hs2 hn2 hz2
  have HS : Hid (∀ (w : World) (a : Option Addr) (cap : Nat), Lines w a ls → _) := hsp
  have HI : Hid (∀ (w : World) (a : Option Addr) (cap : Nat), Lines w a ls → _) := him
  have hss : (st.toList == st.toList) = true := by simp
  have hbb : (bo == bo) = true := by simp
  clear hz2 hsp him
  obtain ⟨m0, m1⟩ := HK.out w1 HB1.out
  go_wp2_with fail
  refine (toDevice_any w1 safe a cap ls hn2 (HLW.out w1 HB1.out)).mono ?_
  rintro e w2 ⟨g, rfl, hg, hl2, hr2, hb2⟩
  have HL2 : Hid (Lines w2 (some ⟨g, 0, none⟩) ls) := hl2
  have HB2 : Hid (Below W.heap.size W w2) := HB1.out.trans (hb2.mono HB1.out.size)
  clear hl2 hr2 hb2 m0 m1
  go_wp2_with fail
  refine (HS.out w2 _ ls.length HL2.out).mono ?_
  rintro e w3 ⟨rfl, hb3⟩
  have HB3 : Hid (Below W.heap.size W w3) := HB2.out.trans (hb3.mono HB2.out.size)
  clear hb3
  obtain ⟨m0, m1⟩ := HK.out w3 HB3.out
  go_wp2_with fail
  refine (toDevice_any w3 safe a cap ls hn2 (HLW.out w3 HB3.out)).mono ?_
  rintro e w4 ⟨g2, rfl, hg2, hl4, hr4, hb4⟩
  have HB4 : Hid (Below W.heap.size W w4) := HB3.out.trans (hb4.mono HB3.out.size)
  obtain ⟨X, hX⟩ : ∃ X, X = w4.alloc (.cells #[.string safe, .slice (some ⟨g2, 0, none⟩) ls.length ls.length] 29) := ⟨_, rfl⟩
  have hX4 : Below w4.heap.size w4 X := by rw [hX]; exact (Below.refl _ _).alloc (Nat.le_refl _) _
  have HLX : Hid (∀ w', Below X.heap.size X w' → Lines w' (some ⟨g2, 0, none⟩) ls) := fun w' h => (hl4.below hX4).below h
  have HBX : Hid (Below W.heap.size W X) := HB4.out.trans (hX4.mono HB4.out.size)
  have hszX : w4.heap.size < X.heap.size := by rw [hX]; simp
  have HKX : Hid (∀ w', Below X.heap.size X w' → w'.cell? ⟨w4.heap.size, 0, none⟩ = some (.string safe) ∧ w'.cell? ⟨w4.heap.size, 1, none⟩ = some (.slice (some ⟨g2, 0, none⟩) ls.length ls.length)) := fun w' h =>
    ⟨by rw [h.cell (p := ⟨w4.heap.size, 0, none⟩) hszX, hX, World.cell?_alloc_new]; rfl, by rw [h.cell (p := ⟨w4.heap.size, 1, none⟩) hszX, hX, World.cell?_alloc_new]; rfl⟩
  have HX : Hid (X = w4.alloc (.cells #[.string safe, .slice (some ⟨g2, 0, none⟩) ls.length ls.length] 29)) := hX
  clear hX hX4 hl4 hr4 hb4 m0 m1
  go_wp2_with fail
  rw [← HX.out]
  refine (HI.out X _ ls.length (HLX.out X (Below.refl _ _))).mono ?_
  rintro e w5 ⟨rfl, hb5⟩
  have HX5 : Hid (Below X.heap.size X w5) := hb5
  have HB5 : Hid (Below W.heap.size W w5) := HBX.out.trans (hb5.mono HBX.out.size)
  clear hb5
  obtain ⟨m0, m1⟩ := HK.out w5 HB5.out
  obtain ⟨n0, n1⟩ := HKX.out w5 HX5.out
  have HLa : Hid (Lines w5.drew a ls) := HLW.out w5 HB5.out
  have HLb : Hid (Lines w5.drew (some ⟨g2, 0, none⟩) ls) := HLX.out w5 HX5.out
  have HD : Hid (∀ w', Below w5.drew.heap.size w5.drew w' → Below W.heap.size W w') := fun w' h => HB5.out.trans ((show Below w5.heap.size w5 w' from ⟨h.os, h.tape, h.output, h.size, h.block⟩).mono HB5.out.size)
  have HKK : Hid (∀ w', Below w5.drew.heap.size w5.drew w' → w'.cell? ⟨w4.heap.size, 0, none⟩ = some (.string safe) ∧ w'.cell? ⟨w4.heap.size, 1, none⟩ = some (.slice (some ⟨g2, 0, none⟩) ls.length ls.length)) := fun w' h =>
    HKX.out w' (HX5.out.trans ((show Below w5.heap.size w5 w' from ⟨h.os, h.tape, h.output, h.size, h.block⟩).mono HX5.out.size))
  go_wp2
  go_region_with (first | (go_at_call 11; refine (toDevice_any w5.drew safe a cap ls hn2 HLa.out).mono ?_; rintro e w6 ⟨g3, rfl, hg3, hl6, hr6, hb6⟩; obtain ⟨o0, o1⟩ := HKK.out w6 hb6) | (go_at_call 13; refine (eqDevice_same w6 safe (some ⟨g2, 0, none⟩) (some ⟨g3, 0, none⟩) ls.length ls.length ls hn2 (HLb.out.below hb6) hl6).mono ?_; rintro e w7 ⟨rfl, hb7⟩))
  all_goals
    have HB7 : Hid (Below W.heap.size W w7) := (HD.out w6 hb6).trans (hb7.mono (HD.out w6 hb6).size)
    clear hl6 hr6 hb6 hb7 o0 o1
    go_wp2
    go_ret
    exact ⟨rfl, HEnd.out _ HB7.out⟩

set_option maxRecDepth 100000 in
theorem lifted (os : Os) (started : os.Started) (H : Type) (enc : TypeId × Value → H) :
    ReturnsInHanded {} Try.checked os 4 .any (Rows.fnExactLoadSpec.pre6 enc Try.prog Try.f4 Rows.fnExactLoadRow.domain false) (Rows.fnExactLoadSpec.post enc Try.prog Try.f4 false true false false) := by
  refine returnsInHanded_of_change (C := Try.checked) own started (by kernel_rfl) Try.func4
    (ChangeSpec.witness6 (enc := enc) (C := Try.checked) false ⟨#[], #[.agg #[.string ByteArray.empty, .slice none 0 0], .int .i64 0, .int .i64 0], []⟩ 8 (by kernel_rfl) (by kernel_rfl) (by kernel_rfl) (by kernel_rfl)) ?_
  intro W base args ds gs before hval0 hW hcnd _
  have hval : ∀ (j : Nat) t v, Try.f4.params[j]? = some t → args[j]? = some v → Value.okWide Try.prog W .any base t v := hval0
  have hW' := hW
  obtain ⟨p, q, hA0, hV, rfl, hfz, hnd⟩ := hW
  have hA : DataW.TrodAll enc Try.prog W 0 (fun _ => true) true Try.f4.params.toList args.toList ds p := hA0
  rw [Try.params4] at hA hval
  obtain ⟨v0, vs0, d0, ds0, p0, q0, hargs, rfl, rfl, h0, r0⟩ := trodAll_cons hA
  obtain ⟨v1, vs1, d1, ds1, p1, q1, rfl, rfl, rfl, h1, r1⟩ := trodAll_cons r0
  obtain ⟨v2, vs2, d2, ds2, p2, q2, rfl, rfl, rfl, h2, r2⟩ := trodAll_cons r1
  obtain ⟨rfl, rfl, rfl⟩ := trodAll_nil r2
  obtain rfl : args = #[v0, v1, v2] := by cases args; simp_all
  obtain ⟨rfl, rfl⟩ := trodVars_none hV
  have k0 := h0
  have lt0 : ∀ x ∈ p0, x.block < W.heap.size := by obtain ⟨m, hm⟩ := k0; exact DataW.trod_lt m _ _ _ hm
  obtain ⟨safe, a, cap, ls, rfl, hs, hl, hm, hz⟩ := device_of (hval 0 24 v0 rfl rfl) h0
  obtain ⟨x1, rfl, rfl, rfl, hx1⟩ := open_int Try.underlying2 (hval 1 2 v1 rfl rfl) h1
  obtain ⟨x2, rfl, rfl, rfl, hx2⟩ := open_int Try.underlying2 (hval 2 2 v2 rfl rfl) h2
  clear hA0 hval0
  refine (walk safe a cap ls x1 x2 W hs hl hm hz hx1 hx2).mono fun e W' ⟨he, bel⟩ => ?_
  subst he
  exact ⟨_, rfl, _, _, _, [], _, [], hW', trodAll_mk1 (shut_bool Try.underlying4 _), (trodAll_cons_mk (Below.trod laidOut (by kernel_rfl) (of_decide_eq_true (by kernel_rfl)) k0 bel lt0) (trodAll_cons_mk (shut_int Try.underlying2 hx1) (trodAll_cons_mk (shut_int Try.underlying2 hx2) trodAll_mk0))), rfl, bel.frame _, fun h => by cases h⟩

theorem over : Rows.fnExactLoadRow.holds Try.pinned (OpenSpec.ofChange Rows.fnExactLoadSpec) :=
  OpenClaim.holds_of_wide 4 Try.f4 rfl rfl rfl rfl rfl rfl rfl ⟨rfl, rfl, rfl, rfl, rfl⟩ rfl rfl rfl rfl rfl (by kernel_rfl) Try.func4 (by kernel_rfl)
    (of_decide_eq_true (by kernel_rfl)) (by unfold Func.isWrapper; first | (rw [if_pos (by decide +kernel)]; kernel_rfl) | (rw [if_neg (by decide +kernel)]; exact ⟨rfl, rfl⟩))
    (fun os started H enc _ => lifted os started H enc)

theorem proved : Rows.FnExactLoadSaid := over
#print axioms proved
end Go.Proofs.Yteafgnggmpjdmad.fnExactLoad
