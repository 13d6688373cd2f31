/-
  RootsOf, by the specification; images that are opened, by the program.
-/
import Derived.Test.YthmohmfkgoipkaaOlds1
import Derived.Deep.RegionHeld3
namespace Go.Proofs.Ythmohmfkgoipkaa.img
open Go.RowKit
open kinds ints wmath num obj ref later

set_option maxHeartbeats 1000000 in
set_option maxRecDepth 20000 in
theorem spec_roots (w : World) (n1 n2 n3 : Int) (a : Option Addr) (cap : Nat) (xs : List ByteArray) (s : ByteArray) (hs : s.size ≤ 1048576) (hn : xs.length ≤ 1048576) (hl : Strs w a xs) (hz : ∀ i (hi : i < xs.length), xs[i].size ≤ 1048576) :
    Calls Try.prog 6 #[.agg #[.int .i64 n1, .int .i64 n2, .int .i64 n3, .slice a xs.length cap], .string s] w fun e w' => ∃ v, e = .returned (.tuple #[v, .bool (rootsB n1 n2 n3 xs s)]) ∧ w'.ownsRow w.heap.size 2 1 v (rootsV n1 n2 n3 xs s).length ((rootsV n1 n2 n3 xs s).map (Value.int .i64)) ∧ Below w.heap.size w w' := by
  obtain ⟨W, hW⟩ : ∃ W, W = w.alloc (.cells #[.int .i64 n1, .int .i64 n2, .int .i64 n3, .slice a xs.length cap] 29) := ⟨_, rfl⟩
  have hb0 : Below w.heap.size w W := by rw [hW]; exact (Below.refl _ _).alloc (Nat.le_refl _) _
  have hbx : Box4 w.heap.size n1 n2 n3 (.slice a xs.length cap) W := by rw [hW]; exact Box4.start _ _ _ _ _ _
  have HK : Hid (∀ w', Below W.heap.size W w' → w'.cell? ⟨w.heap.size, 0, none⟩ = some (.int .i64 n1) ∧ w'.cell? ⟨w.heap.size, 1, none⟩ = some (.int .i64 n2) ∧ w'.cell? ⟨w.heap.size, 2, none⟩ = some (.int .i64 n3) ∧ w'.cell? ⟨w.heap.size, 3, none⟩ = some (.slice a xs.length cap)) := fun w' h => ⟨(hbx.below h).c0, (hbx.below h).c1, (hbx.below h).c2, (hbx.below h).c3⟩
  have HW : Hid (W = w.alloc (.cells #[.int .i64 n1, .int .i64 n2, .int .i64 n3, .slice a xs.length cap] 29)) := hW
  have HEnd : Hid (∀ w', Below W.heap.size W w' → Below w.heap.size w w') := fun w' h => hb0.trans (h.mono hb0.size)
  have HIM : Hid (∀ w', Below W.heap.size W w' → Calls _ _ _ w' _) := fun w' h => l5Image_any w' n1 n2 n3 a cap xs s hs hn ((hl.below hb0).below h) hz
  have HIB : Hid (imageB n1 n2 n3 xs s = true → 512 ≤ s.size ∧ 8 ≤ n1 ∧ n1 ≤ 128 ∧ 1 ≤ n2 ∧ n2 ≤ 32) := fun h => by
    unfold imageB at h
    rw [Bool.and_eq_true] at h
    have h1 := conf_lines h.1
    have h2 := of_decide_eq_true h.2
    omega
  have HRB : Hid (rootsB n1 n2 n3 xs s = (imageB n1 n2 n3 xs s && allOld n1 n2 (slotsK s 8) 8)) := rfl
  have HRV : Hid (rootsV n1 n2 n3 xs s = if rootsB n1 n2 n3 xs s = true then slotsK s 8 else []) := rfl
  have hnoV : ∀ {w' : World} {e : Ending}, rootsB n1 n2 n3 xs s = false → e = .returned (.tuple #[.slice none 0 0, .bool false]) → Below w.heap.size w w' → ∃ v, e = .returned (.tuple #[v, .bool (rootsB n1 n2 n3 xs s)]) ∧ w'.ownsRow w.heap.size 2 1 v (rootsV n1 n2 n3 xs s).length ((rootsV n1 n2 n3 xs s).map (Value.int .i64)) ∧ Below w.heap.size w w' := fun hf he hb => by
    refine ⟨.slice none 0 0, by rw [hf]; exact he, ?_, hb⟩
    unfold rootsV
    rw [hf, if_neg (by decide)]
    exact ⟨rfl, .inl ⟨rfl, rfl⟩⟩
  have HNO : Hid (∀ {w' : World} {e : Ending}, rootsB n1 n2 n3 xs s = false → e = .returned (.tuple #[.slice none 0 0, .bool false]) → Below w.heap.size w w' → _) := hnoV
  have hsz : w.heap.size ≤ W.heap.size := hb0.size
  have HSZ : Hid (w.heap.size ≤ W.heap.size) := hsz
  clear hW hbx hl hz hnoV hsz
  cases hi : imageB n1 n2 n3 xs s with
  | false =>
    rw [hi] at HIM HRB
    have HF : Hid (rootsB n1 n2 n3 xs s = false) := HRB.out
    obtain ⟨k0, k1, k2, k3⟩ := HK.out W (Below.refl _ _)
    have X0 := fun n : Later W => Later.cell k0 n
    have X1 := fun n : Later W => Later.cell k1 n
    have X2 := fun n : Later W => Later.cell k2 n
    have X3 := fun n : Later W => Later.cell k3 n
    have hne := some_later W
    have HCV : Hid (∀ (n : Later W), _) := fun n => HIM.out n.world n.below
    clear hi HRB HRV HIB hb0 k0 k1 k2 k3
    go_enter Try.func6, Try.ntmps6
    go_wp2
    rw [← HW.out]
    refine region_later (by kernel_rfl) (by kernel_rfl) ?_
    repeat (go_big_quiet_step (first | (go_at_call 20; exact later_of (HCV.out _))))
    refine wpQuiet_nil ?_
    intro w' hw'
    obtain ⟨nn, rfl⟩ := hw'
    have HB4 : Hid (Below W.heap.size W nn.world) := nn.below
    generalize nn.world = w4 at HB4 ⊢
    clear X0 X1 X2 X3
    go_wp2
    go_ret2
    exact HNO.out HF.out rfl (HEnd.out _ HB4.out)
  | true =>
    rw [hi] at HIM HRB
    obtain ⟨h512, h1, h2, h3, h4⟩ := HIB.out hi
    have HSL : Hid (∀ w, Calls _ _ _ w _) := fun w => l10Slots_any w s hs (by omega)
    have HRF : Hid (∀ (w : World) (b : Option Addr) (cb : Nat), Nums w b (slotsK s 8) → Calls _ _ _ w _) := fun w b cb q => l10Refs_any w n1 n2 n3 a xs.length cap b cb (slotsK s 8) h1 h2 h3 h4 (by rw [slotsK_len]; omega) q
    have HL8 : Hid ((slotsK s 8).length = 8) := slotsK_len s 8
    rw [HL8.out] at HRF
    have hacc : Below W.heap.size W W.drew := (Below.refl _ _).drew
    clear hi HIB hb0 h1 h2 h3 h4 h512
    cases hr : allOld n1 n2 (slotsK s 8) 8 with
    | false =>
      rw [hr] at HRF HRB
      have HF : Hid (rootsB n1 n2 n3 xs s = false) := HRB.out
      clear hr HRB HRV
      go_enter Try.func6, Try.ntmps6
      go_wp2_with fail
      rw [← HW.out]
      go_region_held3 (fun w' => w'.cell? ⟨w.heap.size, 0, none⟩ = some (.int .i64 n1) ∧ w'.cell? ⟨w.heap.size, 1, none⟩ = some (.int .i64 n2) ∧ w'.cell? ⟨w.heap.size, 2, none⟩ = some (.int .i64 n3) ∧ w'.cell? ⟨w.heap.size, 3, none⟩ = some (.slice a xs.length cap)) (first | exact HK.out _ hacc)
        (first | (go_at_call 20; refine (HIM.out _ hacc).mono ?_; rintro e wA ⟨rfl, hbX⟩; have hac2 : Below W.heap.size W wA := hacc.trans (hbX.mono hacc.size); clear hacc hbX; have hacc := hac2; clear hac2) | (go_at_call 22; refine (HSL.out _).mono ?_; rintro e wB ⟨v, rfl, hown, hbX⟩; obtain ⟨aB, gB, cB, rfl, hlo, hin⟩ := ints_of_row hown; have hac2 : Below W.heap.size W wB := hacc.trans (hbX.mono hacc.size); clear hacc hbX hown hlo; have hacc := hac2; clear hac2; rw [HL8.out]) | (go_at_call 21; refine (HRF.out _ _ _ hin.nums).mono ?_; rintro e wC ⟨rfl, hbX⟩; have hac2 : Below W.heap.size W wC := hacc.trans (hbX.mono hacc.size); clear hacc hbX hin; have hacc := hac2; clear hac2))
      all_goals
        have HB4 : Hid (Below W.heap.size W wC) := hacc
        clear hacc
        go_wp2
        go_ret2
        exact HNO.out HF.out rfl (HEnd.out _ HB4.out)
    | true =>
      rw [hr] at HRF HRB
      have HF : Hid (rootsB n1 n2 n3 xs s = true) := HRB.out
      clear hr HRB HNO
      go_enter Try.func6, Try.ntmps6
      go_wp2_with fail
      rw [← HW.out]
      go_region_held3 (fun w' => w'.cell? ⟨w.heap.size, 0, none⟩ = some (.int .i64 n1) ∧ w'.cell? ⟨w.heap.size, 1, none⟩ = some (.int .i64 n2) ∧ w'.cell? ⟨w.heap.size, 2, none⟩ = some (.int .i64 n3) ∧ w'.cell? ⟨w.heap.size, 3, none⟩ = some (.slice a xs.length cap)) (first | exact HK.out _ hacc)
        (first | (go_at_call 20; refine (HIM.out _ hacc).mono ?_; rintro e wA ⟨rfl, hbX⟩; have hac2 : Below W.heap.size W wA := hacc.trans (hbX.mono hacc.size); clear hacc hbX; have hacc := hac2; clear hac2) | (go_at_call 22; refine (HSL.out _).mono ?_; rintro e wB ⟨v, rfl, hown, hbX⟩; obtain ⟨aB, gB, cB, rfl, hlo, hin⟩ := ints_of_row hown; have hac2 : Below W.heap.size W wB := hacc.trans (hbX.mono hacc.size); clear hacc hbX hown hlo; have hacc := hac2; clear hac2; rw [HL8.out]) | (go_at_call 21; refine (HRF.out _ _ _ hin.nums).mono ?_; rintro e wC ⟨rfl, hbX⟩; have hac2 : Below W.heap.size W wC := hacc.trans (hbX.mono hacc.size); clear hacc hbX hin; have hacc := hac2; clear hac2))
      all_goals
        have HB4 : Hid (Below W.heap.size W wC) := hacc
        clear hacc
        go_wp2_with fail
        refine (HSL.out _).mono ?_
        rintro e wD ⟨v, rfl, hown, hbX⟩
        have HB5 : Hid (Below W.heap.size W wD) := HB4.out.trans (hbX.mono HB4.out.size)
        have HO5 : Hid (wD.ownsRow w.heap.size 2 1 v (slotsK s 8).length ((slotsK s 8).map (Value.int .i64))) := own_mono hown (Nat.le_trans HSZ.out HB4.out.size)
        clear hown hbX
        go_wp2
        go_ret2
        refine ⟨v, by rw [HF.out]; rfl, ?_, HEnd.out _ HB5.out⟩
        rw [HRV.out, HF.out, if_pos rfl]
        exact HO5.out
end Go.Proofs.Ythmohmfkgoipkaa.img
