/-
  The draws of lines, words and references: whole numbers, whatever the code says; nothing that was there is written.
-/
import Derived.Test.YtnacdfoejmjlgaaRd3
namespace Go.Proofs.Ytnacdfoejmjlgaa.rd
open Go.RowKit

set_option maxHeartbeats 2000000 in
theorem ref_any (w : World) (R : Nat) (a : Option Addr) (len cap : Nat) (h : Rd w R a len cap) :
    Calls Try.prog 43 #[.pointer (some ⟨R, 0, none⟩)] w fun e w' => ∃ n : Int, e = .returned (.int .i64 n) ∧ (Lit.int .i64 n).wf = true ∧ Rd w' R a len cap ∧ w.grownBy w' (some R) := by
  have HR : Hid (Rd w R a len cap) := h
  clear h
  go_enter Try.func43, Try.ntmps43
  go_wp2_with fail
  refine (below_pos _ R a len cap HR.out 12 (by omega) (by omega)).mono ?_
  rintro e w1 ⟨v, rfl, hv, hr1, hb1⟩
  have HR1 : Hid (Rd w1 R a len cap) := hr1
  have HG1 : Hid (w.grownBy w1 (some R)) := hb1
  clear hr1 hb1
  have hcase : v = 0 ∨ v = 1 ∨ (v = 2 ∨ v = 3) ∨ (v = 4 ∨ v = 5 ∨ v = 6) ∨ (v = 7 ∨ v = 8 ∨ v = 9 ∨ v = 10 ∨ v = 11) := by omega
  rcases hcase with rfl | rfl | hc | hc | hc
  · go_wp2_with fail
    refine (off_any _ R a len cap HR1.out 0 254 (by omega) (by omega) (by omega)).mono ?_
    rintro e w2 ⟨n, rfl, hn, hr2, hb2⟩
    have HR2 : Hid (Rd w2 R a len cap) := hr2
    have HN : Hid ((Lit.int .i64 n).wf = true) := hn
    clear hr2 hn
    go_wp2
    go_ret
    exact ⟨n, rfl, HN.out, HR2.out, gtrans HG1.out hb2⟩
  · go_wp2_with fail
    refine (off_any _ R a len cap HR1.out 0 799 (by omega) (by omega) (by omega)).mono ?_
    rintro e w2 ⟨n, rfl, hn, hr2, hb2⟩
    have HR2 : Hid (Rd w2 R a len cap) := hr2
    have HN : Hid ((Lit.int .i64 n).wf = true) := hn
    clear hr2 hn
    go_wp2
    go_ret
    exact ⟨n, rfl, HN.out, HR2.out, gtrans HG1.out hb2⟩
  · rcases hc with rfl | rfl
    all_goals
      go_wp2
      go_ret
      exact ⟨0, rfl, rfl, HR1.out, HG1.out⟩
  · rcases hc with rfl | rfl | rfl
    all_goals
      go_wp2_with fail
      refine (below_pos _ R a len cap HR1.out 20 (by omega) (by omega)).mono ?_
      rintro e w2 ⟨u, rfl, hu, hr2, hb2⟩
      have HR2 : Hid (Rd w2 R a len cap) := hr2
      clear hr2
      go_wp2
      go_ret
      exact ⟨_, rfl, wf_i64 _ (by omega) (by omega), HR2.out, gtrans HG1.out hb2⟩
  · rcases hc with rfl | rfl | rfl | rfl | rfl
    all_goals
      go_wp2_with fail
      refine (below_pos _ R a len cap HR1.out 20 (by omega) (by omega)).mono ?_
      rintro e w2 ⟨u, rfl, hu, hr2, hb2⟩
      have HR2 : Hid (Rd w2 R a len cap) := hr2
      clear hr2
      go_wp2
      go_ret
      exact ⟨_, rfl, wf_i64 _ (by omega) (by omega), HR2.out, gtrans HG1.out hb2⟩
end Go.Proofs.Ytnacdfoejmjlgaa.rd
