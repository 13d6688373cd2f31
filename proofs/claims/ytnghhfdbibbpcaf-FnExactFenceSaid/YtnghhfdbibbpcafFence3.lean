/-
  What the specification's Fence returns, and that the program's answers alike.
-/
import Derived.Test.YtnghhfdbibbpcafFence2
namespace Go.Proofs.Ytnghhfdbibbpcaf.dev
open Go.RowKit Go.Maps
open bb later

theorem spec_fence_no (w : World) (safe : ByteArray) (a : Option Addr) (cap : Nat) (ls : List Ln) (hs : safe.size ≤ 1048576) (hn : ls.length ≤ 1048576) (hl : Lines w a ls) (hz : ∀ i (hi : i < ls.length), ls[i].data.size ≤ 1048576 ∧ ls[i].sent.size ≤ 1048576) (hbad : ¬ DevOk safe ls) :
    Calls Try.prog 10 #[.agg #[.string safe, .slice a ls.length cap]] w fun e w' => e = .returned (.agg #[.string ⟨#[]⟩, .slice none 0 0]) ∧ Below w.heap.size w w' := by
  obtain ⟨W, hW⟩ : ∃ W, W = start w safe (.slice a ls.length cap) := ⟨_, rfl⟩
  have HS : Hid (Start w W safe (.slice a ls.length cap)) := by rw [hW]; exact start_is _ _ _
  have HW : Hid (W = (w.alloc (.cells #[.string safe, .slice a ls.length cap] 28)).alloc (.cells #[.string ⟨#[]⟩, .slice none 0 0] 28)) := hW
  have HC : Hid (Calls _ _ _ _ _) := spec_ok W safe a cap ls hs hn (hl.below HS.out.below) hz
  clear hl hz hW
  go_enter Try.func10, Try.ntmps10
  go_wp2_with fail
  rw [← HW.out]
  refine HC.out.mono ?_
  rintro e w2 ⟨b, rfl, hb, hb2⟩
  have HB2 : Hid (Below W.heap.size W w2) := hb2
  have hf : b = false := by
    cases b
    · rfl
    · exact absurd (hb.1 rfl) hbad
  subst hf
  clear hb hb2
  have HE : Hid (Ended w w2) := HS.out.ended HB2.out
  have q0 := HE.out.at0; have q1 := HE.out.at1
  have t0 := HS.out.res0 w2 HB2.out; have t1 := HS.out.res1 w2 HB2.out; have y0 := HS.out.fro0 w2 HB2.out; have y1 := HS.out.fro1 w2 HB2.out
  go_wp2
  refine bodyPost_ret (v := .agg #[.string ⟨#[]⟩, .slice none 0 0]) (by simp [results, Try.results10, go_sem, q0, q1]) rfl ?_
  exact ⟨rfl, HE.out.below _ _⟩
set_option maxHeartbeats 4000000 in
theorem spec_fence (w : World) (safe : ByteArray) (a : Option Addr) (cap : Nat) (ls : List Ln) (hs : safe.size ≤ 1048576) (hn : ls.length ≤ 1048576) (hl : Lines w a ls) (hz : ∀ i (hi : i < ls.length), ls[i].data.size ≤ 1048576 ∧ ls[i].sent.size ≤ 1048576) (hok : DevOk safe ls) :
    Calls Try.prog 10 #[.agg #[.string safe, .slice a ls.length cap]] w fun e w' => ∃ aa cp, e = .returned (.agg #[.string (fenceS safe ls), .slice aa (fenceL ls).length cp]) ∧ Lines w' aa (fenceL ls) ∧ Below w.heap.size w w' := by
  obtain ⟨W, hW⟩ : ∃ W, W = start w safe (.slice a ls.length cap) := ⟨_, rfl⟩
  have HS : Hid (Start w W safe (.slice a ls.length cap)) := by rw [hW]; exact start_is _ _ _
  have HW : Hid (W = (w.alloc (.cells #[.string safe, .slice a ls.length cap] 28)).alloc (.cells #[.string ⟨#[]⟩, .slice none 0 0] 28)) := hW
  have HC : Hid (Calls _ _ _ _ _) := spec_ok W safe a cap ls hs hn (hl.below HS.out.below) hz
  have HF : Hid (∀ w', Below W.heap.size W w' → Calls _ _ _ w' _) := fun w' h => l2Fence_any w' safe a cap ls hs hn ((hl.below HS.out.below).below h) hok
  have HOK : Hid (DevOk safe ls) := hok
  clear hl hz hW hok
  go_enter Try.func10, Try.ntmps10
  go_wp2_with fail
  rw [← HW.out]
  refine HC.out.mono ?_
  rintro e w3 ⟨b, rfl, hb, hb2⟩
  have hbt : b = true := hb.2 HOK.out
  subst hbt
  have HB3 : Hid (Below W.heap.size W w3) := hb2
  clear hb hb2
  have n0 := HS.out.arg0 w3 HB3.out; have n1 := HS.out.arg1 w3 HB3.out
  go_wp2_with fail
  refine (HF.out w3 HB3.out).mono ?_
  rintro e w4 ⟨u, rfl, hown, hb4⟩
  obtain ⟨aa, cp, rfl⟩ := row_shape hown
  have HB4 : Hid (Below W.heap.size W w4) := HB3.out.trans (hb4.mono HB3.out.size)
  have HRK : Hid (_) := row_kept (w := w) (by have := HB3.out.size; have := HS.out.size; omega) hown
  have HE : Hid (Ended w w4) := HS.out.ended HB4.out
  clear hown hb4 n0 n1
  have q0 := HE.out.at0; have q1 := HE.out.at1
  have t0 := HS.out.res0 w4 HB4.out; have t1 := HS.out.res1 w4 HB4.out; have y0 := HS.out.fro0 w4 HB4.out; have y1 := HS.out.fro1 w4 HB4.out
  go_wp2
  refine bodyPost_ret (v := .agg #[.string (fenceS safe ls), .slice aa (fenceL ls).length cp]) (by simp [results, Try.results10, go_sem, q0, q1]) rfl ?_
  refine ⟨_, _, rfl, ?_, HE.out.below _ _⟩
  obtain ⟨a2, g2, cp2, he, _, _, hl2, _⟩ := lines_of_row (HRK.out (.string (fenceS safe ls)) (.slice aa (fenceL ls).length cp))
  injection he with he1
  rw [← he1] at hl2
  exact hl2
/-- Both say the same of a device. -/
theorem fence_both (safe : ByteArray) (ls : List Ln) (hs : safe.size ≤ 1048576) (hn : ls.length ≤ 1048576) (hz : ∀ i (hi : i < ls.length), ls[i].data.size ≤ 1048576 ∧ ls[i].sent.size ≤ 1048576) :
    ∃ (st : ByteArray) (L : List Ln), L.length ≤ 1048576 ∧ (∀ (w : World) (a : Option Addr) (cap : Nat), Lines w a ls → Calls Try.prog 10 #[.agg #[.string safe, .slice a ls.length cap]] w fun e w' => ∃ aa cp, e = .returned (.agg #[.string st, .slice aa L.length cp]) ∧ Lines w' aa L ∧ Below w.heap.size w w') ∧
      ∀ (w : World) (a : Option Addr) (cap : Nat), Lines w a ls → Calls Try.prog 12 #[.agg #[.string safe, .slice a ls.length cap]] w fun e w' => ∃ aa g cp, e = .returned (.agg #[.string st, .slice aa L.length cp]) ∧ w.heap.size ≤ g ∧ (0 < L.length → aa = some ⟨g, 0, none⟩) ∧ Lines w' aa L ∧ Row w' g (L.length * 3) ∧ Below w.heap.size w w' := by
  by_cases hok : DevOk safe ls
  · refine ⟨fenceS safe ls, fenceL ls, Nat.le_trans (fenceL_le ls) hn, fun w a cap hl => spec_fence w safe a cap ls hs hn hl hz hok, fun w a cap hl => ?_⟩
    refine (impl_fence w safe a cap ls hs hn hl hz hok).mono ?_
    rintro e w' ⟨u, rfl, hown, hb⟩
    obtain ⟨aa, g, cp, rfl, h1, h2, h3, h4⟩ := lines_of_row hown
    exact ⟨aa, g, cp, rfl, h1, h2, h3, h4, hb⟩
  · refine ⟨⟨#[]⟩, [], by simp, fun w a cap hl => ?_, fun w a cap hl => ?_⟩
    · refine (spec_fence_no w safe a cap ls hs hn hl hz hok).mono ?_
      rintro e w' ⟨rfl, hb⟩
      exact ⟨none, 0, rfl, fun i hi => absurd hi (by simp), hb⟩
    · refine (impl_fence_no w safe a cap ls hs hn hl hz hok).mono ?_
      rintro e w' ⟨rfl, hb⟩
      exact ⟨none, w.heap.size, 0, rfl, Nat.le_refl _, fun h => absurd h (by simp), fun i hi => absurd hi (by simp), fun j hj => absurd hj (by simp), hb⟩
end Go.Proofs.Ytnghhfdbibbpcaf.dev
