/-
  What the specification's Evict returns, and that the program's answers alike.
-/
import Derived.Test.YtgpmpijaggnocaaEvict2
import Derived.Test.YtgpmpijaggnocaaEvict3
namespace Go.Proofs.Ytgpmpijaggnocaa.dev
open Go.RowKit Go.Maps
open later

set_option maxHeartbeats 4000000 in
theorem spec_evict_no (w : World) (safe : ByteArray) (a : Option Addr) (cap : Nat) (ls : List Ln) (p : Int) (hs : safe.size ≤ 1048576) (hn : ls.length ≤ 1048576) (hl : Lines w a ls) (hz : ∀ i (hi : i < ls.length), ls[i].data.size ≤ 1048576 ∧ ls[i].sent.size ≤ 1048576) (hbad : ¬ (DevOk safe ls ∧ 0 ≤ p ∧ p < ((safe.size / 64 : Nat) : Int))) :
    Calls Try.prog 28 #[.agg #[.string safe, .slice a ls.length cap], .int .i64 p] w fun e w' => e = .returned (.tuple #[.agg #[.string ⟨#[]⟩, .slice none 0 0], .bool false]) ∧ Below w.heap.size w w' := by
  obtain ⟨W, hW⟩ : ∃ W, W = start w safe (.slice a ls.length cap) := ⟨_, rfl⟩
  have HS : Hid (Start w W safe (.slice a ls.length cap)) := by rw [hW]; exact start_is _ _ _
  have HW : Hid (W = (w.alloc (.cells #[.string safe, .slice a ls.length cap] 26)).alloc (.cells #[.string ⟨#[]⟩, .slice none 0 0] 26)) := hW
  have HC : Hid (Calls _ _ _ _ _) := spec_ok W safe a cap ls hs hn (hl.below HS.out.below) hz
  have HN : Hid (∀ w, Calls _ _ _ w _) := fun w => l2Count_any w safe (.slice a ls.length cap) hs
  have HI : Hid (∀ w, Calls _ _ _ w _) := fun w => l1In_any w p 0 (((safe.size / 64 : Nat) : Int) - 1)
  have hcn : ((safe.size / 64 : Nat) : Int) ≤ 1048576 := by omega
  have hcn0 : 0 ≤ ((safe.size / 64 : Nat) : Int) := by omega
  clear hl hz hW
  generalize ((safe.size / 64 : Nat) : Int) = n at *
  go_enter Try.func28, Try.ntmps28
  go_wp2_with fail
  rw [← HW.out]
  refine HC.out.mono ?_
  rintro e w2 ⟨b, rfl, hb, hb2⟩
  have HB2 : Hid (Below W.heap.size W w2) := hb2
  cases b with
  | false =>
    clear hb hb2
    have HE : Hid (Ended w w2) := HS.out.ended HB2.out
    have q0 := HE.out.at0; have q1 := HE.out.at1
    have t0 := HS.out.res0 w2 HB2.out; have t1 := HS.out.res1 w2 HB2.out; have y0 := HS.out.fro0 w2 HB2.out; have y1 := HS.out.fro1 w2 HB2.out
    go_wp2
    refine bodyPost_ret (v := .tuple #[.agg #[.string ⟨#[]⟩, .slice none 0 0], .bool false]) (by simp [results, Try.results28, go_sem, q0, q1]) rfl ?_
    exact ⟨rfl, HE.out.below _ _⟩
  | true =>
    have hrg : (decide (0 ≤ p) && decide (p ≤ n - 1)) = false := by
      have := hb.1 rfl
      simp
      intro h0
      have : ¬ p < n := fun h1 => hbad ⟨this, h0, h1⟩
      omega
    rw [hrg] at HI
    clear hb hb2 hrg hbad
    have n0 := HS.out.arg0 w2 HB2.out; have n1 := HS.out.arg1 w2 HB2.out
    go_wp2_with fail
    refine (HN.out _).mono ?_
    rintro e w3 ⟨rfl, hb3⟩
    have HB3 : Hid (Below W.heap.size W w3) := HB2.out.trans (hb3.mono HB2.out.size)
    clear hb3 n0 n1
    go_wp2_with fail
    refine (HI.out _).mono ?_
    rintro e w4 ⟨rfl, rfl⟩
    have HE : Hid (Ended w w3) := HS.out.ended HB3.out
    have q0 := HE.out.at0; have q1 := HE.out.at1
    have t0 := HS.out.res0 w3 HB3.out; have t1 := HS.out.res1 w3 HB3.out; have y0 := HS.out.fro0 w3 HB3.out; have y1 := HS.out.fro1 w3 HB3.out
    go_wp2
    refine bodyPost_ret (v := .tuple #[.agg #[.string ⟨#[]⟩, .slice none 0 0], .bool false]) (by simp [results, Try.results28, go_sem, q0, q1]) rfl ?_
    exact ⟨rfl, HE.out.below _ _⟩
set_option maxHeartbeats 4000000 in
theorem spec_evict (w : World) (safe : ByteArray) (a : Option Addr) (cap : Nat) (ls : List Ln) (p : Int) (hs : safe.size ≤ 1048576) (hn : ls.length ≤ 1048576) (hl : Lines w a ls) (hz : ∀ i (hi : i < ls.length), ls[i].data.size ≤ 1048576 ∧ ls[i].sent.size ≤ 1048576) (hok : DevOk safe ls) (h0 : 0 ≤ p) (h1 : p < ((safe.size / 64 : Nat) : Int)) :
    Calls Try.prog 28 #[.agg #[.string safe, .slice a ls.length cap], .int .i64 p] w fun e w' => ∃ aa cp, e = .returned (.tuple #[.agg #[.string (evictS safe ls p), .slice aa (evictL ls p).length cp], .bool true]) ∧ Lines w' aa (evictL ls p) ∧ Below w.heap.size w w' := by
  obtain ⟨pq, rfl⟩ := Int.eq_ofNat_of_zero_le h0
  obtain ⟨W, hW⟩ : ∃ W, W = start w safe (.slice a ls.length cap) := ⟨_, rfl⟩
  have HS : Hid (Start w W safe (.slice a ls.length cap)) := by rw [hW]; exact start_is _ _ _
  have HW : Hid (W = (w.alloc (.cells #[.string safe, .slice a ls.length cap] 26)).alloc (.cells #[.string ⟨#[]⟩, .slice none 0 0] 26)) := hW
  have HC : Hid (Calls _ _ _ _ _) := spec_ok W safe a cap ls hs hn (hl.below HS.out.below) hz
  have HN : Hid (∀ w, Calls _ _ _ w _) := fun w => l2Count_any w safe (.slice a ls.length cap) hs
  have HI : Hid (∀ w, Calls _ _ _ w _) := fun w => l1In_any w (pq : Int) 0 (((safe.size / 64 : Nat) : Int) - 1)
  have HF : Hid (∀ w', Below W.heap.size W w' → Calls _ _ _ w' _) := fun w' h => l2Evict_any w' safe a cap ls pq hs hn ((hl.below HS.out.below).below h) hok
  have hcn : ((safe.size / 64 : Nat) : Int) ≤ 1048576 := by omega
  have HOK : Hid (DevOk safe ls) := hok
  clear hl hz hW hok
  generalize ((safe.size / 64 : Nat) : Int) = n at *
  have hrg : (decide (0 ≤ (pq : Int)) && decide ((pq : Int) ≤ n - 1)) = true := by simp; omega
  rw [hrg] at HI
  go_enter Try.func28, Try.ntmps28
  go_wp2_with fail
  rw [← HW.out]
  refine HC.out.mono ?_
  rintro e w2 ⟨b, rfl, hb, hb2⟩
  have hbt : b = true := hb.2 HOK.out
  subst hbt
  have HB2 : Hid (Below W.heap.size W w2) := hb2
  clear hb hb2
  have n0 := HS.out.arg0 w2 HB2.out; have n1 := HS.out.arg1 w2 HB2.out
  go_wp2_with fail
  refine (HN.out _).mono ?_
  rintro e w3 ⟨rfl, hb3⟩
  have HB3 : Hid (Below W.heap.size W w3) := HB2.out.trans (hb3.mono HB2.out.size)
  clear hb3 n0 n1
  go_wp2_with fail
  refine (HI.out _).mono ?_
  rintro e w4 ⟨rfl, rfl⟩
  have n0 := HS.out.arg0 w3 HB3.out; have n1 := HS.out.arg1 w3 HB3.out
  go_wp2_with fail
  refine (HF.out w3 HB3.out).mono ?_
  rintro e w4 ⟨u, rfl, hown, hb4⟩
  obtain ⟨aa, cp, rfl⟩ := row_shape hown
  have HB4 : Hid (Below W.heap.size W w4) := HB3.out.trans (hb4.mono HB3.out.size)
  have HRK : Hid (_) := row_kept (w := w) (by have := HB3.out.size; have := HS.out.size; omega) hown
  have HE : Hid (Ended w w4) := HS.out.ended HB4.out
  clear hown hb4 n0 n1
  have q0 := HE.out.at0; have q1 := HE.out.at1
  have t0 := HS.out.res0 w4 HB4.out; have t1 := HS.out.res1 w4 HB4.out; have y0 := HS.out.fro0 w4 HB4.out; have y1 := HS.out.fro1 w4 HB4.out
  go_wp2
  refine bodyPost_ret (v := .tuple #[.agg #[.string (evictS safe ls (pq : Int)), .slice aa (evictL ls (pq : Int)).length cp], .bool true]) (by simp [results, Try.results28, go_sem, q0, q1]) rfl ?_
  refine ⟨_, _, rfl, ?_, HE.out.below _ _⟩
  obtain ⟨a2, g2, cp2, he, _, _, hl2, _⟩ := lines_of_row (HRK.out (.string (evictS safe ls (pq : Int))) (.slice aa (evictL ls (pq : Int)).length cp))
  injection he with he1
  rw [← he1] at hl2
  exact hl2

theorem impl_lines {w : World} {base : Nat} {v : Value} {L : List Ln} (h : w.ownsRow base 46 3 v L.length (cellsOfLines L)) :
    ∃ aa g cp, v = .slice aa L.length cp ∧ base ≤ g ∧ (0 < L.length → aa = some ⟨g, 0, none⟩) ∧ Lines w aa L ∧ Row w g (L.length * 3) := lines_of_row h
/-- Both say the same of a device and a line. -/
theorem evict_both (safe : ByteArray) (ls : List Ln) (p : Int) (hs : safe.size ≤ 1048576) (hn : ls.length ≤ 1048576) (hz : ∀ i (hi : i < ls.length), ls[i].data.size ≤ 1048576 ∧ ls[i].sent.size ≤ 1048576) :
    ∃ (st : ByteArray) (L : List Ln) (ok : Bool), L.length ≤ 1048576 ∧ (∀ (w : World) (a : Option Addr) (cap : Nat), Lines w a ls → Calls Try.prog 28 #[.agg #[.string safe, .slice a ls.length cap], .int .i64 p] w fun e w' => ∃ aa cp, e = .returned (.tuple #[.agg #[.string st, .slice aa L.length cp], .bool ok]) ∧ Lines w' aa L ∧ Below w.heap.size w w') ∧
      ∀ (w : World) (a : Option Addr) (cap : Nat), Lines w a ls → Calls Try.prog 27 #[.agg #[.string safe, .slice a ls.length cap], .int .i64 p] w fun e w' => ∃ aa g cp, e = .returned (.tuple #[.agg #[.string st, .slice aa L.length cp], .bool ok]) ∧ w.heap.size ≤ g ∧ (0 < L.length → aa = some ⟨g, 0, none⟩) ∧ Lines w' aa L ∧ Row w' g (L.length * 3) ∧ Below w.heap.size w w' := by
  by_cases hok : DevOk safe ls ∧ 0 ≤ p ∧ p < ((safe.size / 64 : Nat) : Int)
  · refine ⟨evictS safe ls p, evictL ls p, true, Nat.le_trans (evictL_le ls p) hn, fun w a cap hl => ?_, fun w a cap hl => ?_⟩
    · refine (spec_evict w safe a cap ls p hs hn hl hz hok.1 hok.2.1 hok.2.2).mono ?_
      rintro e w' ⟨aa, cp, rfl, hl', hb⟩
      exact ⟨aa, cp, rfl, hl', hb⟩
    · refine (impl_evict w safe a cap ls p hs hn hl hz hok.1 hok.2.1 hok.2.2).mono ?_
      rintro e w' ⟨u, rfl, hown, hb⟩
      obtain ⟨aa, g, cp, rfl, h1, h2, h3, h4⟩ := impl_lines hown
      exact ⟨aa, g, cp, rfl, h1, h2, h3, h4, hb⟩
  · refine ⟨⟨#[]⟩, [], false, by simp, fun w a cap hl => ?_, fun w a cap hl => ?_⟩
    · refine (spec_evict_no w safe a cap ls p hs hn hl hz hok).mono ?_
      rintro e w' ⟨rfl, hb⟩
      exact ⟨none, 0, rfl, fun i hi => absurd hi (by simp), hb⟩
    · refine (impl_evict_no w safe a cap ls p hs hn hl hz hok).mono ?_
      rintro e w' ⟨rfl, hb⟩
      exact ⟨none, w.heap.size, 0, rfl, Nat.le_refl _, fun h => absurd h (by simp), fun i hi => absurd hi (by simp), fun j hj => absurd hj (by simp), hb⟩
end Go.Proofs.Ytgpmpijaggnocaa.dev
