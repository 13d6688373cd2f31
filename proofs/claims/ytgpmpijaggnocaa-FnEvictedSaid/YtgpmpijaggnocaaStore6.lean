/-
  What the specification's Store returns, and that the program's answers alike.
-/
import Derived.Test.YtgpmpijaggnocaaStore3
import Derived.Test.YtgpmpijaggnocaaStore5
namespace Go.Proofs.Ytgpmpijaggnocaa.dev
open Go.RowKit Go.Maps
open bb later

set_option maxHeartbeats 4000000 in
theorem spec_store_no (w : World) (safe : ByteArray) (a : Option Addr) (cap : Nat) (ls : List Ln) (at_ : Int) (d : ByteArray) (hd : d.size ≤ 1048576) (hat : at_ < 9223372036854775808) (hs : safe.size ≤ 1048576) (hn : ls.length ≤ 1048576) (hl : Lines w a ls) (hz : ∀ i (hi : i < ls.length), ls[i].data.size ≤ 1048576 ∧ ls[i].sent.size ≤ 1048576) (hbad : ¬ (DevOk safe ls ∧ Fits safe at_ (d.size : Int))) :
    Calls Try.prog 12 #[.agg #[.string safe, .slice a ls.length cap], .int .i64 at_, .string d] w fun e w' => e = .returned (.tuple #[.agg #[.string ⟨#[]⟩, .slice none 0 0], .bool false]) ∧ Below w.heap.size w w' := by
  obtain ⟨W, hW⟩ : ∃ W, W = start w safe (.slice a ls.length cap) := ⟨_, rfl⟩
  have HS : Hid (Start w W safe (.slice a ls.length cap)) := by rw [hW]; exact start_is _ _ _
  have HW : Hid (W = (w.alloc (.cells #[.string safe, .slice a ls.length cap] 26)).alloc (.cells #[.string ⟨#[]⟩, .slice none 0 0] 26)) := hW
  have HC : Hid (Calls _ _ _ _ _) := spec_ok W safe a cap ls hs hn (hl.below HS.out.below) hz
  have HI : Hid (∀ w, Calls _ _ _ w _) := fun w => l1In_any w (d.size : Int) 1 64
  have hbad2 : DevOk safe ls → ¬ (1 ≤ (d.size : Int) ∧ (d.size : Int) ≤ 64) ∨ at_ < 0 ∨ (safe.size : Int) ≤ at_ ∨ (0 ≤ at_ ∧ at_ < (safe.size : Int) ∧ 64 < at_ % 64 + (d.size : Int)) := fun hok => by
    have h64 := hok.1
    have hnf : ¬ Fits safe at_ (d.size : Int) := fun q => hbad ⟨hok, q⟩
    unfold Fits at hnf
    omega
  clear hl hz hW hbad hat
  go_enter Try.func12, Try.ntmps12
  go_wp2_with fail
  rw [← HW.out]
  refine HC.out.mono ?_
  rintro e w2 ⟨b, rfl, hb, hb2⟩
  have HB2 : Hid (Below W.heap.size W w2) := hb2
  have HE : Hid (Ended w w2) := HS.out.ended HB2.out
  have q0 := HE.out.at0; have q1 := HE.out.at1
  have t0 := HS.out.res0 w2 HB2.out; have t1 := HS.out.res1 w2 HB2.out; have y0 := HS.out.fro0 w2 HB2.out; have y1 := HS.out.fro1 w2 HB2.out
  have n0 := HS.out.arg0 w2 HB2.out
  clear hb2
  cases b with
  | false =>
    clear hb hbad2
    go_wp2
    refine bodyPost_ret (v := .tuple #[.agg #[.string ⟨#[]⟩, .slice none 0 0], .bool false]) (by simp [results, Try.results12, go_sem, q0, q1]) rfl ?_
    exact ⟨rfl, HE.out.below _ _⟩
  | true =>
    have hcase := hbad2 (hb.1 rfl)
    clear hb hbad2
    go_wp2_with fail
    refine (HI.out _).mono ?_
    rintro e w3 ⟨rfl, rfl⟩
    by_cases hd2 : 1 ≤ (d.size : Int) ∧ (d.size : Int) ≤ 64
    · have e1 : decide ((1 : Int) ≤ (d.size : Int)) = true := by simpa using hd2.1
      have e2 : decide ((d.size : Int) ≤ 64) = true := by simpa using hd2.2
      rw [e1, e2]
      obtain ⟨hda, hdb⟩ := hd2
      have hcase2 : at_ < 0 ∨ (safe.size : Int) ≤ at_ ∨ (0 ≤ at_ ∧ at_ < (safe.size : Int) ∧ 64 < at_ % 64 + (d.size : Int)) := by omega
      clear hcase e1 e2
      rcases hcase2 with h1 | h1 | ⟨h1, h2, h3⟩
      · go_wp2
        refine bodyPost_ret (v := .tuple #[.agg #[.string ⟨#[]⟩, .slice none 0 0], .bool false]) (by simp [results, Try.results12, go_sem, q0, q1]) rfl ?_
        exact ⟨rfl, HE.out.below _ _⟩
      · have h0 : ¬ at_ < 0 := by omega
        go_wp2
        refine bodyPost_ret (v := .tuple #[.agg #[.string ⟨#[]⟩, .slice none 0 0], .bool false]) (by simp [results, Try.results12, go_sem, q0, q1]) rfl ?_
        exact ⟨rfl, HE.out.below _ _⟩
      · have h0 : ¬ at_ < 0 := by omega
        have h4 : ¬ (safe.size : Int) ≤ at_ := by omega
        have h5 : at_ ≤ 1048576 := by omega
        go_wp2
        refine bodyPost_ret (v := .tuple #[.agg #[.string ⟨#[]⟩, .slice none 0 0], .bool false]) (by simp [results, Try.results12, go_sem, q0, q1]) rfl ?_
        exact ⟨rfl, HE.out.below _ _⟩
    · have e1 : (decide ((1 : Int) ≤ (d.size : Int)) && decide ((d.size : Int) ≤ 64)) = false := by simp; omega
      rw [e1]
      clear hcase hd2 e1
      go_wp2
      refine bodyPost_ret (v := .tuple #[.agg #[.string ⟨#[]⟩, .slice none 0 0], .bool false]) (by simp [results, Try.results12, go_sem, q0, q1]) rfl ?_
      exact ⟨rfl, HE.out.below _ _⟩
set_option maxHeartbeats 4000000 in
theorem spec_store (w : World) (safe : ByteArray) (a : Option Addr) (cap : Nat) (ls : List Ln) (A : Int) (p o : Nat) (d : ByteArray) (hA : A = ((64 * p + o : Nat) : Int)) (hs : safe.size ≤ 1048576) (hn : ls.length ≤ 1048576) (hl : Lines w a ls) (hz : ∀ i (hi : i < ls.length), ls[i].data.size ≤ 1048576 ∧ ls[i].sent.size ≤ 1048576) (hok : DevOk safe ls) (hp : p < safe.size / 64) (hd0 : 1 ≤ d.size) (hd1 : o + d.size ≤ 64) (ho : o < 64) :
    Calls Try.prog 12 #[.agg #[.string safe, .slice a ls.length cap], .int .i64 A, .string d] w fun e w' => ∃ aa cp, e = .returned (.tuple #[.agg #[.string safe, .slice aa (storeL safe ls p o d).length cp], .bool true]) ∧ Lines w' aa (storeL safe ls p o d) ∧ Below w.heap.size w w' := by
  obtain ⟨W, hW⟩ : ∃ W, W = start w safe (.slice a ls.length cap) := ⟨_, rfl⟩
  have HS : Hid (Start w W safe (.slice a ls.length cap)) := by rw [hW]; exact start_is _ _ _
  have HW : Hid (W = (w.alloc (.cells #[.string safe, .slice a ls.length cap] 26)).alloc (.cells #[.string ⟨#[]⟩, .slice none 0 0] 26)) := hW
  have HC : Hid (Calls _ _ _ _ _) := spec_ok W safe a cap ls hs hn (hl.below HS.out.below) hz
  have HI : Hid (∀ w, Calls _ _ _ w _) := fun w => l1In_any w (d.size : Int) 1 64
  rw [show (decide ((1 : Int) ≤ (d.size : Int)) && decide ((d.size : Int) ≤ 64)) = true by simp; omega] at HI
  have HF : Hid (∀ w', Below W.heap.size W w' → Calls _ _ _ w' _) := fun w' h => l2Store_any w' safe a cap ls A p o d hA hs hn ((hl.below HS.out.below).below h) hok hp hd1 ho
  have HOK : Hid (DevOk safe ls) := hok
  have a0 : ¬ A < 0 := by omega
  have a1 : ¬ (safe.size : Int) ≤ A := by omega
  have a2 : ¬ 64 < A % 64 + (d.size : Int) := by omega
  have a3 : A ≤ 1048576 := by omega
  have a4 : 0 ≤ A := by omega
  clear hl hz hW hok hA hp hd1
  go_enter Try.func12, Try.ntmps12
  go_wp2_with fail
  rw [← HW.out]
  refine HC.out.mono ?_
  rintro e w2 ⟨b, rfl, hb, hb2⟩
  have hbt : b = true := hb.2 HOK.out
  subst hbt
  have HB2 : Hid (Below W.heap.size W w2) := hb2
  clear hb hb2
  have n0 := HS.out.arg0 w2 HB2.out; have n1 := HS.out.arg1 w2 HB2.out
  go_wp2_with fail
  refine (HI.out _).mono ?_
  rintro e w3 ⟨rfl, rfl⟩
  go_wp2_with fail
  refine (HF.out w2 HB2.out).mono ?_
  rintro e w4 ⟨u, rfl, hown, hb4⟩
  obtain ⟨aa, cp, rfl⟩ := row_shape hown
  have HB4 : Hid (Below W.heap.size W w4) := HB2.out.trans (hb4.mono HB2.out.size)
  have HRK : Hid (_) := row_kept (w := w) (by have := HB2.out.size; have := HS.out.size; omega) hown
  have HE : Hid (Ended w w4) := HS.out.ended HB4.out
  clear hown hb4 n0 n1
  have q0 := HE.out.at0; have q1 := HE.out.at1
  have t0 := HS.out.res0 w4 HB4.out; have t1 := HS.out.res1 w4 HB4.out; have y0 := HS.out.fro0 w4 HB4.out; have y1 := HS.out.fro1 w4 HB4.out
  go_wp2
  refine bodyPost_ret (v := .tuple #[.agg #[.string safe, .slice aa (storeL safe ls p o d).length cp], .bool true]) (by simp [results, Try.results12, go_sem, q0, q1]) rfl ?_
  refine ⟨_, _, rfl, ?_, HE.out.below _ _⟩
  obtain ⟨a2', g2, cp2, he, _, _, hl2, _⟩ := lines_of_row (HRK.out (.string safe) (.slice aa (storeL safe ls p o d).length cp))
  injection he with he1
  rw [← he1] at hl2
  exact hl2
/-- Both say the same of a device, a place and a text. -/
theorem store_both (safe : ByteArray) (ls : List Ln) (at_ : Int) (d : ByteArray) (hat : at_ < 9223372036854775808) (hd : d.size ≤ 1048576) (hs : safe.size ≤ 1048576) (hn : ls.length ≤ 1048576) (hz : ∀ i (hi : i < ls.length), ls[i].data.size ≤ 1048576 ∧ ls[i].sent.size ≤ 1048576) :
    ∃ (st : ByteArray) (L : List Ln) (ok : Bool), L.length ≤ 1048576 ∧ (∀ (w : World) (a : Option Addr) (cap : Nat), Lines w a ls → Calls Try.prog 12 #[.agg #[.string safe, .slice a ls.length cap], .int .i64 at_, .string d] w fun e w' => ∃ aa cp, e = .returned (.tuple #[.agg #[.string st, .slice aa L.length cp], .bool ok]) ∧ Lines w' aa L ∧ Below w.heap.size w w') ∧
      ∀ (w : World) (a : Option Addr) (cap : Nat), Lines w a ls → Calls Try.prog 11 #[.agg #[.string safe, .slice a ls.length cap], .int .i64 at_, .string d] w fun e w' => ∃ aa g cp, e = .returned (.tuple #[.agg #[.string st, .slice aa L.length cp], .bool ok]) ∧ w.heap.size ≤ g ∧ (0 < L.length → aa = some ⟨g, 0, none⟩) ∧ Lines w' aa L ∧ Row w' g (L.length * 3) ∧ Below w.heap.size w w' := by
  by_cases hok : DevOk safe ls ∧ Fits safe at_ (d.size : Int)
  · obtain ⟨hk, h1, h2, h3, h4, h5⟩ := hok
    obtain ⟨m, rfl⟩ := Int.eq_ofNat_of_zero_le h3
    have hlen : ls.length + 1 ≤ 1048576 := by
      have h0 := hk.2.2
      have : ls.length ≤ safe.size / 64 := by
        rcases Nat.lt_or_ge (safe.size / 64) ls.length with q | q
        · exfalso
          have hge : ∀ i (hi : i < ls.length), (i : Int) ≤ ls[i].place := by
            intro i
            induction i with
            | zero => intro hi; exact (hk.2.2.2 0 hi).2.1
            | succ i ih =>
              intro hi
              have h6 := ih (by omega)
              have h7 := ok_lt hk (i + 1) i hi (by omega)
              omega
          have h8 := hge (safe.size / 64) q
          have h9 := (hk.2.2.2 (safe.size / 64) q).2.2.1
          omega
        · exact q
      have h9 := hk.2.2.1
      omega
    refine ⟨safe, storeL safe ls (m / 64) (m % 64) d, true, Nat.le_trans (storeL_le _ _ _ _ _) hlen, fun w a cap hl => ?_, fun w a cap hl => ?_⟩
    · exact spec_store w safe a cap ls (m : Int) (m / 64) (m % 64) d (by omega) hs hn hl hz hk (by omega) (by omega) (by omega) (by omega)
    · refine (impl_store w safe a cap ls (m : Int) (m / 64) (m % 64) d (by omega) hs hn hl hz hk (by omega) (by omega) (by omega)).mono ?_
      rintro e w' ⟨u, rfl, hown, hb⟩
      obtain ⟨aa, g, cp, rfl, h1', h2', h3', h4'⟩ := lines_of_row hown
      exact ⟨aa, g, cp, rfl, h1', h2', h3', h4', hb⟩
  · refine ⟨⟨#[]⟩, [], false, by simp, fun w a cap hl => ?_, fun w a cap hl => ?_⟩
    · refine (spec_store_no w safe a cap ls at_ d hd hat hs hn hl hz hok).mono ?_
      rintro e w' ⟨rfl, hb⟩
      exact ⟨none, 0, rfl, fun i hi => absurd hi (by simp), hb⟩
    · refine (impl_store_no w safe a cap ls at_ d hd hat hs hn hl hz hok).mono ?_
      rintro e w' ⟨rfl, hb⟩
      exact ⟨none, w.heap.size, 0, rfl, Nat.le_refl _, fun h => absurd h (by simp), fun i hi => absurd hi (by simp), fun j hj => absurd hj (by simp), hb⟩
end Go.Proofs.Ytgpmpijaggnocaa.dev
