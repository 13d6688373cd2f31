/-
  What Load returns, by the specification and by the program; nothing that was there is written.
-/
import Derived.Test.YtnghhfdbibbpcaeDev8
namespace Go.Proofs.Ytnghhfdbibbpcae.dev
open Go.RowKit
open bb later

theorem i64_in {n : Int} (h : (Lit.int .i64 n).wf = true) : -9223372036854775808 ≤ n ∧ n < 9223372036854775808 := by
  simp [Lit.wf, IntKind.min, IntKind.max, IntKind.signed, IntKind.bits] at h
  omega
/-- What lies in a text of so many bytes. -/
def InText (size : Nat) (x y : Int) : Prop := 0 ≤ x ∧ 0 ≤ y ∧ x ≤ (size : Int) ∧ y ≤ (size : Int) - x

set_option maxHeartbeats 2000000 in
theorem spec_load_no (w : World) (safe : ByteArray) (a : Option Addr) (cap : Nat) (ls : List Ln) (x y : Int) (hx : (Lit.int .i64 x).wf = true) (hy : (Lit.int .i64 y).wf = true) (hs : safe.size ≤ 1048576) (hn : ls.length ≤ 1048576) (hl : Lines w a ls) (hz : ∀ i (hi : i < ls.length), ls[i].data.size ≤ 1048576 ∧ ls[i].sent.size ≤ 1048576) (hbad : ¬ (DevOk safe ls ∧ InText safe.size x y)) :
    Calls Try.prog 18 #[.agg #[.string safe, .slice a ls.length cap], .int .i64 x, .int .i64 y] w fun e w' => e = .returned (.tuple #[.string ⟨#[]⟩, .bool false]) ∧ Below w.heap.size w w' := by
  obtain ⟨W, hW⟩ : ∃ W, W = w.alloc (.cells #[.string safe, .slice a ls.length cap] 31) := ⟨_, rfl⟩
  have HB0 : Hid (Below w.heap.size w W) := by rw [hW]; exact (Below.refl _ _).alloc (Nat.le_refl _) _
  have hsz : w.heap.size < W.heap.size := by rw [hW]; simp
  have k0 : W.cell? ⟨w.heap.size, 0, none⟩ = some (.string safe) := by rw [hW, World.cell?_alloc_new]; rfl
  have k1 : W.cell? ⟨w.heap.size, 1, none⟩ = some (.slice a ls.length cap) := by rw [hW, World.cell?_alloc_new]; rfl
  have HW : Hid (W = w.alloc (.cells #[.string safe, .slice a ls.length cap] 31)) := hW
  have HC : Hid (Calls _ _ _ _ _) := spec_ok W safe a cap ls hs hn (hl.below HB0.out) hz
  have HBAD : Hid (¬ (DevOk safe ls ∧ InText safe.size x y)) := hbad
  clear hW hl hz hbad
  go_enter Try.func18, Try.ntmps18
  go_wp2_with fail
  rw [← HW.out]
  refine HC.out.mono ?_
  rintro e w2 ⟨b, rfl, hb, hb2⟩
  have m0 : w2.cell? ⟨w.heap.size, 0, none⟩ = some (.string safe) := by rw [hb2.cell (p := ⟨w.heap.size, 0, none⟩) hsz]; exact k0
  have m1 : w2.cell? ⟨w.heap.size, 1, none⟩ = some (.slice a ls.length cap) := by rw [hb2.cell (p := ⟨w.heap.size, 1, none⟩) hsz]; exact k1
  have HE : Hid (Below w.heap.size w w2) := HB0.out.trans (hb2.mono HB0.out.size)
  have HQ : Hid (b = true ↔ DevOk safe ls) := hb
  clear hb hb2 k0 k1
  cases b
  · go_wp2
    go_ret2
    exact ⟨rfl, HE.out⟩
  have hout : ¬ InText safe.size x y := fun h => HBAD.out ⟨HQ.out.1 rfl, h⟩
  have HO : Hid (¬ InText safe.size x y) := hout
  clear hout
  have hx2 := i64_in hx; have hy2 := i64_in hy
  by_cases q1 : x < 0
  · go_wp2
    go_ret2
    exact ⟨rfl, HE.out⟩
  by_cases q2 : y < 0
  · go_wp2
    go_ret2
    exact ⟨rfl, HE.out⟩
  by_cases q3 : (safe.size : Int) < x
  · go_wp2
    go_ret2
    exact ⟨rfl, HE.out⟩
  have q4 : (safe.size : Int) - x < y := by
    rcases Int.lt_or_le ((safe.size : Int) - x) y with h | h
    · exact h
    · exact absurd ⟨by omega, by omega, by omega, h⟩ HO.out
  go_wp2
  go_ret2
  exact ⟨rfl, HE.out⟩
set_option maxHeartbeats 2000000 in
theorem spec_load (w : World) (safe : ByteArray) (a : Option Addr) (cap : Nat) (ls : List Ln) (p q : Nat) (hp : p + q ≤ safe.size) (hs : safe.size ≤ 1048576) (hn : ls.length ≤ 1048576) (hl : Lines w a ls) (hz : ∀ i (hi : i < ls.length), ls[i].data.size ≤ 1048576 ∧ ls[i].sent.size ≤ 1048576) (hok : DevOk safe ls) :
    Calls Try.prog 18 #[.agg #[.string safe, .slice a ls.length cap], .int .i64 (p : Int), .int .i64 (q : Int)] w fun e w' => e = .returned (.tuple #[.string ((seenStr safe ls).extract p (p + q)), .bool true]) ∧ Below w.heap.size w w' := by
  obtain ⟨W, hW⟩ : ∃ W, W = w.alloc (.cells #[.string safe, .slice a ls.length cap] 31) := ⟨_, rfl⟩
  have HB0 : Hid (Below w.heap.size w W) := by rw [hW]; exact (Below.refl _ _).alloc (Nat.le_refl _) _
  have hsz : w.heap.size < W.heap.size := by rw [hW]; simp
  have k0 : W.cell? ⟨w.heap.size, 0, none⟩ = some (.string safe) := by rw [hW, World.cell?_alloc_new]; rfl
  have k1 : W.cell? ⟨w.heap.size, 1, none⟩ = some (.slice a ls.length cap) := by rw [hW, World.cell?_alloc_new]; rfl
  have HW : Hid (W = w.alloc (.cells #[.string safe, .slice a ls.length cap] 31)) := hW
  have HC : Hid (Calls _ _ _ _ _) := spec_ok W safe a cap ls hs hn (hl.below HB0.out) hz
  have HQ : Hid (∀ w', Below W.heap.size W w' → Calls _ _ _ w' _) := fun w' h => l2Seen_any w' safe a cap ls hs hn ((hl.below HB0.out).below h) hok
  have HOK : Hid (DevOk safe ls) := hok
  have hst := seen_some hok
  generalize seenStr safe ls = st at HQ hst ⊢
  have q1 : ¬ (p : Int) < 0 := by omega
  have q2 : ¬ (q : Int) < 0 := by omega
  have q3 : ¬ (safe.size : Int) < (p : Int) := by omega
  have q4 : ¬ (safe.size : Int) - (p : Int) < (q : Int) := by omega
  have q5 : p + q ≤ st.size := by omega
  clear hW hl hz hok
  go_enter Try.func18, Try.ntmps18
  go_wp2_with fail
  rw [← HW.out]
  refine HC.out.mono ?_
  rintro e w2 ⟨b, rfl, hb, hb2⟩
  have hf : b = true := hb.2 HOK.out
  subst hf
  have m0 : w2.cell? ⟨w.heap.size, 0, none⟩ = some (.string safe) := by rw [hb2.cell (p := ⟨w.heap.size, 0, none⟩) hsz]; exact k0
  have m1 : w2.cell? ⟨w.heap.size, 1, none⟩ = some (.slice a ls.length cap) := by rw [hb2.cell (p := ⟨w.heap.size, 1, none⟩) hsz]; exact k1
  have HB2 : Hid (Below W.heap.size W w2) := hb2
  clear hb hb2 k0 k1
  go_wp2_with fail
  refine (HQ.out _ HB2.out).mono ?_
  rintro e w3 ⟨rfl, hb3⟩
  have h3 := HB2.out.trans (hb3.mono HB2.out.size)
  have HE : Hid (Below w.heap.size w w3) := HB0.out.trans (h3.mono HB0.out.size)
  clear hb3 h3
  go_wp2
  go_ret2
  exact ⟨rfl, HE.out⟩
set_option maxHeartbeats 2000000 in
theorem impl_load_no (w : World) (safe : ByteArray) (a : Option Addr) (cap : Nat) (ls : List Ln) (x y : Int) (hx : (Lit.int .i64 x).wf = true) (hy : (Lit.int .i64 y).wf = true) (hs : safe.size ≤ 1048576) (hn : ls.length ≤ 1048576) (hl : Lines w a ls) (hz : ∀ i (hi : i < ls.length), ls[i].data.size ≤ 1048576 ∧ ls[i].sent.size ≤ 1048576) (hbad : ¬ (DevOk safe ls ∧ InText safe.size x y)) :
    Calls Try.prog 19 #[.agg #[.string safe, .slice a ls.length cap], .int .i64 x, .int .i64 y] w fun e w' => e = .returned (.tuple #[.string ⟨#[]⟩, .bool false]) ∧ Below w.heap.size w w' := by
  have hx2 := i64_in hx; have hy2 := i64_in hy
  by_cases hok : DevOk safe ls
  · have HC : Hid (∀ w, Lines w a ls → Calls _ _ _ w _) := fun w hl => impl_seen w safe a cap ls hs hn hl hz hok
    have HL : Hid (∀ w', Below w.heap.size w w' → Lines w' a ls) := fun w' h => hl.below h
    have HO : Hid (¬ InText safe.size x y) := fun h => hbad ⟨hok, h⟩
    have hst := seen_some hok
    have hpos : 64 ≤ safe.size := hok.2.1
    generalize seenStr safe ls = st at HC hst
    have hne : st.toList.isEmpty = false := by
      have hz0 : ¬ st.size = 0 := by omega
      rw [ByteArray.toList_eq, ← Bool.not_eq_true, List.isEmpty_iff_length_eq_zero]; simpa using hz0
    have hss : (st.size : Int) = (safe.size : Int) := by omega
    have hle : st.size ≤ 1048576 := by omega
    clear hl hz hbad hok hst
    go_enter Try.func19, Try.ntmps19
    go_wp2_with fail
    refine (HC.out _ (HL.out _ (by go_grown))).mono ?_
    rintro e w2 ⟨rfl, hb2⟩
    have HE : Hid (Below w.heap.size w w2) := Below.trans (by go_grown) (hb2.mono (by simp))
    clear hb2
    by_cases q1 : x < 0
    · go_wp2
      go_ret2
      exact ⟨rfl, HE.out⟩
    by_cases q2 : y < 0
    · go_wp2
      go_ret2
      exact ⟨rfl, HE.out⟩
    by_cases q3 : (st.size : Int) < x
    · go_wp2
      go_ret2
      exact ⟨rfl, HE.out⟩
    have q4 : (st.size : Int) - x < y := by
      rcases Int.lt_or_le ((st.size : Int) - x) y with h | h
      · exact h
      · exact absurd ⟨by omega, by omega, by omega, by omega⟩ HO.out
    go_wp2
    go_ret2
    exact ⟨rfl, HE.out⟩
  · have HC : Hid (∀ w, Lines w a ls → Calls _ _ _ w _) := fun w hl => impl_seen_no w safe a cap ls hs hn hl hz hok
    have HL : Hid (∀ w', Below w.heap.size w w' → Lines w' a ls) := fun w' h => hl.below h
    clear hl hz hbad hok
    go_enter Try.func19, Try.ntmps19
    go_wp2_with fail
    refine (HC.out _ (HL.out _ (by go_grown))).mono ?_
    rintro e w2 ⟨rfl, hb2⟩
    have HE : Hid (Below w.heap.size w w2) := Below.trans (by go_grown) (hb2.mono (by simp))
    clear hb2
    go_wp2
    go_ret2
    exact ⟨rfl, HE.out⟩
set_option maxHeartbeats 2000000 in
theorem impl_load (w : World) (safe : ByteArray) (a : Option Addr) (cap : Nat) (ls : List Ln) (p q : Nat) (hp : p + q ≤ safe.size) (hs : safe.size ≤ 1048576) (hn : ls.length ≤ 1048576) (hl : Lines w a ls) (hz : ∀ i (hi : i < ls.length), ls[i].data.size ≤ 1048576 ∧ ls[i].sent.size ≤ 1048576) (hok : DevOk safe ls) :
    Calls Try.prog 19 #[.agg #[.string safe, .slice a ls.length cap], .int .i64 (p : Int), .int .i64 (q : Int)] w fun e w' => e = .returned (.tuple #[.string ((seenStr safe ls).extract p (p + q)), .bool true]) ∧ Below w.heap.size w w' := by
  have HC : Hid (∀ w, Lines w a ls → Calls _ _ _ w _) := fun w hl => impl_seen w safe a cap ls hs hn hl hz hok
  have HL : Hid (∀ w', Below w.heap.size w w' → Lines w' a ls) := fun w' h => hl.below h
  have hst := seen_some hok
  have hpos : 64 ≤ safe.size := hok.2.1
  generalize seenStr safe ls = st at HC hst ⊢
  have hne : st.toList.isEmpty = false := by
    have hz0 : ¬ st.size = 0 := by omega
    rw [ByteArray.toList_eq, ← Bool.not_eq_true, List.isEmpty_iff_length_eq_zero]; simpa using hz0
  have q1 : ¬ (p : Int) < 0 := by omega
  have q2 : ¬ (q : Int) < 0 := by omega
  have q3 : ¬ (st.size : Int) < (p : Int) := by omega
  have q4 : ¬ (st.size : Int) - (p : Int) < (q : Int) := by omega
  have q5 : p + q ≤ st.size := by omega
  have hle : st.size ≤ 1048576 := by omega
  clear hl hz hok hst hp
  go_enter Try.func19, Try.ntmps19
  go_wp2_with fail
  refine (HC.out _ (HL.out _ (by go_grown))).mono ?_
  rintro e w2 ⟨rfl, hb2⟩
  have HE : Hid (Below w.heap.size w w2) := Below.trans (by go_grown) (hb2.mono (by simp))
  clear hb2
  go_wp2
  go_ret2
  exact ⟨rfl, HE.out⟩
/-- Both load the same from a device. -/
theorem load_both (safe : ByteArray) (ls : List Ln) (x y : Int) (hx : (Lit.int .i64 x).wf = true) (hy : (Lit.int .i64 y).wf = true) (hs : safe.size ≤ 1048576) (hn : ls.length ≤ 1048576) (hz : ∀ i (hi : i < ls.length), ls[i].data.size ≤ 1048576 ∧ ls[i].sent.size ≤ 1048576) :
    ∃ (st : ByteArray) (b : Bool), (∀ (w : World) (a : Option Addr) (cap : Nat), Lines w a ls → Calls Try.prog 18 #[.agg #[.string safe, .slice a ls.length cap], .int .i64 x, .int .i64 y] w fun e w' => e = .returned (.tuple #[.string st, .bool b]) ∧ Below w.heap.size w w') ∧
      ∀ (w : World) (a : Option Addr) (cap : Nat), Lines w a ls → Calls Try.prog 19 #[.agg #[.string safe, .slice a ls.length cap], .int .i64 x, .int .i64 y] w fun e w' => e = .returned (.tuple #[.string st, .bool b]) ∧ Below w.heap.size w w' := by
  by_cases hok : DevOk safe ls ∧ InText safe.size x y
  · obtain ⟨h, h0, h1, h2, h3⟩ := hok
    obtain ⟨p, rfl⟩ := Int.eq_ofNat_of_zero_le h0
    obtain ⟨q, rfl⟩ := Int.eq_ofNat_of_zero_le h1
    exact ⟨_, _, fun w a cap hl => spec_load w safe a cap ls p q (by omega) hs hn hl hz h, fun w a cap hl => impl_load w safe a cap ls p q (by omega) hs hn hl hz h⟩
  · exact ⟨_, _, fun w a cap hl => spec_load_no w safe a cap ls x y hx hy hs hn hl hz hok, fun w a cap hl => impl_load_no w safe a cap ls x y hx hy hs hn hl hz hok⟩
end Go.Proofs.Ytnghhfdbibbpcae.dev
