/-
  What Load returns, by the specification and by the program; nothing that was there is written.
-/
import Derived.Test.YtgpmpijaggnocaaDev8
namespace Go.Proofs.Ytgpmpijaggnocaa.dev
open Go.RowKit
open bb later

theorem i64_in {n : Int} (h : (Lit.int .i64 n).wf = true) : -9223372036854775808 ≤ n ∧ n < 9223372036854775808 := by
  simp [Lit.wf, IntKind.min, IntKind.max, IntKind.signed, IntKind.bits] at h
  omega
/-- What lies in a text of so many bytes. -/
def InText (size : Nat) (x y : Int) : Prop := 0 ≤ x ∧ 0 ≤ y ∧ x ≤ (size : Int) ∧ y ≤ (size : Int) - x

set_option maxHeartbeats 2000000 in
theorem impl_load_no (w : World) (safe : ByteArray) (a : Option Addr) (cap : Nat) (ls : List Ln) (x y : Int) (hx : (Lit.int .i64 x).wf = true) (hy : (Lit.int .i64 y).wf = true) (hs : safe.size ≤ 1048576) (hn : ls.length ≤ 1048576) (hl : Lines w a ls) (hz : ∀ i (hi : i < ls.length), ls[i].data.size ≤ 1048576 ∧ ls[i].sent.size ≤ 1048576) (hbad : ¬ (DevOk safe ls ∧ InText safe.size x y)) :
    Calls Try.prog 15 #[.agg #[.string safe, .slice a ls.length cap], .int .i64 x, .int .i64 y] w fun e w' => e = .returned (.tuple #[.string ⟨#[]⟩, .bool false]) ∧ Below w.heap.size w w' := by
  have hx2 := i64_in hx; have hy2 := i64_in hy
  by_cases hok : DevOk safe ls
  · have HC : Hid (∀ w, Lines w a ls → Calls _ _ _ w _) := fun w hl => impl_seen w safe a cap ls hs hn hl hz hok
    have HL : Hid (∀ w', Below w.heap.size w w' → Lines w' a ls) := fun w' h => hl.below h
    have HO : Hid (¬ InText safe.size x y) := fun h => hbad ⟨hok, h⟩
    have hst := seen_some hok
    have hpos : 64 ≤ safe.size := hok.2.1
    generalize seenStr safe ls = st at HC hst
    have hne : st.toList.isEmpty = false := by
      have hz0 : ¬ st.size = 0 := by omega
      rw [ByteArray.toList_eq, ← Bool.not_eq_true, List.isEmpty_iff_length_eq_zero]; simpa using hz0
    have hss : (st.size : Int) = (safe.size : Int) := by omega
    have hle : st.size ≤ 1048576 := by omega
    clear hl hz hbad hok hst
    go_enter Try.func15, Try.ntmps15
    go_wp2_with fail
    refine (HC.out _ (HL.out _ (by go_grown))).mono ?_
    rintro e w2 ⟨rfl, hb2⟩
    have HE : Hid (Below w.heap.size w w2) := Below.trans (by go_grown) (hb2.mono (by simp))
    clear hb2
    by_cases q1 : x < 0
    · go_wp2
      go_ret2
      exact ⟨rfl, HE.out⟩
    by_cases q2 : y < 0
    · go_wp2
      go_ret2
      exact ⟨rfl, HE.out⟩
    by_cases q3 : (st.size : Int) < x
    · go_wp2
      go_ret2
      exact ⟨rfl, HE.out⟩
    have q4 : (st.size : Int) - x < y := by
      rcases Int.lt_or_le ((st.size : Int) - x) y with h | h
      · exact h
      · exact absurd ⟨by omega, by omega, by omega, by omega⟩ HO.out
    go_wp2
    go_ret2
    exact ⟨rfl, HE.out⟩
  · have HC : Hid (∀ w, Lines w a ls → Calls _ _ _ w _) := fun w hl => impl_seen_no w safe a cap ls hs hn hl hz hok
    have HL : Hid (∀ w', Below w.heap.size w w' → Lines w' a ls) := fun w' h => hl.below h
    clear hl hz hbad hok
    go_enter Try.func15, Try.ntmps15
    go_wp2_with fail
    refine (HC.out _ (HL.out _ (by go_grown))).mono ?_
    rintro e w2 ⟨rfl, hb2⟩
    have HE : Hid (Below w.heap.size w w2) := Below.trans (by go_grown) (hb2.mono (by simp))
    clear hb2
    go_wp2
    go_ret2
    exact ⟨rfl, HE.out⟩
set_option maxHeartbeats 2000000 in
theorem impl_load (w : World) (safe : ByteArray) (a : Option Addr) (cap : Nat) (ls : List Ln) (p q : Nat) (hp : p + q ≤ safe.size) (hs : safe.size ≤ 1048576) (hn : ls.length ≤ 1048576) (hl : Lines w a ls) (hz : ∀ i (hi : i < ls.length), ls[i].data.size ≤ 1048576 ∧ ls[i].sent.size ≤ 1048576) (hok : DevOk safe ls) :
    Calls Try.prog 15 #[.agg #[.string safe, .slice a ls.length cap], .int .i64 (p : Int), .int .i64 (q : Int)] w fun e w' => e = .returned (.tuple #[.string ((seenStr safe ls).extract p (p + q)), .bool true]) ∧ Below w.heap.size w w' := by
  have HC : Hid (∀ w, Lines w a ls → Calls _ _ _ w _) := fun w hl => impl_seen w safe a cap ls hs hn hl hz hok
  have HL : Hid (∀ w', Below w.heap.size w w' → Lines w' a ls) := fun w' h => hl.below h
  have hst := seen_some hok
  have hpos : 64 ≤ safe.size := hok.2.1
  generalize seenStr safe ls = st at HC hst ⊢
  have hne : st.toList.isEmpty = false := by
    have hz0 : ¬ st.size = 0 := by omega
    rw [ByteArray.toList_eq, ← Bool.not_eq_true, List.isEmpty_iff_length_eq_zero]; simpa using hz0
  have q1 : ¬ (p : Int) < 0 := by omega
  have q2 : ¬ (q : Int) < 0 := by omega
  have q3 : ¬ (st.size : Int) < (p : Int) := by omega
  have q4 : ¬ (st.size : Int) - (p : Int) < (q : Int) := by omega
  have q5 : p + q ≤ st.size := by omega
  have hle : st.size ≤ 1048576 := by omega
  clear hl hz hok hst hp
  go_enter Try.func15, Try.ntmps15
  go_wp2_with fail
  refine (HC.out _ (HL.out _ (by go_grown))).mono ?_
  rintro e w2 ⟨rfl, hb2⟩
  have HE : Hid (Below w.heap.size w w2) := Below.trans (by go_grown) (hb2.mono (by simp))
  clear hb2
  go_wp2
  go_ret2
  exact ⟨rfl, HE.out⟩
end Go.Proofs.Ytgpmpijaggnocaa.dev
