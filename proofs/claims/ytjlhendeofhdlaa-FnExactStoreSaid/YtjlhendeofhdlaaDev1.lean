/-
  Lines in memory: a slice of lines and what it reads as; the sizes of a device that is handed to a law.
-/
import Derived.Test.YtjlhendeofhdlaaRows
import Derived.WalkKit
import Derived.WalkSpells
import Derived.Handy
import Derived.Below
import Derived.Outline
namespace Go.Proofs.Ytjlhendeofhdlaa.dev
open Go.RowKit

/-- A line: its place, its data, what was sent. -/
structure Ln where
  place : Int
  data : ByteArray
  sent : ByteArray

/-- The cells of the i-th line, from the address on. -/
def LnAt (w : World) (a : Option Addr) (i : Nat) (l : Ln) : Prop :=
  ∃ b off : Nat, a = some ⟨b, off, none⟩ ∧ w.cell? ⟨b, off + i * 3, none⟩ = some (.int .i64 l.place) ∧ w.cell? ⟨b, off + i * 3 + 1, none⟩ = some (.string l.data) ∧ w.cell? ⟨b, off + i * 3 + 2, none⟩ = some (.string l.sent)
def Lines (w : World) (a : Option Addr) (ls : List Ln) : Prop := ∀ i (hi : i < ls.length), LnAt w a i ls[i]

theorem LnAt.below {w w' : World} {a : Option Addr} {i : Nat} {l : Ln} (h : LnAt w a i l) (hb : Below w.heap.size w w') : LnAt w' a i l := by
  obtain ⟨b, off, e, h0, h1, h2⟩ := h
  have hlt := World.block_lt_of_cell? w _ h0
  exact ⟨b, off, e, by rw [hb.cell (p := ⟨b, off + i * 3, none⟩) hlt]; exact h0, by rw [hb.cell (p := ⟨b, off + i * 3 + 1, none⟩) hlt]; exact h1, by rw [hb.cell (p := ⟨b, off + i * 3 + 2, none⟩) hlt]; exact h2⟩
theorem Lines.below {w w' : World} {a : Option Addr} {ls : List Ln} (h : Lines w a ls) (hb : Below w.heap.size w w') : Lines w' a ls := fun i hi => (h i hi).below hb

theorem szLine_any (w : World) (l : Ln) (left : Int) (h0 : 0 ≤ left) (h1 : left ≤ 1048576) (hd : l.data.size ≤ maxLen) (hs : l.sent.size ≤ maxLen) :
    Calls Try.prog 31 #[.agg #[.int .i64 l.place, .string l.data, .string l.sent], .int .i64 left] w fun e w' => ∃ r : Int, e = .returned (.int .i64 r) ∧ -1 ≤ r ∧ r ≤ 1048576 ∧ (0 ≤ r → l.data.size ≤ 1048576 ∧ l.sent.size ≤ 1048576) ∧ Below w.heap.size w w' := by
  obtain ⟨p, d, s⟩ := l
  simp only at hd hs ⊢
  unfold maxLen at hd hs
  by_cases hn1 : left - (d.size : Int) < 0
  · go_enter Try.func31, Try.ntmps31
    go_wp2
    go_ret
    exact ⟨-1, rfl, by omega, by omega, by omega, by go_grown⟩
  · by_cases hn2 : left - (d.size : Int) - (s.size : Int) < 0
    · go_enter Try.func31, Try.ntmps31
      go_wp2
      go_ret
      exact ⟨-1, rfl, by omega, by omega, by omega, by go_grown⟩
    · go_enter Try.func31, Try.ntmps31
      go_wp2
      go_ret
      exact ⟨_, rfl, by omega, by omega, by omega, by go_grown⟩
set_option maxHeartbeats 1000000 in
theorem szLineS_any (w : World) (a : Option Addr) (cap : Nat) (ls : List Ln) (left : Int) (h0 : 0 ≤ left) (h1 : left ≤ 1048576) (hm : ls.length ≤ maxLen) (hl : Lines w a ls) (hz : ∀ i (hi : i < ls.length), ls[i].data.size ≤ maxLen ∧ ls[i].sent.size ≤ maxLen) :
    Calls Try.prog 17 #[.slice a ls.length cap, .int .i64 left] w fun e w' => ∃ r : Int, e = .returned (.int .i64 r) ∧ -1 ≤ r ∧ r ≤ 1048576 ∧ (0 ≤ r → ls.length ≤ 1048576 ∧ ∀ i (hi : i < ls.length), ls[i].data.size ≤ 1048576 ∧ ls[i].sent.size ≤ 1048576) ∧ Below w.heap.size w w' := by
  unfold maxLen at hm
  have HL : Hid (Lines w a ls) := hl
  have HZ : Hid (∀ i (hi : i < ls.length), ls[i].data.size ≤ maxLen ∧ ls[i].sent.size ≤ maxLen) := hz
  clear hl hz
  by_cases hn1 : left - (ls.length : Int) < 0
  · go_enter Try.func17, Try.ntmps17
    go_wp2
    go_ret
    exact ⟨-1, rfl, by omega, by omega, by omega, Below.refl _ _⟩
  · go_enter Try.func17, Try.ntmps17
    go_wp2
    go_loopw [1, 5] (fun r i wr => ∃ (k : Nat) (x : Int), k ≤ ls.length ∧ i = .int .i64 k ∧ r = .int .i64 x ∧ 0 ≤ x ∧ x ≤ 1048576 ∧ (∀ j (hj : j < ls.length), j < k → ls[j].data.size ≤ 1048576 ∧ ls[j].sent.size ≤ 1048576) ∧ Below w.heap.size w wr) (fun _ i _ => ls.length - (intOf i).toNat)
    case atStart => exact ⟨0, _, Nat.zero_le _, rfl, rfl, by omega, by omega, fun j hj h => by omega, Below.refl _ _⟩
    case round =>
      obtain ⟨k, x, hk, rfl, rfl, hx0, hx1, hall, hb⟩ := hrel
      have HA : Hid (∀ j (hj : j < ls.length), j < k → ls[j].data.size ≤ 1048576 ∧ ls[j].sent.size ≤ 1048576) := hall
      have HB : Hid (Below w.heap.size w wr) := hb
      clear hall hb
      by_cases hlt : k < ls.length
      · obtain ⟨b, off, rfl, c0, c1, c2⟩ := (HL.out k hlt).below HB.out
        have hzk := HZ.out k hlt
        have HC : Hid (∀ w, _) := fun w => szLine_any w ls[k] x hx0 hx1 hzk.1 hzk.2
        clear hzk
        generalize hlk : ls[k] = l at c0 c1 c2 HC
        have HLK : Hid (ls[k] = l) := hlk
        clear hlk
        go_wp2_with fail
        refine (HC.out _).mono ?_
        rintro e w2 ⟨r, rfl, hr0, hr1, hr2, hb2⟩
        have HB2 : Hid (Below w.heap.size w w2) := HB.out.trans (hb2.mono HB.out.size)
        have HR2 : Hid (0 ≤ r → l.data.size ≤ 1048576 ∧ l.sent.size ≤ 1048576) := hr2
        clear hb2 hr2 c0 c1 c2
        by_cases hneg : r < 0
        · go_wp2
          go_ret
          exact ⟨-1, rfl, by omega, by omega, by omega, HB2.out⟩
        · go_wp2
          go_roundw
          case rel =>
            refine ⟨k + 1, r, by omega, by go_num, rfl, by omega, by omega, fun j hj hjk => ?_, HB2.out⟩
            by_cases hjl : j < k
            · exact HA.out j hj hjl
            · have : j = k := by omega
              subst this
              have h2 := HR2.out (by omega)
              rw [HLK.out]
              exact h2
          case measure => simp [intOf]; omega
      · go_wp2
        go_ret
        exact ⟨x, rfl, by omega, by omega, fun _ => ⟨by omega, fun i hi => HA.out i hi (by omega)⟩, HB.out⟩
theorem szDevice_any (w : World) (safe : ByteArray) (a : Option Addr) (cap : Nat) (ls : List Ln) (hsm : safe.size ≤ maxLen) (hm : ls.length ≤ maxLen) (hl : Lines w a ls) (hz : ∀ i (hi : i < ls.length), ls[i].data.size ≤ maxLen ∧ ls[i].sent.size ≤ maxLen) :
    Calls Try.prog 5 #[.agg #[.string safe, .slice a ls.length cap], .int .i64 1048576] w fun e w' => ∃ r : Int, e = .returned (.int .i64 r) ∧ -1 ≤ r ∧ (0 ≤ r → safe.size ≤ 1048576 ∧ ls.length ≤ 1048576 ∧ ∀ i (hi : i < ls.length), ls[i].data.size ≤ 1048576 ∧ ls[i].sent.size ≤ 1048576) ∧ Below w.heap.size w w' := by
  have HL : Hid (Lines w a ls) := hl
  have HZ : Hid (∀ i (hi : i < ls.length), ls[i].data.size ≤ maxLen ∧ ls[i].sent.size ≤ maxLen) := hz
  clear hl hz
  have hm2 := hm
  unfold maxLen at hsm hm2
  by_cases hn1 : 1048576 - (safe.size : Int) < 0
  · go_enter Try.func5, Try.ntmps5
    go_wp2
    go_ret
    exact ⟨-1, rfl, by omega, by omega, by go_grown⟩
  · go_enter Try.func5, Try.ntmps5
    go_wp2_with fail
    have hb0 : Below w.heap.size w (w.alloc (.cells #[.string safe, .slice a ls.length cap] 24)) := (Below.refl _ _).alloc (Nat.le_refl _) _
    refine (szLineS_any _ a cap ls _ (by omega) (by omega) hm (HL.out.below hb0) HZ.out).mono ?_
    rintro e w2 ⟨r, rfl, hr0, hr1, hr2, hb2⟩
    have HB2 : Hid (Below w.heap.size w w2) := hb0.trans (hb2.mono hb0.size)
    have HR2 : Hid (0 ≤ r → ls.length ≤ 1048576 ∧ ∀ i (hi : i < ls.length), ls[i].data.size ≤ 1048576 ∧ ls[i].sent.size ≤ 1048576) := hr2
    clear hb2 hr2 hb0
    by_cases hneg : r < 0
    · go_wp2
      go_ret
      exact ⟨-1, rfl, by omega, by omega, HB2.out⟩
    · go_wp2
      go_ret
      exact ⟨r, rfl, by omega, fun h => ⟨by omega, HR2.out h⟩, HB2.out⟩
theorem toLine_any (w : World) (l : Ln) :
    Calls Try.prog 34 #[.agg #[.int .i64 l.place, .string l.data, .string l.sent]] w fun e w' => e = .returned (.agg #[.int .i64 l.place, .string l.data, .string l.sent]) ∧ Below w.heap.size w w' := by
  obtain ⟨p, d, s⟩ := l
  go_enter Try.func34, Try.ntmps34
  go_wp2
  go_returns
  exact ⟨rfl, by go_grown⟩
theorem eqLine_same (w : World) (l : Ln) :
    Calls Try.prog 38 #[.agg #[.int .i64 l.place, .string l.data, .string l.sent], .agg #[.int .i64 l.place, .string l.data, .string l.sent]] w fun e w' => e = .returned (.bool true) ∧ Below w.heap.size w w' := by
  obtain ⟨p, d, s⟩ := l
  have h1 : (d.toList == d.toList) = true := by simp
  have h2 : (s.toList == s.toList) = true := by simp
  have h3 : (p != p) = false := by simp
  go_enter Try.func38, Try.ntmps38
  go_wp2
  go_ret
  exact ⟨rfl, by go_grown⟩
end Go.Proofs.Ytjlhendeofhdlaa.dev
