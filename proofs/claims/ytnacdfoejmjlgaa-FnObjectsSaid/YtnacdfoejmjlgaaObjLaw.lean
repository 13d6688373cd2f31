/-
  What the laws of objects ask: whether two objects are the same, and whether a number is in a slice.
-/
import Derived.Test.YtnacdfoejmjlgaaFwMath
import Derived.Test.YtnacdfoejmjlgaaObjVar
import Derived.Test.YtnacdfoejmjlgaaTxt
namespace Go.Proofs.Ytnacdfoejmjlgaa.obj
open Go.RowKit
open kinds ints ref

theorem sameObj_same (w : World) (t : Int) (a b : Option Addr) (g h n ca cb : Nat) (xs : List Int) (hx : xs.length = n) (hn : n ≤ 1048576) (ha : Ints w a g xs) (hb : Ints w b h xs) :
    Calls Try.prog 12 #[.agg #[.int .i64 t, .slice a n ca], .agg #[.int .i64 t, .slice b n cb]] w fun e w' => e = .returned (.bool true) ∧ Below w.heap.size w w' := by
  subst hx
  obtain ⟨W, hW⟩ : ∃ W, W = (w.alloc (.cells #[.int .i64 t, .slice a xs.length ca] 27)).alloc (.cells #[.int .i64 t, .slice b xs.length cb] 27) := ⟨_, rfl⟩
  have HW : Hid (W = (w.alloc (.cells #[.int .i64 t, .slice a xs.length ca] 27)).alloc (.cells #[.int .i64 t, .slice b xs.length cb] 27)) := hW
  have hb0 : Below w.heap.size w W := by rw [hW]; exact ((Below.refl _ _).alloc (Nat.le_refl _) _).alloc (by simp) _
  have HB0 : Hid (Below w.heap.size w W) := hb0
  have HS : Hid (Calls _ _ _ W _) := sameInts_same W a b g h ca cb xs hn (ha.below hb0) (hb.below hb0)
  have x1 : (t == t) = true := by simp
  clear ha hb hW hb0
  go_enter Try.func12, Try.ntmps12
  go_wp2_with fail
  rw [← HW.out]
  refine HS.out.mono ?_
  rintro e w' ⟨rfl, hb⟩
  have HB1 : Hid (Below w.heap.size w w') := HB0.out.trans (hb.mono HB0.out.size)
  clear hb
  go_wp2
  go_ret
  exact ⟨rfl, HB1.out⟩
set_option maxHeartbeats 1000000 in
theorem has_any (w : World) (a : Option Addr) (n cap : Nat) (l : List Int) (r : Int) (hx : l.length = n) (hn : n ≤ 1048576) (hl : Nums w a l) (hin : r ∈ l) :
    Calls Try.prog 19 #[.slice a n cap, .int .i64 r] w fun e w' => e = .returned (.bool true) ∧ w' = w := by
  have HN : Hid (Nums w a l) := hl
  have HL : Hid (l.length = n) := hx
  have HIN : Hid (∃ i, i < n ∧ l.getD i 0 = r) := by
    obtain ⟨i, hi, e⟩ := List.getElem_of_mem hin
    exact ⟨i, by omega, by rw [← getD_at l i hi]; exact e⟩
  clear hl hx hin
  go_enter Try.func19, Try.ntmps19
  go_wp2
  go_loopw [5] (fun i wr => ∃ k : Nat, k ≤ n ∧ i = .int .i64 (k : Int) ∧ (∀ j, j < k → l.getD j 0 ≠ r) ∧ w = wr) (fun i _ => n - (intOf i).toNat)
  case atStart => exact ⟨0, Nat.zero_le _, rfl, fun j hj => by omega, rfl⟩
  case round =>
    obtain ⟨k, hk, rfl, hno, rfl⟩ := hrel
    have HNO : Hid (∀ j, j < k → l.getD j 0 ≠ r) := hno
    clear hno
    by_cases hlt : k < n
    · have hlti : (k : Int) < (n : Int) := by omega
      have hk0 : (0 : Int) ≤ (k : Int) := by omega
      obtain ⟨b, off, rfl, c0⟩ := HN.out k (by have := HL.out; omega)
      rw [getD_at l k (by have := HL.out; omega)] at c0
      have HE : Hid (l.getD k 0 = l.getD k 0) := rfl
      by_cases hx : l.getD k 0 = r
      · rw [hx] at c0
        have he : (r == r) = true := by simp
        clear hx
        go_wp2
        go_ret
        exact ⟨rfl, rfl⟩
      · have HNO2 : Hid (∀ j, j < k + 1 → l.getD j 0 ≠ r) := fun j hj => by
          by_cases e : j = k
          · rw [e]; exact hx
          · exact HNO.out j (by omega)
        generalize l.getD k 0 = x at c0 hx
        have he : (x == r) = false := by simpa using hx
        clear hx
        go_wp2
        go_roundw
        case rel => exact ⟨k + 1, by omega, by go_num, HNO2.out, trivial⟩
        case measure => simp [intOf]; omega
    · exfalso
      obtain ⟨i, h1, h2⟩ := HIN.out
      exact HNO.out i (by omega) h2
end Go.Proofs.Ytnacdfoejmjlgaa.obj
