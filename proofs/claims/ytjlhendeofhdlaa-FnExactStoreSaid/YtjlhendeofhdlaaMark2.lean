/-
  Marks told exactly: the text of a mark, lines written over with marks, and the marks found again.
-/
import Derived.Test.YtjlhendeofhdlaaMark
import Derived.Deep.RegionWith
namespace Go.Proofs.Ytjlhendeofhdlaa.dev
open Go.RowKit

def digs : Nat → Nat → ByteArray → ByteArray
  | 0, _, s => s
  | f + 1, j, s => if j = 0 then s else digs f (j / 10) (strOfNums [48 + (j : Int) % 10] ++ s)
theorem digs_zero (f : Nat) (s : ByteArray) : digs f 0 s = s := by cases f <;> simp [digs]
theorem digs_fuel (f : Nat) : ∀ (g j : Nat) (s : ByteArray), j ≤ f → j ≤ g → digs f j s = digs g j s := by
  induction f with
  | zero =>
    intro g j s h1 h2
    obtain rfl : j = 0 := by omega
    rw [digs_zero, digs_zero]
  | succ f ih =>
    intro g j s h1 h2
    by_cases h0 : j = 0
    · subst h0; rw [digs_zero, digs_zero]
    · obtain ⟨g, rfl⟩ : ∃ g', g = g' + 1 := ⟨g - 1, by omega⟩
      simp only [digs, if_neg h0]
      exact ih g (j / 10) _ (by omega) (by omega)
/-- The text of a mark. -/
def markStr (k : Nat) : ByteArray := ⟨#[109]⟩ ++ digs k k ⟨#[]⟩
set_option maxHeartbeats 1000000 in
theorem markText_any (w : World) (k : Nat) (h0 : 0 < k) (h1 : k ≤ 16777216) :
    Calls Try.prog 39 #[.int .i64 (k : Int)] w fun e w' => e = .returned (.string (markStr k)) ∧ Below w.heap.size w w' := by
  have hcv := conv1
  go_enter Try.func39, Try.ntmps39
  go_wp2
  go_loopw [0, 3] (fun i t wr => ∃ (j : Nat) (s : ByteArray), i = .int .i64 j ∧ t = .string s ∧ s.size + j ≤ k ∧ digs j j s = digs k k ⟨#[]⟩ ∧ Below w.heap.size w wr) (fun i _ _ => (intOf i).toNat)
  case atStart => exact ⟨k, ⟨#[]⟩, rfl, rfl, by simp [ByteArray.size], rfl, Below.refl _ _⟩
  case round =>
    obtain ⟨j, s, rfl, rfl, hsz, hdg, hb⟩ := hrel
    have HB : Hid (Below w.heap.size w wr) := hb
    have HD : Hid (digs j j s = digs k k ⟨#[]⟩) := hdg
    clear hb hdg
    by_cases hj : 0 < j
    · have hz : ∀ x, (strOfNums [x]).size = 1 := fun x => strOfNums_size [x]
      have HD2 : Hid (digs (j / 10) (j / 10) (strOfNums [48 + (j : Int) % 10] ++ s) = digs k k ⟨#[]⟩) := by
        have h2 := HD.out
        obtain ⟨i, rfl⟩ : ∃ i, j = i + 1 := ⟨j - 1, by omega⟩
        simp only [digs, if_neg (show ¬ i + 1 = 0 by omega)] at h2
        show _ = _
        rw [← h2]
        exact digs_fuel _ _ _ _ (Nat.le_refl _) (by omega)
      go_wp2
      go_roundw
      case rel => exact ⟨j / 10, _, by go_num, rfl, by simp [hz]; omega, HD2.out, HB.out.trans ((by go_grown : Below wr.heap.size wr _).mono HB.out.size)⟩
      case measure => simp [intOf]; omega
    · obtain rfl : j = 0 := by omega
      have HS : Hid (s = digs k k ⟨#[]⟩) := by have := HD.out; rw [digs_zero] at this; exact this
      go_wp2
      go_ret
      have hms : markStr k = ⟨#[109]⟩ ++ s := by unfold markStr; rw [← HS.out]
      rw [hms]
      exact ⟨rfl, HB.out⟩
/-- The lines that marks make. -/
def markLn (k i : Nat) : Ln := ⟨((k + i * 3 : Nat) : Int), markStr (k + i * 3 + 1), markStr (k + i * 3 + 2)⟩
def markLs (k n : Nat) : List Ln := (List.range n).map (markLn k)
theorem markLs_len (k n : Nat) : (markLs k n).length = n := by simp [markLs]
theorem markLs_at (k n i : Nat) (h : i < (markLs k n).length) : (markLs k n)[i] = markLn k i := by simp [markLs]
set_option maxHeartbeats 2000000 in
theorem markLineS_full (w : World) (a : Option Addr) (g n cap : Nat) (k : Nat) (ha : 0 < n → a = some ⟨g, 0, none⟩) (hr : Row w g (n * 3)) (hn : n ≤ 1048576) (hk : 0 < k) (hk1 : k ≤ 4194304) :
    Calls Try.prog 29 #[.slice a n cap, .int .i64 (k : Int)] w fun e w' => e = .returned (.int .i64 ((k + n * 3 : Nat) : Int)) ∧ w.grownBy w' (some g) ∧ Lines w' a (markLs k n) := by
  have HR : Hid (Row w g (n * 3)) := hr
  have HA : Hid (0 < n → a = some ⟨g, 0, none⟩) := ha
  clear hr ha
  go_enter Try.func29, Try.ntmps29
  go_wp2
  go_loopw [1, 5] (fun m i wr => ∃ j : Nat, j ≤ n ∧ i = .int .i64 j ∧ m = .int .i64 ((k + j * 3 : Nat) : Int) ∧ Row wr g (n * 3) ∧ w.grownBy wr (some g) ∧ ∀ i, i < j → LnAt wr (some ⟨g, 0, none⟩) i (markLn k i)) (fun _ i _ => n - (intOf i).toNat)
  case atStart => exact ⟨0, Nat.zero_le _, rfl, rfl, HR.out, grown_refl _ _, fun i hi => by omega⟩
  case round =>
    obtain ⟨j, hj, rfl, rfl, hrow, hgr, hat⟩ := hrel
    have HRow : Hid (Row wr g (n * 3)) := hrow
    have HG : Hid (w.grownBy wr (some g)) := hgr
    have HT : Hid (∀ i, i < j → LnAt wr (some ⟨g, 0, none⟩) i (markLn k i)) := hat
    clear hrow hgr hat
    by_cases hlt : j < n
    · have e := HA.out (by omega)
      subst e
      obtain ⟨⟨v0, d0⟩, f0⟩ := HRow.out (j * 3) (by omega)
      have HML : Hid (markLn k j = ⟨((k + j * 3 : Nat) : Int), markStr (k + j * 3 + 1), markStr (k + j * 3 + 2)⟩) := rfl
      obtain ⟨km, hkm⟩ : ∃ km : Nat, km = k + j * 3 := ⟨_, rfl⟩
      rw [← hkm] at HML ⊢
      have hkb : km ≤ 8388608 := by omega
      have hkp : 0 < km := by omega
      have HKM : Hid (km = k + j * 3) := hkm
      clear hkm
      have HR1 : Hid (Row (wr.setCell ⟨g, j * 3, none⟩ (.int .i64 (km : Int))) g (n * 3)) := HRow.out.set _ _
      have HM : Hid (∀ w, Calls _ _ _ w _) := fun w => markText_any w (km + 1) (by omega) (by omega)
      have HM2 : Hid (∀ w, Calls _ _ _ w _) := fun w => markText_any w (km + 2) (by omega) (by omega)
      generalize markStr (km + 1) = s1 at HML HM
      generalize markStr (km + 2) = s2 at HML HM2
      have e1 : ((km + 1 : Nat) : Int) = (km : Int) + 1 := by omega
      have e2 : ((km + 2 : Nat) : Int) = (km : Int) + 2 := by omega
      rw [e1] at HM
      rw [e2] at HM2
      clear e1 e2
      go_wp2_with fail
      refine (HM.out _).mono ?_
      rintro e w2 ⟨rfl, hb2⟩
      have hr2 := HR1.out.grown hb2
      obtain ⟨⟨v1, d1⟩, f1⟩ := hr2 (j * 3 + 1) (by omega)
      have HR2 : Hid (Row w2 g (n * 3)) := hr2
      have HB2 : Hid (Below (wr.setCell ⟨g, j * 3, none⟩ (.int .i64 (km : Int))).heap.size (wr.setCell ⟨g, j * 3, none⟩ (.int .i64 (km : Int))) w2) := hb2
      clear hr2 hb2
      go_wp2_with fail
      refine (HM2.out _).mono ?_
      rintro e w4 ⟨rfl, hb4⟩
      have hr4 := (HR2.out.set ⟨g, j * 3 + 1, none⟩ (.string s1)).grown hb4
      obtain ⟨⟨v2, d2⟩, f2⟩ := hr4 (j * 3 + 2) (by omega)
      have HG5 : Hid (w.grownBy (w4.setCell ⟨g, j * 3 + 2, none⟩ (.string s2)) (some g)) := grown_trans (grown_trans (grown_trans (grown_trans (grown_trans HG.out (grown_set _ _ _ _)) (grown_below _ HB2.out)) (grown_set _ _ _ _)) (grown_below _ hb4)) (grown_set _ _ _ _)
      have HR5 : Hid (Row (w4.setCell ⟨g, j * 3 + 2, none⟩ (.string s2)) g (n * 3)) := hr4.set _ _
      have HL5 : Hid (∀ i, i < j + 1 → LnAt (w4.setCell ⟨g, j * 3 + 2, none⟩ (.string s2)) (some ⟨g, 0, none⟩) i (markLn k i)) := by
        have hglt : g < wr.heap.size := World.block_lt_of_cell? wr _ d0
        have ne : ∀ x y : Nat, x ≠ y → (⟨g, x, none⟩ : Addr) ≠ ⟨g, y, none⟩ := fun x y hxy q => hxy (congrArg Addr.off q)
        have hg2 : g < w2.heap.size := Nat.lt_of_lt_of_le (by simpa using hglt) HB2.out.size
        have cw : ∀ x, x ≠ j * 3 + 2 → (w4.setCell ⟨g, j * 3 + 2, none⟩ (.string s2)).cell? ⟨g, x, none⟩ = (w2.setCell ⟨g, j * 3 + 1, none⟩ (.string s1)).cell? ⟨g, x, none⟩ := fun x hx => by
          rw [World.cell?_setCell_other _ _ _ _ (ne _ _ (Ne.symm hx)), hb4.cell (p := ⟨g, x, none⟩) (by simpa using hg2)]
        have cv : ∀ x, x ≠ j * 3 + 1 → (w2.setCell ⟨g, j * 3 + 1, none⟩ (.string s1)).cell? ⟨g, x, none⟩ = (wr.setCell ⟨g, j * 3, none⟩ (.int .i64 (km : Int))).cell? ⟨g, x, none⟩ := fun x hx => by
          rw [World.cell?_setCell_other _ _ _ _ (ne _ _ (Ne.symm hx)), HB2.out.cell (p := ⟨g, x, none⟩) (by simpa using hglt)]
        intro i hi
        by_cases hij : i < j
        · obtain ⟨b, off, eq, h0, h1, h2⟩ := HT.out i hij
          have q1 : g = b := by simpa using congrArg (fun a : Option Addr => (a.map Addr.block)) eq
          have q2 : 0 = off := by simpa using congrArg (fun a : Option Addr => (a.map Addr.off)) eq
          subst q1; subst q2
          refine ⟨g, 0, rfl, ?_, ?_, ?_⟩ <;> rw [cw _ (by omega), cv _ (by omega), World.cell?_setCell_other _ _ _ _ (ne _ _ (by omega))] <;> assumption
        · obtain rfl : i = j := by omega
          rw [HML.out]
          refine ⟨g, 0, rfl, ?_, ?_, ?_⟩ <;> rw [Nat.zero_add]
          · rw [cw _ (by omega), cv _ (by omega), World.cell?_setCell_same _ _ _ d0]
          · rw [cw _ (by omega), World.cell?_setCell_same _ _ _ d1]
          · rw [World.cell?_setCell_same _ _ _ d2]
      clear hr4 hb4
      go_wp2
      go_roundw
      case rel => exact ⟨j + 1, by omega, by go_num, by have := HKM.out; go_num, HR5.out, HG5.out, HL5.out⟩
      case measure => simp [intOf]; omega
    · have : j = n := by omega
      subst this
      go_wp2
      go_ret
      refine ⟨rfl, HG.out, fun i hi => ?_⟩
      have hi' : i < j := by rw [markLs_len] at hi; exact hi
      rw [markLs_at, HA.out (by omega)]
      exact HT.out i hi'
theorem markDevice_full (w : World) (safe : ByteArray) (a : Option Addr) (g n cap : Nat) (k : Nat) (ha : 0 < n → a = some ⟨g, 0, none⟩) (hr : Row w g (n * 3)) (hn : n ≤ 1048576) (hk : 0 < k) (hk1 : k ≤ 4194304) :
    Calls Try.prog 10 #[.agg #[.string safe, .slice a n cap], .int .i64 (k : Int)] w fun e w' => e = .returned (.int .i64 ((k + n * 3 : Nat) : Int)) ∧ w.grownBy w' (some g) ∧ Lines w' a (markLs k n) := by
  have hb0 : Below w.heap.size w (w.alloc (.cells #[.string safe, .slice a n cap] 28)) := (Below.refl _ _).alloc (Nat.le_refl _) _
  have HC : Hid (Calls _ _ _ _ _) := markLineS_full (w.alloc (.cells #[.string safe, .slice a n cap] 28)) a g n cap k ha (hr.grown hb0) hn hk hk1
  clear hr ha
  go_enter Try.func10, Try.ntmps10
  go_wp2_with fail
  refine HC.out.mono ?_
  rintro e w2 ⟨rfl, hg2, hl2⟩
  have HL2 : Hid (Lines w2 a (markLs k n)) := hl2
  clear hl2
  go_wp2
  go_ret
  exact ⟨rfl, grown_trans (grown_below _ hb0) hg2, HL2.out⟩
end Go.Proofs.Ytjlhendeofhdlaa.dev
