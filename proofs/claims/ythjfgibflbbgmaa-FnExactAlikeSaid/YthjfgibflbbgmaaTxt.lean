/-
  Slices of texts of one's own: held against each other, marked, and their marks found again; a text put behind them.
-/
import Derived.Test.YthjfgibflbbgmaaStrs
import Derived.Test.YthjfgibflbbgmaaConv
import Derived.Test.YthjfgibflbbgmaaInts
import Derived.Deep.RegionWith
import Derived.Deep.RegionHeld3
namespace Go.Proofs.Ythjfgibflbbgmaa.txt
open Go.RowKit
open kinds ints

def digs : Nat → Nat → ByteArray → ByteArray
  | 0, _, s => s
  | f + 1, j, s => if j = 0 then s else digs f (j / 10) (strOfNums [48 + (j : Int) % 10] ++ s)
theorem digs_zero (f : Nat) (s : ByteArray) : digs f 0 s = s := by cases f <;> simp [digs]
theorem digs_fuel (f : Nat) : ∀ (g j : Nat) (s : ByteArray), j ≤ f → j ≤ g → digs f j s = digs g j s := by
  induction f with
  | zero =>
    intro g j s h1 h2
    obtain rfl : j = 0 := by omega
    rw [digs_zero, digs_zero]
  | succ f ih =>
    intro g j s h1 h2
    by_cases h0 : j = 0
    · subst h0; rw [digs_zero, digs_zero]
    · obtain ⟨g, rfl⟩ : ∃ g', g = g' + 1 := ⟨g - 1, by omega⟩
      simp only [digs, if_neg h0]
      exact ih g (j / 10) _ (by omega) (by omega)
/-- The text of a mark. -/
def markStr (k : Nat) : ByteArray := ⟨#[109]⟩ ++ digs k k ⟨#[]⟩
theorem conv1 (w : World) (T : TypeId) (x : Int) :
    (convert 45 9 (.slice (some ⟨w.heap.size, 0, none⟩) 1 1)).run Try.prog (w.alloc (.cells #[.int .u8 x] T)) = .ok (.string (strOfNums [x])) (w.alloc (.cells #[.int .u8 x] T)) := by
  simpa using conv.conv_at w T [x] 1 1 (by simp)
set_option maxHeartbeats 1000000 in
theorem markText_any (w : World) (k : Nat) (h0 : 0 < k) (h1 : k ≤ 16777216) :
    Calls Try.prog 45 #[.int .i64 (k : Int)] w fun e w' => e = .returned (.string (markStr k)) ∧ Below w.heap.size w w' := by
  have hcv := conv1
  go_enter Try.func45, Try.ntmps45
  go_wp2
  go_loopw [0, 3] (fun i t wr => ∃ (j : Nat) (s : ByteArray), i = .int .i64 j ∧ t = .string s ∧ s.size + j ≤ k ∧ digs j j s = digs k k ⟨#[]⟩ ∧ Below w.heap.size w wr) (fun i _ _ => (intOf i).toNat)
  case atStart => exact ⟨k, ⟨#[]⟩, rfl, rfl, by simp [ByteArray.size], rfl, Below.refl _ _⟩
  case round =>
    obtain ⟨j, s, rfl, rfl, hsz, hdg, hb⟩ := hrel
    have HB : Hid (Below w.heap.size w wr) := hb
    have HD : Hid (digs j j s = digs k k ⟨#[]⟩) := hdg
    clear hb hdg
    by_cases hj : 0 < j
    · have hz : ∀ x, (strOfNums [x]).size = 1 := fun x => strOfNums_size [x]
      have HD2 : Hid (digs (j / 10) (j / 10) (strOfNums [48 + (j : Int) % 10] ++ s) = digs k k ⟨#[]⟩) := by
        have h2 := HD.out
        obtain ⟨i, rfl⟩ : ∃ i, j = i + 1 := ⟨j - 1, by omega⟩
        simp only [digs, if_neg (show ¬ i + 1 = 0 by omega)] at h2
        show _ = _
        rw [← h2]
        exact digs_fuel _ _ _ _ (Nat.le_refl _) (by omega)
      go_wp2
      go_roundw
      case rel => exact ⟨j / 10, _, by go_num, rfl, by simp [hz]; omega, HD2.out, HB.out.trans ((by go_grown : Below wr.heap.size wr _).mono HB.out.size)⟩
      case measure => simp [intOf]; omega
    · obtain rfl : j = 0 := by omega
      have HS : Hid (s = digs k k ⟨#[]⟩) := by have := HD.out; rw [digs_zero] at this; exact this
      go_wp2
      go_ret
      have hms : markStr k = ⟨#[109]⟩ ++ s := by unfold markStr; rw [← HS.out]
      rw [hms]
      exact ⟨rfl, HB.out⟩
/-- Texts in a slice that begins at a block's head, and that may be written. -/
def Txts (w : World) (a : Option Addr) (g : Nat) (xs : List ByteArray) : Prop :=
  ∀ i (hi : i < xs.length), a = some ⟨g, 0, none⟩ ∧ w.cell? ⟨g, i, none⟩ = some (.string xs[i]) ∧ w.frozen? ⟨g, i, none⟩ = false
theorem Txts.strs {w : World} {a : Option Addr} {g : Nat} {xs : List ByteArray} (h : Txts w a g xs) : Strs w a xs := fun i hi => by
  obtain ⟨e, h0, _⟩ := h i hi
  exact ⟨g, 0, e, by rw [Nat.zero_add]; exact h0⟩
theorem Txts.grown {w w' : World} {a : Option Addr} {g r : Nat} {xs : List ByteArray} (h : Txts w a g xs) (hg : w.grownBy w' (some r)) (hne : 0 < xs.length → g ≠ r) : Txts w' a g xs := fun i hi => by
  obtain ⟨e, h0, h1⟩ := h i hi
  have hlt := World.block_lt_of_cell? w _ h0
  have hbk := hg.block g hlt (fun q => hne (by omega) (Option.some.inj q))
  exact ⟨e, by rw [World.cell?_of_block (a := ⟨g, i, none⟩) hbk]; exact h0, by rw [World.frozen?_of_block (a := ⟨g, i, none⟩) hbk]; exact h1⟩
theorem Txts.below {w w' : World} {a : Option Addr} {g : Nat} {xs : List ByteArray} (h : Txts w a g xs) (hb : Below w.heap.size w w') : Txts w' a g xs := fun i hi => by
  obtain ⟨e, h0, h1⟩ := h i hi
  have hlt := World.block_lt_of_cell? w _ h0
  exact ⟨e, by rw [hb.cell (p := ⟨g, i, none⟩) hlt]; exact h0, by rw [hb.frozen (p := ⟨g, i, none⟩) hlt]; exact h1⟩
theorem Txts.lt {w : World} {a : Option Addr} {g : Nat} {xs : List ByteArray} (h : Txts w a g xs) (h0 : 0 < xs.length) : g < w.heap.size := World.block_lt_of_cell? w _ (h 0 h0).2.1
theorem txts_of_row {w : World} {base : Nat} {v : Value} {xs : List ByteArray} (h : w.ownsRow base 9 1 v xs.length (xs.map Value.string)) : ∃ a g cap, v = .slice a xs.length cap ∧ base ≤ g ∧ Txts w a g xs := by
  rcases h.2 with ⟨rfl, h0⟩ | ⟨g, cap, cur, rfl, hb, hg, hc, hcm, hcs, ht⟩
  · exact ⟨none, base, 0, by rw [h0], Nat.le_refl _, fun i hi => by omega⟩
  · refine ⟨_, g, cap, rfl, hb, fun i hi => ⟨rfl, ?_, ?_⟩⟩
    · have hx : (cur.toList.take (xs.length * 1))[i]? = some (.string xs[i]) := by rw [ht]; simp [List.getElem?_eq_getElem hi]
      rw [List.getElem?_take, if_pos (by omega)] at hx
      rw [cell_of_row w g i cur 9 (0, 0) hg]
      simpa using hx
    · simp [World.frozen?, hg]
theorem own_stepT {w w1 : World} {B e z : Nat} {v : Value} {n : Nat} {xs : List Value} {W : World} (h : w.ownsRow B e z v n xs) (hb : Below B W w) (hB : B ≤ w.heap.size) (hg : w.grownBy w1 v.ownBlock) : Below B W w1 :=
  hb.trans ⟨hg.os, hg.tape, hg.output, hg.size, fun k hk => hg.block k (by omega) (fun e => by have := (h.lt k e.symm).1; omega)⟩
theorem infoTxt : (Try.prog.info? 9).map (fun i => (i.zero, i.size, i.bytes)) = some (some (.string ⟨#[]⟩), 1, 16) := by kernel_rfl
theorem wpList_pushT {ops : Array Oper} {rest : List Oper} {o : Oper} {a : Act} {Q : Exit → Act → World → Prop} (X : World) (hgd : o.guard = none) (s x : Operand)
    (ho : o.op = .call { callee := .builtin .append, args := #[s, x], argTypes := #[22, 22] }) (base : Nat) (v : Value) (xs : List ByteArray) (y : ByteArray)
    (hown : X.ownsRow base 9 1 v xs.length (xs.map Value.string)) (hs : a.eval s = v) (hx : a.eval x = .slice (some ⟨X.heap.size, 0, none⟩) 1 1) (hn : xs.length ≤ 1048576) (hbase : base ≤ X.heap.size)
    (h : ∀ g cap w', w'.ownsRow base 9 1 (.slice (some ⟨g, 0, none⟩) (xs.length + 1) cap) (xs ++ [y]).length ((xs ++ [y]).map Value.string) → Below base X w' → base ≤ w'.heap.size → wpList Try.prog ops Q rest (a.put o.dst (.slice (some ⟨g, 0, none⟩) (xs.length + 1) cap)) w') :
    wpList Try.prog ops Q (o :: rest) a (X.alloc (.cells #[.string y] 9)) := by
  obtain ⟨i0, hi, hzz⟩ := Option.map_eq_some_iff.1 infoTxt
  simp only [Prod.mk.injEq] at hzz
  obtain ⟨hz0, hz1, hz2⟩ := hzz
  refine wpList_append_lies _ hgd s x 22 ho base 9 i0 (.string ⟨#[]⟩) 1 16 Try.underlying22 hi hz0 hz1 hz2 rfl (by decide) v xs.length _ hs (hown.alloc _) ⟨X.heap.size, 0, none⟩ 1 1 [.string y] hx rfl ?_ ?_ (by decide) ?_ ?_ ?_ _ rfl ?_
  · intro j u hj
    match j, hj with
    | 0, hj => simp at hj; subst hj; rw [show (⟨X.heap.size, 0, none⟩ : Addr).add 0 = ⟨X.heap.size, 0, none⟩ from rfl, World.cell?_alloc_new]; rfl
  · intro u hu; simp at hu; subst hu; rfl
  · unfold maxLen; omega
  · omega
  · simp; omega
  · intro g cap w' hown' hgrow hat hlt
    have hb : Below base X w' := own_stepT (hown.alloc _) ((Below.refl _ _).alloc hbase _) (by simp; omega) hgrow
    exact h g cap w' (by simpa using hown') hb (Nat.le_trans hbase hb.size)
/-- The marks from a number on. -/
def markTs (k n : Nat) : List ByteArray := (List.range n).map fun i => markStr (k + i)
theorem markTs_len (k n : Nat) : (markTs k n).length = n := by simp [markTs]
theorem markTs_at (k n i : Nat) (h : i < (markTs k n).length) : (markTs k n)[i] = markStr (k + i) := by simp [markTs]
set_option maxHeartbeats 1000000 in
theorem markStringS_any (w : World) (a : Option Addr) (g n cap : Nat) (xs : List ByteArray) (k : Nat) (hxs : xs.length = n) (ha : Txts w a g xs) (hn : n ≤ 1048576) (hk0 : 0 < k) (hk1 : k ≤ 4194304) :
    Calls Try.prog 19 #[.slice a n cap, .int .i64 (k : Int)] w fun e w' => e = .returned (.int .i64 ((k + n : Nat) : Int)) ∧ w.grownBy w' (some g) ∧ Txts w' a g (markTs k n) := by
  have HA : Hid (∀ i, i < n → a = some ⟨g, 0, none⟩ ∧ (∃ v, w.cell? ⟨g, i, none⟩ = some v) ∧ w.frozen? ⟨g, i, none⟩ = false) := fun i hi => by
    obtain ⟨e, h0, h1⟩ := ha i (by omega)
    exact ⟨e, ⟨_, h0⟩, h1⟩
  clear ha hxs
  go_enter Try.func19, Try.ntmps19
  go_wp2
  go_loopw [1, 5] (fun m i wr => ∃ j : Nat, j ≤ n ∧ i = .int .i64 j ∧ m = .int .i64 ((k + j : Nat) : Int) ∧ w.grownBy wr (some g) ∧ ∀ i, i < n → a = some ⟨g, 0, none⟩ ∧ (∃ v, wr.cell? ⟨g, i, none⟩ = some v ∧ (i < j → v = .string (markStr (k + i)))) ∧ wr.frozen? ⟨g, i, none⟩ = false) (fun _ i _ => n - (intOf i).toNat)
  case atStart => exact ⟨0, Nat.zero_le _, rfl, rfl, grown_refl _ _, fun i hi => ⟨(HA.out i hi).1, ⟨_, (HA.out i hi).2.1.choose_spec, fun h => by omega⟩, (HA.out i hi).2.2⟩⟩
  case round =>
    obtain ⟨j, hj, rfl, rfl, hgr, hat⟩ := hrel
    have HG : Hid (w.grownBy wr (some g)) := hgr
    have HT : Hid (∀ w', Below wr.heap.size wr w' → ∀ i, i < n → a = some ⟨g, 0, none⟩ ∧ (∃ v, w'.cell? ⟨g, i, none⟩ = some v ∧ (i < j → v = .string (markStr (k + i)))) ∧ w'.frozen? ⟨g, i, none⟩ = false) := fun w' hb i hi => by
      obtain ⟨e, ⟨v, hv, hvi⟩, hf⟩ := hat i hi
      have hlt := World.block_lt_of_cell? wr _ hv
      exact ⟨e, ⟨v, by rw [hb.cell (p := ⟨g, i, none⟩) hlt]; exact hv, hvi⟩, by rw [hb.frozen (p := ⟨g, i, none⟩) hlt]; exact hf⟩
    clear hgr hat
    by_cases hlt : j < n
    · obtain ⟨km, hkm⟩ : ∃ km : Nat, km = k + j := ⟨_, rfl⟩
      rw [← hkm]
      have hkb : km ≤ 8388608 := by omega
      have HM : Hid (∀ w, Calls _ _ _ w _) := fun w => markText_any w km (by omega) (by omega)
      obtain ⟨mt, hmt⟩ : ∃ t, t = markStr km := ⟨_, rfl⟩
      rw [← hmt] at HM
      have HMT : Hid (mt = markStr (k + j)) := by rw [hkm] at hmt; exact hmt
      have HKM : Hid (km = k + j) := hkm
      clear hkm hmt
      go_wp2_with fail
      refine (HM.out _).mono ?_
      rintro e w1 ⟨rfl, hb1⟩
      have HT1 : Hid (∀ i, i < n → _) := HT.out w1 hb1
      obtain ⟨rfl, ⟨v0, d0, _⟩, f0⟩ := HT1.out j hlt
      have HG1 : Hid (w.grownBy w1 (some g)) := grown_trans HG.out (grown_below _ hb1)
      clear hb1
      go_wp2
      go_roundw
      case rel =>
        refine ⟨j + 1, by omega, by go_num, by have := HKM.out; go_num, grown_trans HG1.out (grown_set _ _ _ _), fun i hi => ⟨trivial, ?_, by rw [World.frozen?_setCell]; exact (HT1.out i hi).2.2⟩⟩
        by_cases e : i = j
        · subst e
          exact ⟨_, World.cell?_setCell_same _ _ _ d0, fun _ => by rw [HMT.out]⟩
        · obtain ⟨_, ⟨v, hv, hvi⟩, _⟩ := HT1.out i hi
          exact ⟨v, by rw [World.cell?_setCell_other _ _ _ _ (fun q => e (congrArg Addr.off q).symm)]; exact hv, fun h => hvi (by omega)⟩
      case measure => simp [intOf]; omega
    · have : j = n := by omega
      subst this
      have HT1 : Hid (∀ i, i < j → _) := HT.out wr (Below.refl _ _)
      go_wp2
      go_ret
      refine ⟨rfl, HG.out, fun i hi => ?_⟩
      have hi' : i < j := by rw [markTs_len] at hi; exact hi
      obtain ⟨e, ⟨v, hv, hvi⟩, hf⟩ := HT1.out i hi'
      rw [markTs_at]
      exact ⟨e, by rw [hv, hvi hi'], hf⟩
end Go.Proofs.Ythjfgibflbbgmaa.txt
