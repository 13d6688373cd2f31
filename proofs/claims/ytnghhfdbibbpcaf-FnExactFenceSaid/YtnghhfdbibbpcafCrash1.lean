/-
  What a loss of power leaves: the text that it makes of Safe, by lines and picks; the copy of a slice of whole numbers; the program's small helpers.
-/
import Derived.Test.YtnghhfdbibbpcafDev6
import Derived.Test.YtnghhfdbibbpcafMark
namespace Go.Proofs.Ytnghhfdbibbpcaf.dev
open Go.RowKit
open bb later

/-- Whole numbers in a slice that is handed in. -/
def Nums (w : World) (a : Option Addr) (xs : List Int) : Prop :=
  ∀ i (hi : i < xs.length), ∃ b off : Nat, a = some ⟨b, off, none⟩ ∧ w.cell? ⟨b, off + i, none⟩ = some (.int .i64 xs[i])
theorem Nums.below {w w' : World} {a : Option Addr} {xs : List Int} (h : Nums w a xs) (hb : Below w.heap.size w w') : Nums w' a xs := fun i hi => by
  obtain ⟨b, off, e, h0⟩ := h i hi
  exact ⟨b, off, e, by rw [hb.cell (p := ⟨b, off + i, none⟩) (World.block_lt_of_cell? w _ h0)]; exact h0⟩
theorem Ints.nums {w : World} {a : Option Addr} {g : Nat} {xs : List Int} (h : Ints w a g xs) : Nums w a xs := fun i hi => by
  obtain ⟨e, h0, _⟩ := h i hi
  exact ⟨g, 0, e, by rw [Nat.zero_add]; exact h0⟩

theorem infoInt64 : (Try.prog.info? 2).map (fun i => (i.zero, i.size, i.bytes)) = some (some (.int .i64 0), 1, 8) := by kernel_rfl
def madeInts (w : World) (n : Nat) : World := w.alloc (.cells (madeCells #[.int .i64 0] (n * 1)) 2)
theorem run_ints (n : Nat) (h : n ≤ 1048576) (w : World) : (Instr.makeSlice 37 (.int .i64 (n : Int)) (.int .i64 (n : Int))).run Try.prog w = .ok (.slice (some ⟨w.heap.size, 0, none⟩) n n) (madeInts w n) := by
  obtain ⟨i, hi, hzz⟩ := Option.map_eq_some_iff.1 infoInt64
  simp only [Prod.mk.injEq] at hzz
  obtain ⟨hz, hs, hb⟩ := hzz
  have hr := run_make (P := Try.prog) w 37 2 i _ Try.underlying37 hi hz .i64 .i64 n n (by omega) (Int.le_refl _) (by rw [hb]; omega) (by omega)
  simp only [Int.toNat_natCast, hs] at hr
  exact hr
theorem madeInts_below (w : World) (n : Nat) : Below w.heap.size w (madeInts w n) := (Below.refl _ _).alloc (Nat.le_refl _) _
theorem madeInts_size (w : World) (n : Nat) : (madeInts w n).heap.size = w.heap.size + 1 := by unfold madeInts; simp
theorem madeInts_row (w : World) (n : Nat) : Row (madeInts w n) w.heap.size n := fun j hj => by
  unfold madeInts
  refine ⟨?_, World.frozen?_alloc_new _ _ _ _⟩
  rw [World.cell?_alloc_new]
  exact ⟨_, Array.getElem?_eq_getElem (by rw [size_madeCells]; omega)⟩
set_option maxHeartbeats 1000000 in
theorem toInt64S_any (w : World) (a : Option Addr) (cap : Nat) (xs : List Int) (hn : xs.length ≤ 1048576) (hl : Nums w a xs) :
    Calls Try.prog 24 #[.slice a xs.length cap] w fun e w' => ∃ g : Nat, e = .returned (.slice (some ⟨g, 0, none⟩) xs.length xs.length) ∧ w.heap.size ≤ g ∧ g < w'.heap.size ∧ Ints w' (some ⟨g, 0, none⟩) g xs ∧ Below w.heap.size w w' := by
  have HL : Hid (Nums w a xs) := hl
  have hmk := run_ints xs.length hn w
  have HB0 : Hid (Below w.heap.size w (madeInts w xs.length)) := madeInts_below w xs.length
  have HR0 : Hid (Row (madeInts w xs.length) w.heap.size xs.length) := madeInts_row w xs.length
  have HS0 : Hid ((madeInts w xs.length).heap.size = w.heap.size + 1) := madeInts_size w xs.length
  generalize madeInts w xs.length = w1 at hmk HB0 HR0 HS0
  clear hl
  go_enter Try.func24, Try.ntmps24
  go_wp2
  go_loopw [4] (fun i wr => ∃ k : Nat, k ≤ xs.length ∧ i = .int .i64 k ∧ (∀ j (hj : j < xs.length), j < k → wr.cell? ⟨w.heap.size, j, none⟩ = some (.int .i64 xs[j])) ∧ Row wr w.heap.size xs.length ∧ Below w.heap.size w wr ∧ w.heap.size < wr.heap.size) (fun i _ => xs.length - (intOf i).toNat)
  case atStart => exact ⟨0, Nat.zero_le _, rfl, fun j hj h => by omega, HR0.out, HB0.out, by have := HS0.out; omega⟩
  case round =>
    obtain ⟨k, hk, rfl, hat, hrow, hb, hsz⟩ := hrel
    have HA : Hid (∀ j (hj : j < xs.length), j < k → wr.cell? ⟨w.heap.size, j, none⟩ = some (.int .i64 xs[j])) := hat
    have HR : Hid (Row wr w.heap.size xs.length) := hrow
    have HB : Hid (Below w.heap.size w wr) := hb
    clear hat hrow hb
    by_cases hlt : k < xs.length
    · obtain ⟨b, off, rfl, c0⟩ := HL.out.below HB.out k hlt
      obtain ⟨x, hxk⟩ : ∃ x, x = xs[k] := ⟨_, rfl⟩
      rw [← hxk] at c0
      have HXK : Hid (x = xs[k]) := hxk
      obtain ⟨⟨v0, d0⟩, f0⟩ := HR.out k hlt
      have D0 : Hid (wr.cell? ⟨w.heap.size, k, none⟩ = some v0) := d0
      clear hxk hmk
      go_wp2
      refine ⟨⟨k + 1, by omega, by go_num, ?_, HR.out.set _ _, HB.out.setCell (p := ⟨w.heap.size, k, none⟩) (Nat.le_refl _) _, by simpa using hsz⟩, by simp [intOf]; omega⟩
      intro j hj hjk
      by_cases hjl : j < k
      · rw [World.cell?_setCell_other _ _ _ _ (fun q => by have := congrArg Addr.off q; simp at this; omega)]
        exact HA.out j hj hjl
      · have hjk' : j = k := by omega
        subst hjk'
        rw [World.cell?_setCell_same _ _ _ D0.out, HXK.out]
    · go_wp2
      go_ret
      exact ⟨w.heap.size, rfl, Nat.le_refl _, hsz, fun i hi => ⟨rfl, HA.out i hi (by omega), (HR.out i hi).2⟩, HB.out⟩

/-- What is kept of a line. -/
def keptT (l : Ln) (k : Int) : ByteArray := if k = 2 then l.data else if k = 1 then l.sent else ⟨#[]⟩
def crashL (safe : List UInt8) (lk : List (Ln × Int)) : List UInt8 := lk.foldl (fun acc x => putAt acc (64 * x.1.place.toNat) (keptT x.1 x.2).data.toList) safe
theorem crashL_take (safe : List UInt8) (lk : List (Ln × Int)) (k : Nat) (hk : k < lk.length) : crashL safe (lk.take (k + 1)) = putAt (crashL safe (lk.take k)) (64 * lk[k].1.place.toNat) (keptT lk[k].1 lk[k].2).data.toList := by
  rw [List.take_succ_eq_append_getElem hk]
  unfold crashL
  rw [List.foldl_append]
  rfl
theorem putAt_nil (l : List UInt8) (o : Nat) : putAt l o [] = l := by simp [putAt]
theorem kept_size {n p : Int} {l : Ln} (h : LnOk n p l) (k : Int) : (keptT l k).size ≤ 64 := by
  obtain ⟨_, _, _, h4, h5⟩ := h
  unfold keptT
  split
  · omega
  · split
    · omega
    · simp [ByteArray.size]
theorem crash_ok {safe : ByteArray} {ls : List Ln} (h : DevOk safe ls) (ks : List Int) (k : Nat) : (crashL safe.data.toList ((ls.zip ks).take k)).length = safe.size := by
  induction k with
  | zero => simp [crashL]
  | succ k ih =>
    by_cases hk : k < (ls.zip ks).length
    · have hk1 : k < ls.length := by rw [List.length_zip] at hk; omega
      have hl := h.2.2.2 k hk1
      have hs := kept_size hl (ls.zip ks)[k].2
      have he : (ls.zip ks)[k].1 = ls[k] := by simp
      rw [crashL_take _ _ _ hk, he, putAt_len _ _ _ (by rw [ih]; have h3 := hl.2.2.1; have h2 := hl.2.1; have h1 := h.1; simp only [Array.length_toList]; change _ + (keptT ls[k] _).size ≤ _; omega), ih]
    · rw [List.take_of_length_le (by omega)]
      rw [List.take_of_length_le (by omega)] at ih
      exact ih
def crashStr (safe : ByteArray) (ls : List Ln) (ks : List Int) : ByteArray := ⟨(crashL safe.data.toList (ls.zip ks)).toArray⟩
theorem keptOf_any (w : World) (l : Ln) (k : Int) :
    Calls Try.prog 51 #[.agg #[.int .i64 l.place, .string l.data, .string l.sent], .int .i64 k] w fun e w' => e = .returned (.string (keptT l k)) ∧ Below w.heap.size w w' := by
  obtain ⟨p, d, s⟩ := l
  unfold keptT
  simp only
  by_cases h2 : k = 2
  · subst h2
    rw [if_pos rfl]
    go_enter Try.func51, Try.ntmps51
    go_wp2
    go_ret
    exact ⟨rfl, by go_grown⟩
  · rw [if_neg h2]
    by_cases h1 : k = 1
    · subst h1
      rw [if_pos rfl]
      go_enter Try.func51, Try.ntmps51
      go_wp2
      go_ret
      exact ⟨rfl, by go_grown⟩
    · rw [if_neg h1]
      have e2 : (k == 2) = false := by simpa using h2
      have e1 : (k == 1) = false := by simpa using h1
      go_enter Try.func51, Try.ntmps51
      go_wp2
      go_ret
      exact ⟨rfl, by go_grown⟩
theorem putLine_kept (w : World) (g cap : Nat) (l : List UInt8) (p : Nat) (dt : ByteArray) (hB : Bytes w g l) (hl : l.length ≤ 1048576) (hle : 64 * p + 64 ≤ l.length) (hd : dt.data.toList.length ≤ 64) (hc : l.length ≤ cap) :
    Calls Try.prog 39 #[.slice (some ⟨g, 0, none⟩) l.length cap, .int .i64 (p : Int), .string dt] w fun e w' => e = .returned (.tuple #[]) ∧ w' = w.setCells g (64 * p) (cellsOfText dt) := by
  have hb1 : 64 * (p : Int) ≤ (l.length : Int) := by omega
  have hcne : ¬ cap = p * 64 := by omega
  have hcp := fun ty => copy_run w g (p * 64) (l.length - p * 64) (cap - p * 64) l dt ty hB (by omega) (by omega)
  clear hB
  go_enter Try.func39, Try.ntmps39
  go_wp2
  go_end0
  exact ⟨rfl, by rw [Nat.mul_comm]⟩
end Go.Proofs.Ytnghhfdbibbpcaf.dev
