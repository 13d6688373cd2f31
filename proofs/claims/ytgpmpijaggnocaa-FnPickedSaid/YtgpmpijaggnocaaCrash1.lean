/-
  What a loss of power leaves: the text that it makes of Safe, by lines and picks; the copy of a slice of whole numbers; the program's small helpers.
-/
import Derived.Test.YtgpmpijaggnocaaDev6
import Derived.Test.YtgpmpijaggnocaaMark
namespace Go.Proofs.Ytgpmpijaggnocaa.dev
open Go.RowKit
open bb later

/-- Whole numbers in a slice that is handed in. -/
def Nums (w : World) (a : Option Addr) (xs : List Int) : Prop :=
  ∀ i (hi : i < xs.length), ∃ b off : Nat, a = some ⟨b, off, none⟩ ∧ w.cell? ⟨b, off + i, none⟩ = some (.int .i64 xs[i])
theorem Nums.below {w w' : World} {a : Option Addr} {xs : List Int} (h : Nums w a xs) (hb : Below w.heap.size w w') : Nums w' a xs := fun i hi => by
  obtain ⟨b, off, e, h0⟩ := h i hi
  exact ⟨b, off, e, by rw [hb.cell (p := ⟨b, off + i, none⟩) (World.block_lt_of_cell? w _ h0)]; exact h0⟩
theorem Ints.nums {w : World} {a : Option Addr} {g : Nat} {xs : List Int} (h : Ints w a g xs) : Nums w a xs := fun i hi => by
  obtain ⟨e, h0, _⟩ := h i hi
  exact ⟨g, 0, e, by rw [Nat.zero_add]; exact h0⟩


/-- What is kept of a line. -/
def keptT (l : Ln) (k : Int) : ByteArray := if k = 2 then l.data else if k = 1 then l.sent else ⟨#[]⟩
def crashL (safe : List UInt8) (lk : List (Ln × Int)) : List UInt8 := lk.foldl (fun acc x => putAt acc (64 * x.1.place.toNat) (keptT x.1 x.2).data.toList) safe
theorem crashL_take (safe : List UInt8) (lk : List (Ln × Int)) (k : Nat) (hk : k < lk.length) : crashL safe (lk.take (k + 1)) = putAt (crashL safe (lk.take k)) (64 * lk[k].1.place.toNat) (keptT lk[k].1 lk[k].2).data.toList := by
  rw [List.take_succ_eq_append_getElem hk]
  unfold crashL
  rw [List.foldl_append]
  rfl
theorem putAt_nil (l : List UInt8) (o : Nat) : putAt l o [] = l := by simp [putAt]
theorem kept_size {n p : Int} {l : Ln} (h : LnOk n p l) (k : Int) : (keptT l k).size ≤ 64 := by
  obtain ⟨_, _, _, h4, h5⟩ := h
  unfold keptT
  split
  · omega
  · split
    · omega
    · simp [ByteArray.size]
theorem crash_ok {safe : ByteArray} {ls : List Ln} (h : DevOk safe ls) (ks : List Int) (k : Nat) : (crashL safe.data.toList ((ls.zip ks).take k)).length = safe.size := by
  induction k with
  | zero => simp [crashL]
  | succ k ih =>
    by_cases hk : k < (ls.zip ks).length
    · have hk1 : k < ls.length := by rw [List.length_zip] at hk; omega
      have hl := h.2.2.2 k hk1
      have hs := kept_size hl (ls.zip ks)[k].2
      have he : (ls.zip ks)[k].1 = ls[k] := by simp
      rw [crashL_take _ _ _ hk, he, putAt_len _ _ _ (by rw [ih]; have h3 := hl.2.2.1; have h2 := hl.2.1; have h1 := h.1; simp only [Array.length_toList]; change _ + (keptT ls[k] _).size ≤ _; omega), ih]
    · rw [List.take_of_length_le (by omega)]
      rw [List.take_of_length_le (by omega)] at ih
      exact ih
def crashStr (safe : ByteArray) (ls : List Ln) (ks : List Int) : ByteArray := ⟨(crashL safe.data.toList (ls.zip ks)).toArray⟩
theorem keptOf_any (w : World) (l : Ln) (k : Int) :
    Calls Try.prog 49 #[.agg #[.int .i64 l.place, .string l.data, .string l.sent], .int .i64 k] w fun e w' => e = .returned (.string (keptT l k)) ∧ Below w.heap.size w w' := by
  obtain ⟨p, d, s⟩ := l
  unfold keptT
  simp only
  by_cases h2 : k = 2
  · subst h2
    rw [if_pos rfl]
    go_enter Try.func49, Try.ntmps49
    go_wp2
    go_ret
    exact ⟨rfl, by go_grown⟩
  · rw [if_neg h2]
    by_cases h1 : k = 1
    · subst h1
      rw [if_pos rfl]
      go_enter Try.func49, Try.ntmps49
      go_wp2
      go_ret
      exact ⟨rfl, by go_grown⟩
    · rw [if_neg h1]
      have e2 : (k == 2) = false := by simpa using h2
      have e1 : (k == 1) = false := by simpa using h1
      go_enter Try.func49, Try.ntmps49
      go_wp2
      go_ret
      exact ⟨rfl, by go_grown⟩
theorem putLine_kept (w : World) (g cap : Nat) (l : List UInt8) (p : Nat) (dt : ByteArray) (hB : Bytes w g l) (hl : l.length ≤ 1048576) (hle : 64 * p + 64 ≤ l.length) (hd : dt.data.toList.length ≤ 64) (hc : l.length ≤ cap) :
    Calls Try.prog 44 #[.slice (some ⟨g, 0, none⟩) l.length cap, .int .i64 (p : Int), .string dt] w fun e w' => e = .returned (.tuple #[]) ∧ w' = w.setCells g (64 * p) (cellsOfText dt) := by
  have hb1 : 64 * (p : Int) ≤ (l.length : Int) := by omega
  have hcne : ¬ cap = p * 64 := by omega
  have hcp := fun ty => copy_run w g (p * 64) (l.length - p * 64) (cap - p * 64) l dt ty hB (by omega) (by omega)
  clear hB
  go_enter Try.func44, Try.ntmps44
  go_wp2
  go_end0
  exact ⟨rfl, by rw [Nat.mul_comm]⟩
end Go.Proofs.Ytgpmpijaggnocaa.dev
