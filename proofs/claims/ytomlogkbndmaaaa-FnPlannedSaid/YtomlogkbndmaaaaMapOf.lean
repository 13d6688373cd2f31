/-
  MapOf, by the program and by the specification; nothing that was there is written.
-/
import Derived.Test.YtomlogkbndmaaaaBits6
import Derived.Test.YtomlogkbndmaaaaRises
import Derived.BigQuiet
import Derived.Deep.QuietTactic
namespace Go.Proofs.Ytomlogkbndmaaaa.lb
open Go.RowKit
open ints

/-- The number ahead of the k-th one. -/
def prevN (xs : List Int) : Nat → Int
  | 0 => -1
  | k + 1 => xs.getD k 0
def okN (xs : List Int) : Nat → Bool
  | 0 => true
  | k + 1 => okN xs k && (decide (prevN xs k < xs.getD k 0) && decide (xs.getD k 0 < 128))
def setsK (xs : List Int) : Nat → List UInt8
  | 0 => zeros
  | k + 1 => setBit (setsK xs k) (xs.getD k 0).toNat
def mapOfS (xs : List Int) : ByteArray := if okN xs xs.length = true then ⟨(setsK xs xs.length).toArray⟩ else ⟨#[]⟩
set_option maxRecDepth 20000 in
theorem setsK_length (xs : List Int) (k : Nat) : (setsK xs k).length = 64 := by
  induction k with
  | zero => exact zeros_length
  | succ k ih => rw [setsK, setBit_length, ih]
set_option maxRecDepth 20000 in
theorem okN_le (xs : List Int) (k n : Nat) (h : k ≤ n) (hf : okN xs k = false) : okN xs n = false := by
  induction n with
  | zero => rw [show k = 0 by omega] at hf; exact hf
  | succ n ih =>
    by_cases e : k = n + 1
    · rw [← e]; exact hf
    · rw [okN, ih (by omega)]; rfl
set_option maxRecDepth 20000 in
theorem prevN_ge (xs : List Int) (k : Nat) (h : okN xs k = true) : -1 ≤ prevN xs k ∧ (0 < k → 0 ≤ prevN xs k) ∧ prevN xs k < 128 := by
  induction k with
  | zero => simp [prevN]
  | succ k ih =>
    rw [okN, Bool.and_eq_true, Bool.and_eq_true] at h
    obtain ⟨h1, h2, h3⟩ := h
    have := ih h1
    have h2' := of_decide_eq_true h2
    have h3' := of_decide_eq_true h3
    rw [prevN]
    exact ⟨by omega, fun _ => by omega, by omega⟩
set_option maxRecDepth 20000 in
theorem getD_int (xs : List Int) (k : Nat) (h : k < xs.length) : xs[k] = xs.getD k 0 := by
  rw [List.getD_eq_getElem?_getD, List.getElem?_eq_getElem h]; rfl
set_option maxRecDepth 20000 in
theorem prevI_N (xs : List Int) (k : Nat) : prevI xs k = prevN xs k := by cases k <;> rfl
set_option maxRecDepth 20000 in
theorem riseN_okN (xs : List Int) (k : Nat) : riseN xs 127 k = okN xs k := by
  induction k with
  | zero => rfl
  | succ k ih =>
    rw [riseN, okN, ih, prevI_N]
    have : decide (xs.getD k 0 ≤ 127) = decide (xs.getD k 0 < 128) := by
      by_cases h : xs.getD k 0 ≤ 127
      · rw [decide_eq_true h, decide_eq_true (by omega)]
      · rw [decide_eq_false h, decide_eq_false (by omega)]
    rw [this]
set_option maxRecDepth 20000 in
theorem okN_in (xs : List Int) (hok : okN xs xs.length = true) (k : Nat) (hk : k < xs.length) : 0 ≤ xs.getD k 0 ∧ xs.getD k 0 < 128 := by
  have h1 : okN xs (k + 1) = true := by
    cases h : okN xs (k + 1) with
    | true => rfl
    | false => rw [okN_le xs (k + 1) xs.length (by omega) h] at hok; cases hok
  have h2 := prevN_ge xs (k + 1) h1
  exact ⟨h2.2.1 (by omega), h2.2.2⟩
set_option maxRecDepth 20000 in
set_option maxHeartbeats 4000000 in
theorem l6MapOf_any (w : World) (a : Option Addr) (cap : Nat) (xs : List Int) (hn : xs.length ≤ 1048576) (hl : Nums w a xs) (hok : okN xs xs.length = true) :
    Calls Try.prog 65 #[.slice a xs.length cap] w fun e w' => e = .returned (.string ⟨(setsK xs xs.length).toArray⟩) ∧ Below w.heap.size w w' := by
  have hmk : (Instr.makeSlice 22 (.int .i64 64) (.int .i64 64)).run Try.prog w = .ok (.slice (some ⟨w.heap.size, 0, none⟩) 64 64) (w.alloc (.cells (lst (List.replicate 64 0)).toArray 5)) := make_nulls 64 (by omega) w
  have HN : Hid (∀ w', Below w.heap.size w w' → Nums w' a xs) := fun w' h => hl.below h
  have HIN : Hid (∀ k, k < xs.length → 0 ≤ xs.getD k 0 ∧ xs.getD k 0 < 128) := fun k hk => by
    have h1 : okN xs (k + 1) = true := by
      cases h : okN xs (k + 1) with
      | true => rfl
      | false => rw [okN_le xs (k + 1) xs.length (by omega) h] at hok; cases hok
    have h2 := prevN_ge xs (k + 1) h1
    exact ⟨h2.2.1 (by omega), h2.2.2⟩
  have HB0 : Hid (Below w.heap.size w (w.alloc (.cells (lst (List.replicate 64 0)).toArray 5))) := by show Below _ _ _; go_grown
  have HR0 : Hid (bb.Bytes (w.alloc (.cells (lst (List.replicate 64 0)).toArray 5)) w.heap.size zeros) := by
    intro j hj
    have hg : (w.alloc (.cells (lst (List.replicate 64 0)).toArray 5)).heap[w.heap.size]? = some (.cells (lst (List.replicate 64 0)).toArray 5) := heap_alloc_last w _
    refine ⟨?_, frozen_of_row _ _ j _ _ hg⟩
    rw [cell_of_row _ _ j _ _ _ hg]
    exact cs_get zeros j hj
  generalize w.alloc (.cells (lst (List.replicate 64 0)).toArray 5) = w1 at hmk HB0 HR0
  clear hl hok
  go_enter Try.func65, Try.ntmps65
  go_wp2
  clear hmk
  go_loopw [4] (fun i wr => ∃ k : Nat, k ≤ xs.length ∧ i = .int .i64 (k : Int) ∧ bb.Bytes wr w.heap.size (setsK xs k) ∧ Below w.heap.size w wr) (fun i _ => xs.length - (intOf i).toNat)
  case atStart => exact ⟨0, Nat.zero_le _, rfl, HR0.out, HB0.out⟩
  case round =>
    obtain ⟨k, hk, rfl, hrow, hb⟩ := hrel
    have HR : Hid (bb.Bytes wr w.heap.size (setsK xs k)) := hrow
    have HB : Hid (Below w.heap.size w wr) := hb
    clear hrow hb
    have hsl := setsK_length xs k
    by_cases hlt : k < xs.length
    · have hlti : (k : Int) < (xs.length : Int) := by omega
      have hk0 : (0 : Int) ≤ (k : Int) := by omega
      obtain ⟨b, off, rfl, cx⟩ := HN.out wr HB.out k hlt
      rw [getD_int xs k hlt] at cx
      have HSS : Hid (setsK xs (k + 1) = setBit (setsK xs k) (xs.getD k 0).toNat) := rfl
      obtain ⟨hx0, hx1⟩ := HIN.out k hlt
      generalize xs.getD k 0 = x at cx HSS hx0 hx1
      obtain ⟨g, rfl⟩ := Int.eq_ofNat_of_zero_le hx0
      rw [Int.toNat_natCast] at HSS
      generalize setsK xs k = cur at HR HSS hsl
      have c0 := (HR.out (g / 8) (by omega)).1
      rw [getD_at _ (g / 8) (by omega)] at c0
      have f0 := (HR.out (g / 8) (by omega)).2
      have HO : Hid (bits BinOp.or IntKind.u8 ((cur.getD (g / 8) 0).toNat : Int) (2 ^ (g % 8) % 256) = ((cur.getD (g / 8) 0 ||| bitOf g).toNat : Int)) := or_walk _ _
      have HSB : Hid (setBit cur g = cur.set (g / 8) (cur.getD (g / 8) 0 ||| bitOf g)) := rfl
      generalize cur.getD (g / 8) 0 = x at c0 HO HSB
      have hq : (g : Int) / 8 < 64 := by omega
      have hq0 : (0 : Int) ≤ (g : Int) / 8 := by omega
      have hm0 : (0 : Int) ≤ (g : Int) % 8 := by omega
      have hm1 : (g : Int) % 8 < 8 := by omega
      have HSL : Hid (cur.length = 64) := hsl
      clear hsl hx0
      go_wp2
      go_region
      all_goals go_wp2
      all_goals go_roundw
      case rel =>
        refine ⟨k + 1, by omega, by go_num, ?_, (HB.out.setCell (p := ⟨w.heap.size, g / 8, none⟩) (Nat.le_refl _) _).drew⟩
        rw [HSS.out, HSB.out]
        exact HR.out.set (g / 8) (by have := HSL.out; omega) _ _ (by rw [HO.out])
      case measure => simp [intOf]; omega
    · have hk2 : k = xs.length := by omega
      subst hk2
      have hcv := HR.out.text 64
      rw [hsl] at hcv
      obtain ⟨st, hst⟩ : ∃ st, st = ByteArray.mk (setsK xs xs.length).toArray := ⟨_, rfl⟩
      rw [← hst] at hcv
      have HST : Hid (st = ByteArray.mk (setsK xs xs.length).toArray) := hst
      clear hst hsl
      go_wp2
      go_ret
      exact ⟨by rw [← HST.out]; rfl, HB.out⟩
end Go.Proofs.Ytomlogkbndmaaaa.lb
